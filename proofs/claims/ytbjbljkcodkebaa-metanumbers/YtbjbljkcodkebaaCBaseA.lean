/-
  Plain, Bits, Plain2, Plain3: our texts of these names, laid into one.
-/
import Derived.Laws.FloatArith
import Derived.Laws.BitsAllLaws
import Derived.RowKit
/-
  Plain facts on the words of IEEE 754 doubles (no program in sight): which words are no numbers, what the one word of all of them is, in which order words stand, what a sum is. No condition but that a word fits 64 bits, where it is said.
-/
namespace Go.Proofs.Ytbjbljkcodkebaa.Pl
open Ieee

end Go.Proofs.Ytbjbljkcodkebaa.Pl
/-
  Plain facts on the bit operations that the num package and the document's own answer use: the sign bit, the exponent's bits, the fraction's bits of a 64-bit word, in plain arithmetic. Condition: the word fits 64 bits.
-/
namespace Go.Proofs.Ytbjbljkcodkebaa.Pl

end Go.Proofs.Ytbjbljkcodkebaa.Pl
/-
  More plain facts on words of doubles: how a word stands to zero and to the greatest number, what its negative is, which of the six kinds it is. Condition: the word fits 64 bits.
-/
namespace Go.Proofs.Ytbjbljkcodkebaa.Pl
open Ieee

end Go.Proofs.Ytbjbljkcodkebaa.Pl
/-
  The order of words is an order, without any program: of two words one is below or they are one; what is below what is below is below; it agrees with the order of floats where both are numbers. Condition: the words fit 64 bits.
-/
namespace Go.Proofs.Ytbjbljkcodkebaa.Pl
open Ieee Go.RowKit

end Go.Proofs.Ytbjbljkcodkebaa.Pl
