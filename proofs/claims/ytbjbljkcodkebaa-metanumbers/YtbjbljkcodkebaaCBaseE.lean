/-
  RefR, RefT, Rest: our texts of these names, laid into one.
-/
import Derived.Test.YtbjbljkcodkebaaCBaseD
import Derived.BigQuiet
/-
  What the document's own reading does: each method takes the bytes that the document says and returns what they stand for, or marks itself as bad; no other memory is written.
-/
namespace Go.Proofs.Ytbjbljkcodkebaa
open Go.RowKit

end Go.Proofs.Ytbjbljkcodkebaa
/-
  What the document's own reading of a Text does, and what 'rest' does where nothing can be read: it marks the document's Reader as bad.
-/
namespace Go.Proofs.Ytbjbljkcodkebaa
open Go.RowKit

end Go.Proofs.Ytbjbljkcodkebaa
/-
  What 'rest' does where the next thing cannot be read: it marks the document's Reader as bad.
-/
namespace Go.Proofs.Ytbjbljkcodkebaa
open Go.RowKit

end Go.Proofs.Ytbjbljkcodkebaa
