/-
  Open, RefR, RefT, Rest, Val0, Val1, Val2, Val3, Val4, Val5, Val6, Any, Any2, Peel: our texts of these names, laid into one.
-/
import Derived.Test.YtedehhnhmkeglaaCB01
import Derived.Deep.Slices
import Derived.Deep.Fields
import Derived.BigQuiet
import Derived.Lib.BytesEntry
import Derived.Laws.Externs
import Derived.Laws.ResultCell
import Derived.Deep.RegionHeld3
import Derived.Orders
import Derived.Laws.Tables
import Derived.OrdersHeld
/-
  Arguments opened: a slice of bytes and a slice of things to be written or read, as the rows' reading finds them in memory.
-/
namespace Go.Proofs.Ytedehhnhmkeglaa
open Go.RowKit
open Go.ChangeShapes Go.WideShapes

theorem isB_of_trod {H : Type} {enc : TypeId × Value → H} {W : World} {base : Nat} {spare : Nat → Bool} {held : Bool} {fuel : Nat} {v : Value} {x : DataW H × List MemPlace}
    (h : DataW.trod enc Try.prog W base spare held fuel 30 [v] = some x) : ∃ g bs, IsB W g v bs ∧ ∀ z ∈ bs, z < 256 := by
  rcases Go.Deep.open_slice1 Try.underlying30 (by kernel_rfl) h with ⟨hcs, _⟩ | ⟨ad, len, cap, m, n, V, D, Pls, hcs, _, hl, hm, hmm, _, hx⟩
  · simp at hcs
    subst hcs
    exact ⟨0, [], ⟨_, _, _, rfl, rfl, Nat.le_refl _, fun _ => rfl, .inl rfl⟩, by simp⟩
  · simp at hcs
    subst hcs
    have hlm : len ≤ m := by rw [hmm]; split <;> omega
    have each : ∀ i, i < len → ∃ b : Nat, b < 256 ∧ V i = .int .u8 (b : Int) := by
      intro i hi
      obtain ⟨_, hd⟩ := hx i (by omega)
      obtain ⟨z, hz, _, hw⟩ := DataW.trod_int Try.underlying5 hd
      simp at hz
      have hb : 0 ≤ z ∧ z ≤ 255 := by simpa [Lit.wf, IntKind.min, IntKind.max, IntKind.signed, IntKind.bits] using hw
      exact ⟨z.toNat, by omega, by rw [hz]; congr 1; omega⟩
    obtain ⟨f, hf⟩ := Go.Deep.choose_lt each
    refine ⟨ad.block, (List.range len).map f, ⟨_, _, _, rfl, by simp, hl, fun h => by simp at h, ?_⟩, ?_⟩
    · by_cases h0 : len = 0
      · subst h0; exact .inl rfl
      · have c0 := (hx 0 (by omega)).1
        obtain ⟨b, off, spot⟩ := ad
        have hspot : spot = none := by simpa [Addr.add] using World.cell?_spot c0
        subst hspot
        refine .inr ⟨off, rfl, fun j z hj => ?_⟩
        have hjl : j < len := by
          have := (List.getElem?_eq_some_iff.1 hj).1
          simpa using this
        have hz : z = f j := by
          simp [hjl] at hj
          exact hj.symm
        have cj := (hx j (by omega)).1
        have e : (⟨b, off, none⟩ : Addr).add j = ⟨b, off + j, none⟩ := by unfold Addr.add; split <;> simp_all
        rw [e, (hf j hjl).2, ← hz] at cj
        exact cj
    · intro z hz
      simp at hz
      obtain ⟨j, hj, rfl⟩ := hz
      exact (hf j hj).1

end Go.Proofs.Ytedehhnhmkeglaa
/-
  What the document's own reading does: each method takes the bytes that the document says and returns what they stand for, or marks itself as bad; no other memory is written.
-/
namespace Go.Proofs.Ytedehhnhmkeglaa
open Go.RowKit

end Go.Proofs.Ytedehhnhmkeglaa
/-
  What the document's own reading of a Text does, and what 'rest' does where nothing can be read: it marks the document's Reader as bad.
-/
namespace Go.Proofs.Ytedehhnhmkeglaa
open Go.RowKit

end Go.Proofs.Ytedehhnhmkeglaa
/-
  What 'rest' does where the next thing cannot be read: it marks the document's Reader as bad.
-/
namespace Go.Proofs.Ytedehhnhmkeglaa
open Go.RowKit

end Go.Proofs.Ytedehhnhmkeglaa
/-
  Values as plain data: their order, by Kind, bytes and number; what it is an order by. Plain facts, no program in sight.
-/
namespace Go.Proofs.Ytedehhnhmkeglaa
open Go.RowKit

end Go.Proofs.Ytedehhnhmkeglaa
/-
  What bytes' comparison and package value's functions do: for every value the call returns, and writes nothing that was there.
-/
namespace Go.Proofs.Ytedehhnhmkeglaa
open Go.RowKit

end Go.Proofs.Ytedehhnhmkeglaa
/-
  What package value's Order and Same do: for every two values the call returns their order, and writes nothing that was there.
-/
namespace Go.Proofs.Ytedehhnhmkeglaa
open Go.RowKit

end Go.Proofs.Ytedehhnhmkeglaa
/-
  What package value's Canon, Plus and Right do: for every value the call returns what the chapter says, and writes nothing that was there.
-/
namespace Go.Proofs.Ytedehhnhmkeglaa
open Go.RowKit

@[go_sem] theorem run_store_flt {P : Program} (w : World) (a : Addr) (m : Mode) (k : FloatKind) (b : Nat) : (store a (.float k b) m).run P w = stored P w a (.float k b) m := run_store P w a _ m rfl

end Go.Proofs.Ytedehhnhmkeglaa
/-
  What package value's Plus and Right do: for every value the call returns what the chapter says, and writes nothing that was there.
-/
namespace Go.Proofs.Ytedehhnhmkeglaa
open Go.RowKit

end Go.Proofs.Ytedehhnhmkeglaa
/-
  What the drawn value and the law's own 'known' do: the call returns a value that may be, or true, and writes nothing that was there.
-/
namespace Go.Proofs.Ytedehhnhmkeglaa
open Go.RowKit

end Go.Proofs.Ytedehhnhmkeglaa
/-
  The contracts of values once more, told of by an elder world that the running one has grown out of.
-/
namespace Go.Proofs.Ytedehhnhmkeglaa
open Go.RowKit

end Go.Proofs.Ytedehhnhmkeglaa
/-
  A region that draws its order, by one condition that every operation keeps, whichever comes up: plain laws over the guide's own, no program in sight.
-/
namespace Go.Proofs.Ytedehhnhmkeglaa
open Go.RowKit

section
variable {P : Program} {ops : Array Oper} {Q : Exit → Act → World → Prop} {a0 : Act} {W : World} {n : Nat} {L C D : Nat → Nat} {T : TypeId} {Z : Array Value} {src : Nat → Value} {Res : Nat → Value → Array Value → Prop}

end
end Go.Proofs.Ytedehhnhmkeglaa
/-
  The operations of 'x1, .., xn := f1(y1), .., fn(yn)' over boxed values, each by what it does to a state and a world.
-/
namespace Go.Proofs.Ytedehhnhmkeglaa
open Go.RowKit

end Go.Proofs.Ytedehhnhmkeglaa
/-
  A drawn region whose last operation waits for all the others: the others in any order, then it. Plain laws, no program in sight.
-/
namespace Go.Proofs.Ytedehhnhmkeglaa
open Go.RowKit

end Go.Proofs.Ytedehhnhmkeglaa
