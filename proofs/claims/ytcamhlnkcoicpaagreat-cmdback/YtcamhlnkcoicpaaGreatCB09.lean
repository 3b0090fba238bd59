/-
  Sp3, Sp4, Sp5, Sp6, Sp7, Sp8, Sp9, Sp10, Sp12, Open, RefR, RefT, Rest: our texts of these names, laid into one.
-/
import Derived.Test.YtcamhlnkcoicpaaGreatCB08
import Derived.Test.YtcamhlnkcoicpaaGreatCReader
import Derived.Deep.RegionHeld3
import Derived.Test.YtcamhlnkcoicpaaGreatCLi0
import Derived.Test.YtcamhlnkcoicpaaGreatCB04
import Derived.Test.YtcamhlnkcoicpaaGreatCB06
import Derived.Lib.ConvBytes
import Derived.Deep.Slices
import Derived.Deep.Fields
import Derived.BigQuiet
/-
  Split and Join of spans, the program's and the document's own.
-/
namespace Go.Proofs.YtcamhlnkcoicpaaGreat
open Go.RowKit

theorem Tryz.size34 : (Tryz.prog.info? 34).map (·.size) = some 2 := by kernel_rfl
theorem ret_spans {fn : Func} {p q u : Tmp} (h : fn.results = #[.cell p 34, .cell q 34, .tmp u]) (tmps : Array Value) (w : World) (g k : Nat) (x y x2 y2 : Value) (hp : tmps.getD p undef = .pointer (some ⟨g, 0, none⟩)) (hg : w.heap[g]? = some (.cells #[x, y] 34 (0, 0))) (hq : tmps.getD q undef = .pointer (some ⟨k, 0, none⟩)) (hk : w.heap[k]? = some (.cells #[x2, y2] 34 (0, 0))) :
    (results fn tmps).run Tryz.prog w = .ok (.tuple #[.agg #[x, y], .agg #[x2, y2], tmps.getD u undef]) w := by
  have hl := run_loadVar_row (P := Tryz.prog) w g 34 34 _ (0, 0) _ hg Tryz.underlying34 rfl Tryz.size34
  have hl2 := run_loadVar_row (P := Tryz.prog) w k 34 34 _ (0, 0) _ hk Tryz.underlying34 rfl Tryz.size34
  have hp' : tmps[p]?.getD undef = .pointer (some ⟨g, 0, none⟩) := by simpa using hp
  have hq' : tmps[q]?.getD undef = .pointer (some ⟨k, 0, none⟩) := by simpa using hq
  simp only [results, h]
  simp [Sem.run_bind, Result.andThen, hp', hq', asAddr, hl, hl2]
/-- A box of a span, and two more for what comes of it. -/
theorem spBoxes3 (w : World) (a b c : Array Value) (t : TypeId) : Moves [] w (((w.alloc (.cells a t)).alloc (.cells b t)).alloc (.cells c t)) ∧ (((w.alloc (.cells a t)).alloc (.cells b t)).alloc (.cells c t)).heap[w.heap.size]? = some (.cells a t (0, 0)) ∧ (((w.alloc (.cells a t)).alloc (.cells b t)).alloc (.cells c t)).heap[w.heap.size + 1]? = some (.cells b t (0, 0)) ∧ (((w.alloc (.cells a t)).alloc (.cells b t)).alloc (.cells c t)).heap[w.heap.size + 1 + 1]? = some (.cells c t (0, 0)) := by
  obtain ⟨m, h1, h2⟩ := spBoxes2 w a b t
  refine ⟨m.alloc _, ((Moves.refl [] _).alloc _).at h1 (by simp), ((Moves.refl [] _).alloc _).at h2 (by simp), ?_⟩
  have h := heap_alloc_new ((w.alloc (.cells a t)).alloc (.cells b t)) (.cells c t)
  rwa [show ((w.alloc (.cells a t)).alloc (.cells b t)).heap.size = w.heap.size + 1 + 1 from by simp] at h

/-- Two boxes, each stored into. -/
theorem spStored {w : World} {p q : Nat} {x0 x1 y0 y1 a b c d : Value} {t : TypeId} (hp : w.heap[p]? = some (.cells #[x0, x1] t (0, 0))) (hq : w.heap[q]? = some (.cells #[y0, y1] t (0, 0))) (hne : p ≠ q) :
    ((((w.setCell ⟨p, 0, none⟩ a).setCell ⟨p, 1, none⟩ b).setCell ⟨q, 0, none⟩ c).setCell ⟨q, 1, none⟩ d).heap[p]? = some (.cells #[a, b] t (0, 0)) ∧ ((((w.setCell ⟨p, 0, none⟩ a).setCell ⟨p, 1, none⟩ b).setCell ⟨q, 0, none⟩ c).setCell ⟨q, 1, none⟩ d).heap[q]? = some (.cells #[c, d] t (0, 0)) ∧ Moves [p, q] w ((((w.setCell ⟨p, 0, none⟩ a).setCell ⟨p, 1, none⟩ b).setCell ⟨q, 0, none⟩ c).setCell ⟨q, 1, none⟩ d) := by
  have m1 : Moves [p] w ((w.setCell ⟨p, 0, none⟩ a).setCell ⟨p, 1, none⟩ b) := (((Moves.refl [p] w).setCell (p := ⟨p, 0, none⟩) (.inl (by simp)) a).setCell (p := ⟨p, 1, none⟩) (.inl (by simp)) b)
  have h1 : ((w.setCell ⟨p, 0, none⟩ a).setCell ⟨p, 1, none⟩ b).heap[p]? = some (.cells #[a, b] t (0, 0)) := heap_set (i := 1) (heap_set (i := 0) hp a) b
  have h2 := m1.at hq (by simpa using Ne.symm hne)
  generalize (w.setCell ⟨p, 0, none⟩ a).setCell ⟨p, 1, none⟩ b = w1 at *
  have m2 : Moves [q] w1 ((w1.setCell ⟨q, 0, none⟩ c).setCell ⟨q, 1, none⟩ d) := (((Moves.refl [q] w1).setCell (p := ⟨q, 0, none⟩) (.inl (by simp)) c).setCell (p := ⟨q, 1, none⟩) (.inl (by simp)) d)
  exact ⟨m2.at h1 (by simpa using hne), heap_set (i := 1) (heap_set (i := 0) h2 c) d, (m1.mono (by simp)).then (m2.mono (by simp))⟩

set_option maxRecDepth 100000 in
set_option maxHeartbeats 1000000 in
theorem spSplit_no (lo hi t : ByteArray) (w : World) (hc : spC ⟨lo, hi⟩ t = false) : Calls Tryz.prog 98 #[.agg #[.string lo, .string hi], .string t] w fun e w' => e = .returned (.tuple #[.agg #[.string ⟨#[]⟩, .string ⟨#[]⟩], .agg #[.string ⟨#[]⟩, .string ⟨#[]⟩], .bool false]) ∧ Moves [] w w' := by
  obtain ⟨m1, b0, b1, b2⟩ := spBoxes3 w #[.string lo, .string hi] #[.string ⟨#[]⟩, .string ⟨#[]⟩] #[.string ⟨#[]⟩, .string ⟨#[]⟩] 34
  unfold spC zeq at hc
  cases h1 : spR ⟨lo, hi⟩ <;> cases h2 : spE t <;> cases h3 : (t.toList == lo.toList) <;> cases h4 : spH ⟨lo, hi⟩ t
  all_goals rw [h1, h2, h3, h4] at hc
  all_goals (first | (exact absurd hc (by decide)) | skip)
  all_goals clear hc
  all_goals go_enter Tryz.func98, Tryz.ntmps98
  all_goals go_wp2_with (first | (go_at_call 70; refine (spRight_w _ _ _).mono ?_; rintro _ w2 ⟨rfl, m2⟩; simp only [h1]; replace b0 := m2.at b0 (by simp); replace b1 := m2.at b1 (by simp); replace b2 := m2.at b2 (by simp); obtain ⟨c0, c1, _, _⟩ := sp_cells b0; obtain ⟨d0, d1, f0, f1⟩ := sp_cells b1; obtain ⟨e0, e1, g0, g1⟩ := sp_cells b2) | (go_at_call 120; refine (spMay_w _ _).mono ?_; rintro _ _ ⟨rfl, rfl⟩; simp only [h2]) | (go_at_call 142; refine (spHas_w _ _ _ _).mono ?_; rintro _ w3 ⟨rfl, m3⟩; simp only [h4]; replace b0 := m3.at b0 (by simp); replace b1 := m3.at b1 (by simp); replace b2 := m3.at b2 (by simp); clear c0 c1 d0 d1 e0 e1; clear f0 f1 g0 g1; obtain ⟨c0, c1, _, _⟩ := sp_cells b0; obtain ⟨d0, d1, f0, f1⟩ := sp_cells b1; obtain ⟨e0, e1, g0, g1⟩ := sp_cells b2))
  all_goals try simp only [Exit.inBlock, Exit.then]
  all_goals refine bodyPost_ret (ret_spans rfl _ _ _ _ _ _ _ _ rfl (spStored b1 b2 (by simp)).1 rfl (spStored b1 b2 (by simp)).2.1) rfl ⟨rfl, ?_⟩
  all_goals exact (by first | exact (m1.then m2).then m3 | exact m1.then m2 : Moves [] w _).trans (spStored b1 b2 (by simp)).2.2 (fun x hx => .inr (by simp at hx; omega))

set_option maxRecDepth 100000 in
set_option maxHeartbeats 1000000 in
theorem spSplit_yes (lo hi t : ByteArray) (w : World) (hc : spC ⟨lo, hi⟩ t = true) : Calls Tryz.prog 98 #[.agg #[.string lo, .string hi], .string t] w fun e w' => e = .returned (.tuple #[.agg #[.string lo, .string t], .agg #[.string t, .string hi], .bool true]) ∧ Moves [] w w' := by
  obtain ⟨m1, b0, b1, b2⟩ := spBoxes3 w #[.string lo, .string hi] #[.string ⟨#[]⟩, .string ⟨#[]⟩] #[.string ⟨#[]⟩, .string ⟨#[]⟩] 34
  unfold spC zeq at hc
  simp only [Bool.and_eq_true, Bool.not_eq_true'] at hc
  obtain ⟨⟨⟨h1, h2⟩, h3⟩, h4⟩ := hc
  go_enter Tryz.func98, Tryz.ntmps98
  go_wp2_with (first | (go_at_call 70; refine (spRight_w _ _ _).mono ?_; rintro _ w2 ⟨rfl, m2⟩; simp only [h1]; replace b0 := m2.at b0 (by simp); replace b1 := m2.at b1 (by simp); replace b2 := m2.at b2 (by simp); obtain ⟨c0, c1, _, _⟩ := sp_cells b0; obtain ⟨d0, d1, f0, f1⟩ := sp_cells b1; obtain ⟨e0, e1, g0, g1⟩ := sp_cells b2) | (go_at_call 120; refine (spMay_w _ _).mono ?_; rintro _ _ ⟨rfl, rfl⟩; simp only [h2]) | (go_at_call 142; refine (spHas_w _ _ _ _).mono ?_; rintro _ w3 ⟨rfl, m3⟩; simp only [h4]; replace b0 := m3.at b0 (by simp); replace b1 := m3.at b1 (by simp); replace b2 := m3.at b2 (by simp); clear c0 c1 d0 d1 e0 e1; clear f0 f1 g0 g1; obtain ⟨c0, c1, _, _⟩ := sp_cells b0; obtain ⟨d0, d1, f0, f1⟩ := sp_cells b1; obtain ⟨e0, e1, g0, g1⟩ := sp_cells b2))
  go_region
  go_wp2_with fail
  try simp only [Exit.inBlock, Exit.then]
  refine bodyPost_ret (ret_spans rfl _ _ _ _ _ _ _ _ rfl (spStored b1 b2 (by simp)).1 rfl (spStored b1 b2 (by simp)).2.1) rfl ⟨rfl, ?_⟩
  exact (((m1.then m2).then m3).trans (spStored b1 b2 (by simp)).2.2 (fun x hx => .inr (by simp at hx; omega))).drew

end Go.Proofs.YtcamhlnkcoicpaaGreat
/-
  Join of spans, the program's and the document's own.
-/
namespace Go.Proofs.YtcamhlnkcoicpaaGreat
open Go.RowKit

theorem spStored1 {w : World} {p : Nat} {x0 x1 a b : Value} {t : TypeId} (hp : w.heap[p]? = some (.cells #[x0, x1] t (0, 0))) :
    ((w.setCell ⟨p, 0, none⟩ a).setCell ⟨p, 1, none⟩ b).heap[p]? = some (.cells #[a, b] t (0, 0)) ∧ Moves [p] w ((w.setCell ⟨p, 0, none⟩ a).setCell ⟨p, 1, none⟩ b) :=
  ⟨heap_set (i := 1) (heap_set (i := 0) hp a) b, (((Moves.refl [p] w).setCell (p := ⟨p, 0, none⟩) (.inl (by simp)) a).setCell (p := ⟨p, 1, none⟩) (.inl (by simp)) b)⟩

end Go.Proofs.YtcamhlnkcoicpaaGreat
/-
  Lists of spans, as plain data and as they lie; Cover.
-/
namespace Go.Proofs.YtcamhlnkcoicpaaGreat
open Go.RowKit

end Go.Proofs.YtcamhlnkcoicpaaGreat
/-
  The document's own Cover.
-/
namespace Go.Proofs.YtcamhlnkcoicpaaGreat
open Go.RowKit

end Go.Proofs.YtcamhlnkcoicpaaGreat
/-
  Apart of spans, the program's and the document's own.
-/
namespace Go.Proofs.YtcamhlnkcoicpaaGreat
open Go.RowKit

end Go.Proofs.YtcamhlnkcoicpaaGreat
/-
  The document's own Apart.
-/
namespace Go.Proofs.YtcamhlnkcoicpaaGreat
open Go.RowKit

end Go.Proofs.YtcamhlnkcoicpaaGreat
/-
  law7's known, made, two, lists: they return, two and lists and known true.
-/
namespace Go.Proofs.YtcamhlnkcoicpaaGreat
open Go.RowKit

end Go.Proofs.YtcamhlnkcoicpaaGreat
/-
  law7's two and made.
-/
namespace Go.Proofs.YtcamhlnkcoicpaaGreat
open Go.RowKit

theorem ret_span {fn : Func} {p : Tmp} (h : fn.results = #[.cell p 34]) (tmps : Array Value) (w : World) (g : Nat) (x y : Value) (hp : tmps.getD p undef = .pointer (some ⟨g, 0, none⟩)) (hg : w.heap[g]? = some (.cells #[x, y] 34 (0, 0))) :
    (results fn tmps).run Tryz.prog w = .ok (.agg #[x, y]) w :=
  results_cell_row h tmps w g 34 _ (0, 0) _ hp hg Tryz.underlying34 rfl Tryz.size34

end Go.Proofs.YtcamhlnkcoicpaaGreat
/-
  Spans as bytes: what Write leaves, what Take takes of it.
-/
namespace Go.Proofs.YtcamhlnkcoicpaaGreat
open Go.RowKit

end Go.Proofs.YtcamhlnkcoicpaaGreat
/-
  Arguments opened: a slice of bytes and a slice of things to be written or read, as the rows' reading finds them in memory.
-/
namespace Go.Proofs.YtcamhlnkcoicpaaGreat
open Go.RowKit
open Go.ChangeShapes Go.WideShapes

theorem isB_of_trod {H : Type} {enc : TypeId × Value → H} {W : World} {base : Nat} {spare : Nat → Bool} {held : Bool} {fuel : Nat} {v : Value} {x : DataW H × List MemPlace}
    (h : DataW.trod enc Tryz.prog W base spare held fuel 23 [v] = some x) : ∃ g bs, IsB W g v bs ∧ ∀ z ∈ bs, z < 256 := by
  rcases Go.Deep.open_slice1 Tryz.underlying23 (by kernel_rfl) h with ⟨hcs, _⟩ | ⟨ad, len, cap, m, n, V, D, Pls, hcs, _, hl, hm, hmm, _, hx⟩
  · simp at hcs
    subst hcs
    exact ⟨0, [], ⟨_, _, _, rfl, rfl, Nat.le_refl _, fun _ => rfl, .inl rfl⟩, by simp⟩
  · simp at hcs
    subst hcs
    have hlm : len ≤ m := by rw [hmm]; split <;> omega
    have each : ∀ i, i < len → ∃ b : Nat, b < 256 ∧ V i = .int .u8 (b : Int) := by
      intro i hi
      obtain ⟨_, hd⟩ := hx i (by omega)
      obtain ⟨z, hz, _, hw⟩ := DataW.trod_int Tryz.underlying5 hd
      simp at hz
      have hb : 0 ≤ z ∧ z ≤ 255 := by simpa [Lit.wf, IntKind.min, IntKind.max, IntKind.signed, IntKind.bits] using hw
      exact ⟨z.toNat, by omega, by rw [hz]; congr 1; omega⟩
    obtain ⟨f, hf⟩ := Go.Deep.choose_lt each
    refine ⟨ad.block, (List.range len).map f, ⟨_, _, _, rfl, by simp, hl, fun h => by simp at h, ?_⟩, ?_⟩
    · by_cases h0 : len = 0
      · subst h0; exact .inl rfl
      · have c0 := (hx 0 (by omega)).1
        obtain ⟨b, off, spot⟩ := ad
        have hspot : spot = none := by simpa [Addr.add] using World.cell?_spot c0
        subst hspot
        refine .inr ⟨off, rfl, fun j z hj => ?_⟩
        have hjl : j < len := by
          have := (List.getElem?_eq_some_iff.1 hj).1
          simpa using this
        have hz : z = f j := by
          simp [hjl] at hj
          exact hj.symm
        have cj := (hx j (by omega)).1
        have e : (⟨b, off, none⟩ : Addr).add j = ⟨b, off + j, none⟩ := by unfold Addr.add; split <;> simp_all
        rw [e, (hf j hjl).2, ← hz] at cj
        exact cj
    · intro z hz
      simp at hz
      obtain ⟨j, hj, rfl⟩ := hz
      exact (hf j hj).1

theorem float_of_trod {H : Type} {enc : TypeId × Value → H} {W : World} {base : Nat} {spare : Nat → Bool} {held : Bool} {fuel : Nat} {v : Value} {x : DataW H × List MemPlace}
    (h : DataW.trod enc Tryz.prog W base spare held fuel 22 [v] = some x) : ∃ b : Nat, Pl.Fits b ∧ v = .float .f64 b := by
  cases fuel with
  | zero => simp [DataW.trod] at h
  | succ n =>
    simp only [DataW.trod, Tryz.underlying22] at h
    cases v <;> simp at h
    rename_i k b
    obtain ⟨⟨rfl, hwf⟩, _⟩ := h
    exact ⟨b, Pl.fits_of_wf hwf, rfl⟩

end Go.Proofs.YtcamhlnkcoicpaaGreat
/-
  What the document's own reading does: each method takes the bytes that the document says and returns what they stand for, or marks itself as bad; no other memory is written.
-/
namespace Go.Proofs.YtcamhlnkcoicpaaGreat
open Go.RowKit

theorem isB_nil (w : World) (g : Nat) : IsB w g (.slice none 0 0) [] := ⟨_, _, _, rfl, rfl, Nat.le_refl _, fun _ => rfl, .inl rfl⟩

end Go.Proofs.YtcamhlnkcoicpaaGreat
/-
  What the document's own reading of a Text does, and what 'rest' does where nothing can be read: it marks the document's Reader as bad.
-/
namespace Go.Proofs.YtcamhlnkcoicpaaGreat
open Go.RowKit

end Go.Proofs.YtcamhlnkcoicpaaGreat
/-
  What 'rest' does where the next thing cannot be read: it marks the document's Reader as bad.
-/
namespace Go.Proofs.YtcamhlnkcoicpaaGreat
open Go.RowKit

/-- Read, whatever its function: both ways. -/
theorem read_any (F : Nat) (cap : Array Value) (v : Value) (g : Nat) (bs : List Nat) (w : World) (hv : IsB w g v bs) (hg : g ≠ w.heap.size) (Q1 Q2 : List Nat → World → Prop)
    (hcf : ∀ (args : Array Value) (w : World), (callFunc F args).run Tryz.prog w = .ok (.enter F args) w)
    (hf : ∀ w1, Begun w1 w.heap.size g bs false → Moves [] w w1 → Calls Tryz.prog F (#[.pointer (some ⟨w.heap.size, 0, none⟩)] ++ cap) w1 fun e w2 =>
      (e = .returned (.tuple #[]) ∧ ∃ bs', Begun w2 w.heap.size g bs' false ∧ Q1 bs' w2) ∨ (e = .panicked (stop w.heap.size) ∧ ∃ bs', Begun w2 w.heap.size g bs' true ∧ Q2 bs' w2)) :
    Calls Tryz.prog 56 #[v, .func (.func F) #[] cap] w fun e w' => (∃ bs', e = .returned (.bool ((bs'.length : Int) == 0)) ∧ ∃ w2, Q1 bs' w2 ∧ Moves [w.heap.size] w2 w') ∨ (e = .returned (.bool false) ∧ ∃ bs' w2, Q2 bs' w2 ∧ Moves [w.heap.size] w2 w') := by
  have hmf : ∀ (fn : Fn) (first cap : Array Value) (w : World), (Instr.makeFunc fn first cap).run Tryz.prog w = .ok (.func fn first cap) w := fun _ _ _ _ => rfl
  have hne : ∀ w : World, (binOp .eql 112 (.func (.func F) #[] cap) .nilFunc).run Tryz.prog w = .ok (.bool false) w := by intro w; kernel_rfl
  obtain ⟨hb1, hm1⟩ := begun hv hg
  obtain ⟨ad, n, c, rfl, hn, _⟩ := hv
  go_enter_defers Tryz.func56, Tryz.ntmps56
  go_wp2_with fail
  refine (hf _ hb1 hm1).mono ?_
  clear hf hb1 hm1
  rintro _ w2 (⟨rfl, bs', ⟨hr2, hq2⟩, hQ2⟩ | ⟨rfl, bs', ⟨hr2, hq2⟩, hQ2⟩)
  · have hr2' := hr2
    obtain ⟨v2, hp2, hv2, hg2⟩ := hr2'
    obtain ⟨e0, e1, e2, ef0, ef1, ef2⟩ := three_cells hp2
    have cq := cell_of_one hq2
    go_wp2_with (go_at_call 106; refine (rleft_w _ g bs' false _ hr2).mono ?_; rintro _ _ ⟨rfl, rfl⟩)
    refine leaves_cons (f := 103) (args := #[.pointer (some ⟨w.heap.size + 1, 0, none⟩)]) (by simp) (by simp [go_sem]) ?_
    refine (caught_idle w.heap.size (w.heap.size + 1) _ hr2.rdAt hq2).mono ?_
    rintro e u' w3 ⟨rfl, rfl, m3⟩
    exact ⟨_, results_tmp rfl _ _ _, .inl ⟨bs', rfl, w2, hQ2, m3⟩⟩
  · go_wp2_with fail
    refine leaves_cons (f := 103) (args := #[.pointer (some ⟨w.heap.size + 1, 0, none⟩)]) (by simp) (by simp [go_sem]) ?_
    refine (caught_stop w.heap.size (w.heap.size + 1) _ hr2.rdAt hq2 (by omega)).mono ?_
    rintro e u' w3 ⟨rfl, rfl, m3⟩
    simp only [settle]
    exact ⟨_, results_tmp rfl _ _ _, .inr ⟨rfl, bs', w2, hQ2, m3⟩⟩

end Go.Proofs.YtcamhlnkcoicpaaGreat
