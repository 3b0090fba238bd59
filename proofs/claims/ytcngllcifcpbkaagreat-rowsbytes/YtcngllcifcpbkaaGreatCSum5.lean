/- ours -/
import Derived.Test.YtcngllcifcpbkaaGreatCBaseK
import Derived.Test.YtcngllcifcpbkaaGreatCBaseY
import Derived.Test.YtcngllcifcpbkaaGreatCBaseA
namespace Go.Proofs.YtcngllcifcpbkaaGreat
open Go.RowKit

def pnum (x : Nat) : Pv := ⟨2, [], x⟩
theorem pvr_num (x : Nat) : pvr (pnum x) = true := by
 unfold pvr vright Pv.vm pnum
 simp
theorem rplus_p (W w : World) (k l : Int) (ad ad' : Option Addr) (n n' cap cap' x y : Nat) (p q : Pv) (ha : VA W [.int .i64 k, .slice ad n cap, .float .f64 x] p) (hb : VA W [.int .i64 l, .slice ad' n' cap', .float .f64 y] q) (m : Moves [] W w) :
  Calls Tryz.prog 92 #[.agg #[.int .i64 k, .slice ad n cap, .float .f64 x], .agg #[.int .i64 l, .slice ad' n' cap', .float .f64 y]] w fun e w' => e = .returned (.tuple #[.agg #[.int .i64 (pPlus p q).kind, .slice none 0 0, .float .f64 (pPlus p q).n], .int .i64 (pPlusE p q)]) ∧ Moves [] w w' := by
 obtain ⟨g, hV, _⟩ := ha.vis
 obtain ⟨g', hV', _⟩ := hb.vis
 obtain ⟨e0, hI⟩ := hV.moves m
 obtain ⟨e0', hI'⟩ := hV'.moves m
 have h1 := rPlus_w _ _ w hI hI'
 rw [← e0, ← e0'] at h1
 refine h1.mono ?_
 rintro e w' ⟨rfl, m2⟩
 refine ⟨?_, m2⟩
 have e1 : plusE (p.vm (.slice ad n cap) g) (q.vm (.slice ad' n' cap') g') = pPlusE p q := rfl
 have e2 : (plusV (p.vm (.slice ad n cap) g) (q.vm (.slice ad' n' cap') g')).val = .agg #[.int .i64 (pPlus p q).kind, .slice none 0 0, .float .f64 (pPlus p q).n] := by
  unfold plusV pPlus Vm.val
  by_cases h : p.kind = 2 ∧ q.kind = 2
  ·rw [if_pos h, if_pos (show (p.vm (.slice ad n cap) g).kind = 2 ∧ (q.vm (.slice ad' n' cap') g').kind = 2 from h)]; rfl
  ·rw [if_neg h, if_neg (show ¬ ((p.vm (.slice ad n cap) g).kind = 2 ∧ (q.vm (.slice ad' n' cap') g').kind = 2) from h)]; rfl
 rw [e1, e2]
theorem VC.num (w : World) {x : Nat} (h : Pl.Fits x) : VC w [.int .i64 2, .slice none 0 0, .float .f64 x] (pnum x) := ⟨none, 0, 0, 0, rfl, isB_nil _ _, h, by simp [pnum], by simp [pnum], .inl rfl⟩
theorem chgs_one (w : World) (c : Pchg) (a : Option Addr) (n cap : Nat) (hv : VA w [.int .i64 c.v.kind, .slice a n cap, .float .f64 c.v.n] c.v) : ChgsAt (w.alloc (.cells #[.int .i64 c.kind, .string c.col, .int .i64 c.t, .int .i64 c.v.kind, .slice a n cap, .float .f64 c.v.n] 101)) (some ⟨w.heap.size, 0, none⟩) [c] := by
 intro k c' hc
 cases k with
 | zero =>
  simp at hc
  subst hc
  have hb := heap_alloc_new w (.cells #[.int .i64 c.kind, .string c.col, .int .i64 c.t, .int .i64 c.v.kind, .slice a n cap, .float .f64 c.v.n] 101)
  refine ⟨_, 0, a, n, cap, rfl, ?_, ?_, ?_, ?_, ?_, ?_, hv.moves ((Moves.refl _ _).alloc _)⟩ <;> (simp only [World.cell?, hb]; rfl)
 | succ k => simp at hc
end Go.Proofs.YtcngllcifcpbkaaGreat
