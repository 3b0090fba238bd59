/- ours -/
import Derived.Test.YtfhdodopjgfedaaGreatCB49
namespace Go.Proofs.YtfhdodopjgfedaaGreat
open Go.RowKit

theorem doPlan_w (W w : World) (p q c : Nat) (a : Option Nat) (S : Pms) (h : MrIs W w p q c a S) (ok : OkM S) (hW : W.heap.size ≤ w.heap.size) (cl sq act : Int) (s : ByteArray) (to : Int) (hb : (1 ≤ act ∧ act ≤ 3) ∧ (1 ≤ to ∧ to ≤ 3) ∧ s.size ≤ 16) :
    Calls Tryz.prog 10 #[.pointer (some ⟨p, 0, none⟩), .int .i64 cl, .int .i64 sq, .agg (plV act s to)] w fun e w' => ∃ cs a', e = .returned (.agg cs.toArray) ∧ AnsC w' cs (mPlan S cl sq act s to).1 ∧ MrG W w p q c a S w' a' (mPlan S cl sq act s to).2 :=
  mdoPlan_w W w p q c a S h ok hW cl sq (plC act s to) none 0 0 none 0 0 none 0 0 (plC_c w _ _ _) rfl (plC_r hb.1.1 hb.1.2 hb.2.2 (by omega) (by omega)) (by show 0 ≤ act; omega) (by show act ≤ 3; omega) hb.2.2
theorem doPub_w (W w : World) (p q c : Nat) (a : Option Nat) (S : Pms) (h : MrIs W w p q c a S) (ok : OkM S) (cl sq gen to : Int) (h1 : 1 ≤ gen) (h2 : gen ≤ 1073741824) (h3 : to = 0 ∨ to = -1) :
    Calls Tryz.prog 10 #[.pointer (some ⟨p, 0, none⟩), .int .i64 cl, .int .i64 sq, .agg (pubV gen to)] w fun e w' => e = .returned (.agg (ansV (pTold (mPub S gen to).1.code))) ∧ MrG W w p q c a S w' a (mPub S gen to).2 :=
  mdoPub_w W w p q c a S h ok cl sq (pubC gen to) none 0 0 none 0 0 none 0 0 (pubC_c w _ _) rfl (pubC_r h1 h2 h3) h1
structure Fresh1 (S : Pms) (c q : Int) (R : Pans × Pms) : Prop where
  bare : Bare R.1
  r : rAns R.1 = true
  ok : OkM R.2
  xs : R.2.xs = S.xs
  pe : R.1.code = 0 → R.1.gen = S.last + 1 ∧ R.2.pend = R.1 ∧ R.2.last = R.1.gen
  le : R.1.gen ≤ R.2.last
  ll : S.last ≤ R.2.last
  ca : ofT R.2.ca c = ⟨c, q, strOf (encA R.1)⟩
  ge : 0 ≤ R.1.gen
theorem fresh1 (S : Pms) (ok : OkM S) (c q act : Int) (s : ByteArray) (to : Int) (h : (ofT S.ca c).s < q) (hq : 1 ≤ q) (h0 : 0 ≤ c) (h1 : c ≤ 255) (h2 : q ≤ 1073741824) (hb : (1 ≤ act ∧ act ≤ 3) ∧ (1 ≤ to ∧ to ≤ 3) ∧ s.size ≤ 16) : Fresh1 S c q (mPlan S c q act s to) := by
  have hok := mPlan_ok S ok c q act s to (by omega) (by omega) hb.2.2
  have he := plan_fresh S c q act s to h hq h0 h1 h2 (by omega)
  rw [he] at hok ⊢
  obtain ⟨k1, k2, k3, k4, k5, k6⟩ := mBegin_is S ok act s to hb.1.1 hb.1.2 hb.2.2
  obtain ⟨g1, g2, g3⟩ := begin_gen S ok act s to hb.1.1 hb.1.2 hb.2.2
  refine ⟨k3, k4, hok, k5, fun hc => ?_, g1, g2, ?_, (wi_iff.1 (rAns_iff.1 k4).2.2.2.2.2.2.1).1⟩
  · rcases k6 with ⟨e, _⟩ | ⟨_, e2, e3, e4, _⟩
    · exact absurd hc e
    · exact ⟨e2, e4, by rw [e2]; exact e3⟩
  · show ofT (keepT S.ca ⟨c, q, strOf (encA (mBegin S act s to).1)⟩) c = _
    rw [ofT_keep ok.ri, if_pos ⟨rfl, h⟩]
theorem pub_ok (S : Pms) (ok : OkM S) (to : Int) (hp : S.pend.gen = S.last) : (mPub S S.pend.gen to).1.code = 0 ∧ OkM (mPub S S.pend.gen to).2 ∧ (mPub S S.pend.gen to).2.ca = S.ca ∧ (mPub S S.pend.gen to).2.last = S.last := by
  have l0 := ok.l0
  have hok := (mPub_ok S ok S.pend.gen to (by omega)).1
  refine ⟨?_, hok, ?_, ?_⟩
  all_goals
    unfold mPub
    rw [if_neg (by omega), if_neg (by omega)]
  all_goals rfl
end Go.Proofs.YtfhdodopjgfedaaGreat
