/- ours -/
import Derived.Test.YtilbbnmhnacnlaaGreatCB46
import Derived.Test.YtilbbnmhnacnlaaGreatCB45
import Derived.Test.YtilbbnmhnacnlaaGreatCB10
/-
  Package master: what any command leaves: the tablets cover all names, the Gens rise.
-/
namespace Go.Proofs.YtilbbnmhnacnlaaGreat
open Go.RowKit

theorem mBegin_last (S : Pms) (act : Int) (s : ByteArray) (to : Int) : (mBegin S act s to).2.grps = S.grps ∧ (mBegin S act s to).2.ca = S.ca ∧ ((mBegin S act s to).1.code = 0 → (mBegin S act s to).1.gen = S.last + 1 ∧ (mBegin S act s to).2.last = S.last + 1) ∧ ((mBegin S act s to).1.code ≠ 0 → (mBegin S act s to).2.last = S.last) := by
  unfold mBegin
  split
  · exact ⟨rfl, rfl, fun h => by simp [pTold] at h, fun _ => rfl⟩
  · split
    · rename_i hc
      exact ⟨rfl, rfl, fun h => absurd h hc, fun _ => rfl⟩
    · split
      · exact ⟨rfl, rfl, fun h => by simp [pTold] at h, fun _ => rfl⟩
      · rename_i hc _
        exact ⟨rfl, rfl, fun _ => ⟨rfl, rfl⟩, fun h => absurd h hc⟩
theorem mPub_last (S : Pms) (g to : Int) : (mPub S g to).2.grps = S.grps ∧ (mPub S g to).2.ca = S.ca ∧ (mPub S g to).2.last = S.last := by
  unfold mPub
  split
  · exact ⟨rfl, rfl, rfl⟩
  · split <;> exact ⟨rfl, rfl, rfl⟩
structure Cov1 (S : Pms) (c q : Int) (C : Pcmd) (R : Pans × Pms) : Prop where
  ok : OkM R.2
  grps : R.2.grps = S.grps
  new : C.kind = 8 → C.act ≠ 0 → R.1.code = 0 → R.1.gen = S.last + 1 ∧ R.2.last = S.last + 1
  old : ¬ (C.kind = 8 ∧ C.act ≠ 0 ∧ R.1.code = 0) → R.2.last = S.last
  ca : (ofT R.2.ca c).s ≤ q
theorem cov1 (S : Pms) (ok : OkM S) (c q : Int) (C : Pcmd) (h : (ofT S.ca c).s < q) (hq : 1 ≤ q) (h0 : 0 ≤ c) (h1 : c ≤ 255) (h2 : q ≤ 1073741824) : Cov1 S c q C (mDo S c q C) := by
  have same : ∀ A : Pans, (¬ (C.kind = 8 ∧ C.act ≠ 0)) → Cov1 S c q C (A, S) := fun A hn => ⟨ok, rfl, fun a b => absurd ⟨a, b⟩ hn, fun _ => rfl, by show (ofT S.ca c).s ≤ q; omega⟩
  unfold mDo
  split
  · split
    · refine ⟨ok, rfl, fun _ _ e => by simp [pTold] at e, fun _ => rfl, ?_⟩
      show (ofT S.ca c).s ≤ q
      omega
    · rename_i hr
      have hr' : rCmd C = true := by simpa using hr
      split
      · exact same _ (by omega)
      · split
        · rename_i hk
          obtain ⟨a0, a3, hat⟩ := rCmd_plan hk hr'
          by_cases ha : C.act = 0
          · unfold mPlan
            rw [if_pos ha]
            exact same _ (by omega)
          · have hok := mPlan_ok S ok c q C.act C.at' C.to a0 a3 (hat ha)
            have he := plan_fresh S c q C.act C.at' C.to h hq h0 h1 h2 (by omega)
            rw [he] at hok ⊢
            obtain ⟨k1, k2, k3, k4⟩ := mBegin_last S C.act C.at' C.to
            refine ⟨hok, k1, fun _ _ e => k3 e, fun hn => k4 (fun e => hn ⟨hk, ha, e⟩), ?_⟩
            show (ofT (keepT S.ca ⟨c, q, strOf (encA (mBegin S C.act C.at' C.to).1)⟩) c).s ≤ q
            rw [ofT_keep ok.ri, if_pos ⟨rfl, h⟩]
            exact Int.le_refl _
        · split
          · rename_i hk
            obtain ⟨k1, _⟩ := mPub_ok S ok C.gen C.to (rCmd_pub hk hr')
            obtain ⟨l1, l2, l3⟩ := mPub_last S C.gen C.to
            refine ⟨k1, l1, fun e => by omega, fun _ => l3, ?_⟩
            rw [l2]
            omega
          · exact same _ (by omega)
  · exact same _ (by omega)
end Go.Proofs.YtilbbnmhnacnlaaGreat
/-
  The document's own master: which tablet has a name.
-/
namespace Go.Proofs.YtilbbnmhnacnlaaGreat
open Go.RowKit

set_option maxRecDepth 100000 in
set_option maxHeartbeats 4000000 in
theorem rmfind_w (w : World) (p g : Nat) (v : Value) (xs : List Ptb) (h0 : w.cell? ⟨p, 0, none⟩ = some v) (h : TbL w g v xs) (hcov : spCov (xs.map Ptb.sp) = true) (h16 : xs.length ≤ 16) (s : ByteArray) :
    Calls Tryz.prog 26 #[.pointer (some ⟨p, 0, none⟩), .string s] w fun e w' => e = .returned (.int .i64 (mIx xs s : Nat)) ∧ Moves [] w w' := by
  obtain ⟨ad, n, cap, rfl, hn, hc, HT⟩ := h.open
  have HB : n ≤ 16 := by rw [hn.out]; exact h16
  have hk := mIx_last hcov s
  obtain ⟨k, hkk⟩ : ∃ k, mIx xs s = k := ⟨_, rfl⟩
  rw [hkk] at hk ⊢
  have HK : Hid (LastZ (xs.map Ptb.lo) s k) := hk
  have HC : Hid (spCov (xs.map Ptb.sp) = true) := hcov
  have hltk := hk.lt
  simp only [List.length_map] at hltk
  have HLK : Hid (k < xs.length) := hltk
  clear h hcov h16 hk hltk hkk
  go_enter Tryz.func26, Tryz.ntmps26
  go_wp2_with fail
  go_loopw [5] (fun vi wr => ∃ i : Nat, i ≤ n ∧ vi = .int .i64 (i : Nat) ∧ Hid (i ≤ k) ∧ Moves [] w wr) (fun vi _ => n - (intOf vi).toNat)
  case atStart => exact ⟨0, Nat.zero_le _, rfl, Nat.zero_le _, Moves.refl _ _⟩
  case round =>
    obtain ⟨i, hin, rfl, hq, mr⟩ := hrel
    have z0 := mr.cell h0
    by_cases hlt : i < n
    · have hk3 : (i : Int) < n := by omega
      obtain ⟨y, hy⟩ : ∃ y, xs[i]? = some y := ⟨_, List.getElem?_eq_getElem (by have := hn.out; omega)⟩
      obtain ⟨off, rfl, x0, x1, _, _⟩ := HT.out.at hy
      replace x0 := mr.cell x0
      replace x1 := mr.cell x1
      have hhas : ∀ w1 : World, Calls Tryz.prog 49 #[.agg #[.string y.lo, .string y.hi], .string s] w1 fun e w' => e = .returned (.bool (decide (i = k))) ∧ Moves [] w1 w' := by
        intro w1
        have := rfHas7_w y.lo y.hi s w1
        rw [show (⟨y.lo, y.hi⟩ : Psp) = y.sp from rfl, has_one HC.out HK.out hy] at this
        exact this
      clear hy
      by_cases hik : i = k
      · rw [show decide (i = k) = true from decide_eq_true hik] at hhas
        have HIK : Hid (i = k) := hik
        clear hik
        go_wp2_with fail
        refine (hhas _).mono ?_
        rintro _ w2 ⟨rfl, m2⟩
        go_wp2_with fail
        go_ret
        exact ⟨by rw [HIK.out]; rfl, mr.then m2⟩
      · rw [show decide (i = k) = false from decide_eq_false hik] at hhas
        have HIK : Hid (i ≠ k) := hik
        clear hik
        go_wp2_with fail
        refine (hhas _).mono ?_
        rintro _ w2 ⟨rfl, m2⟩
        go_wp2_with fail
        go_roundw
        case rel => exact ⟨i + 1, by omega, by go_num, by have := hq.out; have := HIK.out; unfold Hid; omega, mr.then m2⟩
        case measure => simp [intOf]; omega
    · exact absurd hlt (by have := hq.out; have := HLK.out; have := hn.out; omega)
end Go.Proofs.YtilbbnmhnacnlaaGreat
/-
  The document's own master: how it lies in memory; what it publishes, as plain data; New.
-/
namespace Go.Proofs.YtilbbnmhnacnlaaGreat
open Go.RowKit

def pbL (P : Psp) (ys : List Ptb) : Bool → List Ptb → List Ptb
  | _, [] => []
  | d, x :: t => if spM x.sp P then (if d then pbL P ys true t else ys ++ pbL P ys true t) else x :: pbL P ys d t
theorem pbL_eq {P : Psp} {ys : List Ptb} : ∀ {xs : List Ptb} {d : Bool}, (∀ x ∈ xs, tbMeet ys x = spM x.sp P) → pbL P ys d xs = lpL ys d xs
  | [], d, _ => by cases d <;> rfl
  | x :: t, d, h => by
    have e := h x (by simp)
    have h' : ∀ y ∈ t, tbMeet ys y = spM y.sp P := fun y hy => h y (by simp [hy])
    unfold pbL lpL
    rw [e, pbL_eq (d := true) h', pbL_eq (d := d) h']
theorem pub_meet {xs : List Ptb} {grps : Int} {p : Pans} (h : PlanOf xs grps p) (hcov : spCov (xs.map Ptb.sp) = true) : ∀ x ∈ xs, tbMeet (mMade p) x = spM x.sp ⟨p.lo, p.hi⟩ := by
  intro x hx
  cases h with
  | move A D t to gen s h h1 h2 hs => show (spM x.sp ⟨t.lo, t.hi⟩ || false) = _; simp [pPl]
  | merge A D u t gen s h hg hs => show (spM x.sp ⟨u.lo, t.hi⟩ || false) = _; simp [pPl]
  | split A D t gen s h hc hl =>
    subst h
    have hR := cov_R hcov t.sp (by simp)
    obtain ⟨r1, r2⟩ := split_R hc
    obtain ⟨g1, g2, g3, g4, g5⟩ := spC_split hc
    have eM : mMade (pPl t.lo t.hi t.g gen t.n 0 2 s) = [⟨t.lo, s, t.g, gen⟩, ⟨s, t.hi, t.g, gen⟩] := rfl
    have eP : spM x.sp ⟨(pPl t.lo t.hi t.g gen t.n 0 2 s).lo, (pPl t.lo t.hi t.g gen t.n 0 2 s).hi⟩ = tbMeet [⟨t.lo, t.hi, 0, 0⟩] x := by
      show spM x.sp ⟨t.lo, t.hi⟩ = (spM x.sp ⟨t.lo, t.hi⟩ || false)
      simp
    rw [eM, eP]
    have hb1 := within_behind (A := A) (D := D) (t := t) (ys := [⟨t.lo, s, t.g, gen⟩, ⟨s, t.hi, t.g, gen⟩]) hcov (by
      intro y hy
      simp at hy
      cases hb : bz t.hi with
      | true => exact .inl rfl
      | false =>
        right
        rcases hy with rfl | rfl
        · exact ⟨g5, zlt_asymm (spB_lt g4 hb)⟩
        · exact ⟨hb, zlt_self _⟩)
    have hb2 := within_behind (A := A) (D := D) (t := t) (ys := [⟨t.lo, t.hi, 0, 0⟩]) hcov (by
      intro y hy
      simp at hy
      subst hy
      cases hb : bz t.hi with
      | true => exact .inl rfl
      | false => exact .inr ⟨rfl, zlt_self _⟩)
    rw [List.filter_eq_self] at hb1 hb2
    rcases List.mem_append.1 hx with hx | hx
    · rw [within_ahead hcov (by
        intro y hy
        simp at hy
        rcases hy with rfl | rfl
        · exact zlt_self _
        · exact zlt_asymm g3) x hx, within_ahead hcov (by intro y hy; simp at hy; subst hy; exact zlt_self _) x hx]
    · rcases List.mem_cons.1 hx with rfl | hx
      · rw [meets_self hcov (by intro y hy; simp at hy; rcases hy with rfl | rfl; exact r1; exact r2) ⟨⟨x.lo, s, x.g, gen⟩, by simp, spH_self r1⟩, meets_self hcov (by intro y hy; simp at hy; subst hy; exact hR) ⟨⟨x.lo, x.hi, 0, 0⟩, List.mem_singleton.2 rfl, spH_self hR⟩]
      · have e1 := hb1 x hx
        have e2 := hb2 x hx
        simp only [Bool.not_eq_true'] at e1 e2
        rw [e1, e2]
theorem pub_is {S : Pms} (ok : OkM S) (hP : PlanOf S.xs S.grps S.pend) (hl : S.pend.gen = S.last) : pbL ⟨S.pend.lo, S.pend.hi⟩ (mMade S.pend) false S.xs = lpTo S.xs (mMade S.pend) := by
  have l0 := ok.l0
  have l1 := ok.l1
  obtain ⟨A, B, D, e1, ⟨e2, e3, e4⟩, _⟩ := plan_next hP ok.may ok.g1 (fun x hx => (ok.ins x hx).1) (by omega) (by omega)
  rw [pbL_eq (pub_meet hP ok.cov)]
  unfold lpTo
  rw [e2, if_pos rfl]

def rmCells (v cv : Value) (S : Pms) : Array Value := #[v, .bool (decide (S.pend.act ≠ 0)), .int .i64 S.pend.code, .slice none 0 0, .string S.pend.lo, .string S.pend.hi, .int .i64 S.pend.grp, .int .i64 S.pend.gen, .int .i64 S.pend.old, .int .i64 S.pend.to, .int .i64 S.pend.act, .string S.pend.at', .slice none 0 0, .int .i64 S.last, .int .i64 S.grps, cv]
def RmIs (w : World) (r : Nat) (S : Pms) : Prop := ∃ v cv m, w.heap[r]? = some (.cells (rmCells v cv S) 79 (0, 0)) ∧ OwnT w v S.xs ∧ EntsAt w cv m ∧ Agree S.ca m
theorem RmIs.moves {X : List Nat} {w w' : World} {r : Nat} {S : Pms} (h : RmIs w r S) (mv : Moves X w w') (hX : ∀ k ∈ X, ∀ (c : Array Value) (t : TypeId) (fz : Nat × Nat), w.heap[k]? = some (.cells c t fz) → t ≠ 5 ∧ t ≠ 116 ∧ t ≠ 54 ∧ t ≠ 79) : RmIs w' r S := by
  obtain ⟨v, cv, m, k1, k2, k3, k4⟩ := h
  refine ⟨v, cv, m, mv.at k1 (fun hk => (hX _ hk _ _ _ k1).2.2.2 rfl), k2.moves mv (fun k hk hk2 => ?_), k3.stay (T := fun t => t = 5 ∨ t = 116) (Stay.ofMovesS mv (fun k hk c t fz hc ht => ?_)) (.inl rfl) (.inr rfl), k4⟩
  · obtain ⟨cur, hc⟩ := k2.blk hk
    exact (hX _ hk2 _ _ _ hc).2.2.1 rfl
  · obtain ⟨q1, q2, _⟩ := hX k hk _ _ _ hc
    rcases ht with e | e
    · exact q1 e
    · exact q2 e
theorem RmIs.moves0 {w w' : World} {r : Nat} {S : Pms} (h : RmIs w r S) (m : Moves [] w w') : RmIs w' r S := h.moves m (by simp)
theorem RmIs.lt {w : World} {r : Nat} {S : Pms} (h : RmIs w r S) : r < w.heap.size := by
  obtain ⟨v, cv, m, k1, _⟩ := h
  exact lt_of_block k1
theorem RmIs.wrote {w w' : World} {r : Nat} {S S' : Pms} {v cv : Value} (h : w.heap[r]? = some (.cells (rmCells v cv S) 79 (0, 0))) (mv : Moves [r] w w') {v' cv' : Value} {m' : List Pt} (h' : w'.heap[r]? = some (.cells (rmCells v' cv' S') 79 (0, 0))) (k2 : OwnT w v' S'.xs) (k3 : EntsAt w cv' m') (k4 : Agree S'.ca m') : RmIs w' r S' := by
  refine ⟨v', cv', m', h', k2.moves mv (fun k hk hk2 => ?_), k3.stay (T := fun t => t ≠ 79) (Stay.ofMovesS mv (fun k hk c t fz hc => ?_)) (by decide) (by decide), k4⟩
  · simp at hk2; subst hk2
    obtain ⟨cur, hc⟩ := k2.blk hk
    rw [hc] at h
    simp at h
  · simp at hk; subst hk
    rw [h] at hc
    simp at hc
    simp [← hc.2.1]

set_option maxRecDepth 100000 in
set_option maxHeartbeats 4000000 in
theorem rmNew_w (w : World) (n : Int) : Calls Tryz.prog 7 #[.int .i64 n] w fun e w' => ∃ r, e = .returned (.pointer (some ⟨r, 0, none⟩)) ∧ RmIs w' r (m0 n) ∧ w.heap.size ≤ r ∧ Moves [] w w' := by
  have b1 := heap_alloc_new w (.cells #[.string ⟨#[]⟩, .string ⟨#[]⟩, .int .i64 1, .int .i64 1] 54)
  have m1 : Moves [] w (w.alloc (.cells #[.string ⟨#[]⟩, .string ⟨#[]⟩, .int .i64 1, .int .i64 1] 54)) := (Moves.refl _ _).alloc _
  obtain ⟨w1, hw1⟩ : ∃ w1, w.alloc (.cells #[.string ⟨#[]⟩, .string ⟨#[]⟩, .int .i64 1, .int .i64 1] 54) = w1 := ⟨_, rfl⟩
  rw [hw1] at b1 m1
  have s1 : w1.heap.size = w.heap.size + 1 := by rw [← hw1]; simp
  go_enter Tryz.func7, Tryz.ntmps7
  go_wp2_with fail
  go_ret
  try rw [hw1]
  have b2 := heap_alloc_new w1 (.cells (rmCells (.slice (some ⟨w.heap.size, 0, none⟩) 1 1) (.slice none 0 0) (m0 n)) 79)
  have m2 : Moves [] w1 (w1.alloc (.cells (rmCells (.slice (some ⟨w.heap.size, 0, none⟩) 1 1) (.slice none 0 0) (m0 n)) 79)) := (Moves.refl _ _).alloc _
  refine ⟨w1.heap.size, ?_, ⟨_, _, [], b2, ?_, EntsAt.nil _, Agree.nil⟩, by omega, m1.then m2⟩
  · first | rfl | (rw [s1]; rfl)
  · refine OwnT.moves (S := []) (w := w1) ?_ m2 (by simp)
    unfold OwnT
    exact ⟨by simp [tbCells, m0, k11], .inr ⟨w.heap.size, 1, _, rfl, Nat.zero_le _, b1, Nat.le_refl _, by simp [maxLen], by simp, by simp [tbCells, m0, k11]⟩⟩
end Go.Proofs.YtilbbnmhnacnlaaGreat
/-
  The document's Right of what a master is asked.
-/
namespace Go.Proofs.YtilbbnmhnacnlaaGreat
open Go.RowKit

set_option maxRecDepth 100000 in
theorem rgen8_w (n : Int) (w : World) : Calls Tryz.prog 47 #[.int .i64 n] w fun e w' => e = .returned (.bool (wi n 1 1073741824)) ∧ w = w' := by
  by_cases h1 : n ≥ 1
  · by_cases h2 : n ≤ 1073741824
    · go_enter Tryz.func47, Tryz.ntmps47
      go_wp2_with fail
      go_ret
      exact ⟨by rw [wi_iff.2 ⟨h1, h2⟩]; rfl, rfl⟩
    · go_enter Tryz.func47, Tryz.ntmps47
      go_wp2_with fail
      go_ret
      exact ⟨by rw [show wi n 1 1073741824 = false by cases e : wi n 1 1073741824 with | false => rfl | true => have := (wi_iff.1 e).2; omega]; rfl, rfl⟩
  · go_enter Tryz.func47, Tryz.ntmps47
    go_wp2_with fail
    go_ret
    exact ⟨by rw [show wi n 1 1073741824 = false by cases e : wi n 1 1073741824 with | false => rfl | true => have := (wi_iff.1 e).1; omega]; rfl, rfl⟩
set_option maxRecDepth 100000 in
set_option maxHeartbeats 8000000 in
theorem rright7_w (w : World) (C : Pcmd) (ca : Option Addr) (cn cc : Nat) (la : Option Addr) (ln lc : Nat) (sa : Option Addr) (sn sc : Nat) (hk : C.kind = 7) :
    Calls Tryz.prog 25 #[.agg #[.int .i64 C.kind, .int .i64 C.op.kind, .string C.op.row, .string C.op.hi, .bool C.op.cd.has, .bool C.op.cd.want, .string C.op.cd.col, .int .i64 C.op.cd.v.kind, .slice ca cn cc, .float .f64 C.op.cd.v.n, .slice la ln lc, .int .i64 C.op.most, .string C.lo, .string C.hi, .int .i64 C.gen, .string C.at', .int .i64 C.to, .int .i64 C.act, .slice sa sn sc]] w fun e w' => e = .returned (.bool (rCmd C)) ∧ Moves [] w w' := by
  have er : rCmd C = decide (C.at'.size ≤ 16) := by unfold rCmd; simp [hk, rPlace]
  rw [er]
  have b1 := heap_alloc_new w (.cells #[.int .i64 C.kind, .int .i64 C.op.kind, .string C.op.row, .string C.op.hi, .bool C.op.cd.has, .bool C.op.cd.want, .string C.op.cd.col, .int .i64 C.op.cd.v.kind, .slice ca cn cc, .float .f64 C.op.cd.v.n, .slice la ln lc, .int .i64 C.op.most, .string C.lo, .string C.hi, .int .i64 C.gen, .string C.at', .int .i64 C.to, .int .i64 C.act, .slice sa sn sc] 39)
  have m1 : Moves [] w (w.alloc (.cells #[.int .i64 C.kind, .int .i64 C.op.kind, .string C.op.row, .string C.op.hi, .bool C.op.cd.has, .bool C.op.cd.want, .string C.op.cd.col, .int .i64 C.op.cd.v.kind, .slice ca cn cc, .float .f64 C.op.cd.v.n, .slice la ln lc, .int .i64 C.op.most, .string C.lo, .string C.hi, .int .i64 C.gen, .string C.at', .int .i64 C.to, .int .i64 C.act, .slice sa sn sc] 39)) := (Moves.refl _ _).alloc _
  obtain ⟨w1, hw1⟩ : ∃ w1, w.alloc (.cells #[.int .i64 C.kind, .int .i64 C.op.kind, .string C.op.row, .string C.op.hi, .bool C.op.cd.has, .bool C.op.cd.want, .string C.op.cd.col, .int .i64 C.op.cd.v.kind, .slice ca cn cc, .float .f64 C.op.cd.v.n, .slice la ln lc, .int .i64 C.op.most, .string C.lo, .string C.hi, .int .i64 C.gen, .string C.at', .int .i64 C.to, .int .i64 C.act, .slice sa sn sc] 39) = w1 := ⟨_, rfl⟩
  rw [hw1] at b1 m1
  obtain ⟨y0, -, -, -, -, -, -, -, -, -, -, -, -, -, y14, y15, y16, y17, -⟩ := c19 b1
  rw [hk] at y0
  obtain ⟨B, hB⟩ : ∃ B, w.heap.size = B := ⟨_, rfl⟩
  rw [hB] at y0 y14 y15 y16 y17
  have HM : Hid (Moves [] w w1) := m1
  clear b1 m1
  clear y14 y16 y17 er hk
  go_enter Tryz.func25, Tryz.ntmps25
  go_wp2_with fail
  try rw [hw1]
  try rw [hB]
  go_wp2_with fail
  go_ret
  exact ⟨by simp; try omega, HM.out⟩
set_option maxRecDepth 100000 in
set_option maxHeartbeats 8000000 in
theorem rright9_w (w : World) (C : Pcmd) (ca : Option Addr) (cn cc : Nat) (la : Option Addr) (ln lc : Nat) (sa : Option Addr) (sn sc : Nat) (hk : C.kind = 9) :
    Calls Tryz.prog 25 #[.agg #[.int .i64 C.kind, .int .i64 C.op.kind, .string C.op.row, .string C.op.hi, .bool C.op.cd.has, .bool C.op.cd.want, .string C.op.cd.col, .int .i64 C.op.cd.v.kind, .slice ca cn cc, .float .f64 C.op.cd.v.n, .slice la ln lc, .int .i64 C.op.most, .string C.lo, .string C.hi, .int .i64 C.gen, .string C.at', .int .i64 C.to, .int .i64 C.act, .slice sa sn sc]] w fun e w' => e = .returned (.bool (rCmd C)) ∧ Moves [] w w' := by
  have er : rCmd C = rPub C := by unfold rCmd; simp [hk]
  rw [er]
  have b1 := heap_alloc_new w (.cells #[.int .i64 C.kind, .int .i64 C.op.kind, .string C.op.row, .string C.op.hi, .bool C.op.cd.has, .bool C.op.cd.want, .string C.op.cd.col, .int .i64 C.op.cd.v.kind, .slice ca cn cc, .float .f64 C.op.cd.v.n, .slice la ln lc, .int .i64 C.op.most, .string C.lo, .string C.hi, .int .i64 C.gen, .string C.at', .int .i64 C.to, .int .i64 C.act, .slice sa sn sc] 39)
  have m1 : Moves [] w (w.alloc (.cells #[.int .i64 C.kind, .int .i64 C.op.kind, .string C.op.row, .string C.op.hi, .bool C.op.cd.has, .bool C.op.cd.want, .string C.op.cd.col, .int .i64 C.op.cd.v.kind, .slice ca cn cc, .float .f64 C.op.cd.v.n, .slice la ln lc, .int .i64 C.op.most, .string C.lo, .string C.hi, .int .i64 C.gen, .string C.at', .int .i64 C.to, .int .i64 C.act, .slice sa sn sc] 39)) := (Moves.refl _ _).alloc _
  obtain ⟨w1, hw1⟩ : ∃ w1, w.alloc (.cells #[.int .i64 C.kind, .int .i64 C.op.kind, .string C.op.row, .string C.op.hi, .bool C.op.cd.has, .bool C.op.cd.want, .string C.op.cd.col, .int .i64 C.op.cd.v.kind, .slice ca cn cc, .float .f64 C.op.cd.v.n, .slice la ln lc, .int .i64 C.op.most, .string C.lo, .string C.hi, .int .i64 C.gen, .string C.at', .int .i64 C.to, .int .i64 C.act, .slice sa sn sc] 39) = w1 := ⟨_, rfl⟩
  rw [hw1] at b1 m1
  obtain ⟨y0, -, -, -, -, -, -, -, -, -, -, -, -, -, y14, y15, y16, y17, -⟩ := c19 b1
  rw [hk] at y0
  obtain ⟨B, hB⟩ : ∃ B, w.heap.size = B := ⟨_, rfl⟩
  rw [hB] at y0 y14 y15 y16 y17
  have HM : Hid (Moves [] w w1) := m1
  clear b1 m1
  have hg := rgen8_w C.gen w1
  unfold rPub
  clear y15 y17 er hk
  obtain ⟨bg, hbg⟩ : ∃ b, wi C.gen 1 1073741824 = b := ⟨_, rfl⟩
  rw [hbg] at hg ⊢
  clear hbg
  cases bg with
  | false =>
    go_enter Tryz.func25, Tryz.ntmps25
    go_wp2_with fail
    try rw [hw1]
    try rw [hB]
    refine hg.mono ?_
    rintro _ _ ⟨rfl, rfl⟩
    go_wp2_with fail
    go_ret
    exact ⟨rfl, HM.out⟩
  | true =>
    by_cases h0 : C.to = 0
    · have e0 : (C.to == 0) = true := beq_iff_eq.2 h0
      rw [show decide (C.to = 0) = true from decide_eq_true h0]
      clear h0
      go_enter Tryz.func25, Tryz.ntmps25
      go_wp2_with fail
      try rw [hw1]
      try rw [hB]
      refine hg.mono ?_
      rintro _ _ ⟨rfl, rfl⟩
      go_wp2_with fail
      go_ret
      exact ⟨rfl, HM.out⟩
    · by_cases h1 : C.to = -1
      · have e0 : (C.to == 0) = false := beq_eq_false_iff_ne.2 h0
        have e1 : (C.to == -1) = true := beq_iff_eq.2 h1
        rw [show decide (C.to = -1) = true from decide_eq_true h1, show decide (C.to = 0) = false from decide_eq_false h0]
        clear h0 h1
        go_enter Tryz.func25, Tryz.ntmps25
        go_wp2_with fail
        try rw [hw1]
        try rw [hB]
        refine hg.mono ?_
        rintro _ _ ⟨rfl, rfl⟩
        go_wp2_with fail
        go_ret
        exact ⟨rfl, HM.out⟩
      · have e0 : (C.to == 0) = false := beq_eq_false_iff_ne.2 h0
        have e1 : (C.to == -1) = false := beq_eq_false_iff_ne.2 h1
        have e2 : decide (C.to = 0) = false := decide_eq_false h0
        have e3 : decide (C.to = -1) = false := decide_eq_false h1
        rw [e2, e3]
        clear h0 h1
        go_enter Tryz.func25, Tryz.ntmps25
        go_wp2_with fail
        try rw [hw1]
        try rw [hB]
        refine hg.mono ?_
        rintro _ _ ⟨rfl, rfl⟩
        go_wp2_with fail
        go_ret
        exact ⟨rfl, HM.out⟩
set_option maxRecDepth 100000 in
set_option maxHeartbeats 16000000 in
theorem rright8_w (w : World) (C : Pcmd) (ca : Option Addr) (cn cc : Nat) (la : Option Addr) (ln lc : Nat) (sa : Option Addr) (sn sc : Nat) (hk : C.kind = 8) :
    Calls Tryz.prog 25 #[.agg #[.int .i64 C.kind, .int .i64 C.op.kind, .string C.op.row, .string C.op.hi, .bool C.op.cd.has, .bool C.op.cd.want, .string C.op.cd.col, .int .i64 C.op.cd.v.kind, .slice ca cn cc, .float .f64 C.op.cd.v.n, .slice la ln lc, .int .i64 C.op.most, .string C.lo, .string C.hi, .int .i64 C.gen, .string C.at', .int .i64 C.to, .int .i64 C.act, .slice sa sn sc]] w fun e w' => e = .returned (.bool (rCmd C)) ∧ Moves [] w w' := by
  have er : rCmd C = rPlan C := by unfold rCmd; simp [hk]
  rw [er]
  have b1 := heap_alloc_new w (.cells #[.int .i64 C.kind, .int .i64 C.op.kind, .string C.op.row, .string C.op.hi, .bool C.op.cd.has, .bool C.op.cd.want, .string C.op.cd.col, .int .i64 C.op.cd.v.kind, .slice ca cn cc, .float .f64 C.op.cd.v.n, .slice la ln lc, .int .i64 C.op.most, .string C.lo, .string C.hi, .int .i64 C.gen, .string C.at', .int .i64 C.to, .int .i64 C.act, .slice sa sn sc] 39)
  have m1 : Moves [] w (w.alloc (.cells #[.int .i64 C.kind, .int .i64 C.op.kind, .string C.op.row, .string C.op.hi, .bool C.op.cd.has, .bool C.op.cd.want, .string C.op.cd.col, .int .i64 C.op.cd.v.kind, .slice ca cn cc, .float .f64 C.op.cd.v.n, .slice la ln lc, .int .i64 C.op.most, .string C.lo, .string C.hi, .int .i64 C.gen, .string C.at', .int .i64 C.to, .int .i64 C.act, .slice sa sn sc] 39)) := (Moves.refl _ _).alloc _
  obtain ⟨w1, hw1⟩ : ∃ w1, w.alloc (.cells #[.int .i64 C.kind, .int .i64 C.op.kind, .string C.op.row, .string C.op.hi, .bool C.op.cd.has, .bool C.op.cd.want, .string C.op.cd.col, .int .i64 C.op.cd.v.kind, .slice ca cn cc, .float .f64 C.op.cd.v.n, .slice la ln lc, .int .i64 C.op.most, .string C.lo, .string C.hi, .int .i64 C.gen, .string C.at', .int .i64 C.to, .int .i64 C.act, .slice sa sn sc] 39) = w1 := ⟨_, rfl⟩
  rw [hw1] at b1 m1
  obtain ⟨y0, -, -, -, -, -, -, -, -, -, -, -, -, -, y14, y15, y16, y17, -⟩ := c19 b1
  rw [hk] at y0
  obtain ⟨B, hB⟩ : ∃ B, w.heap.size = B := ⟨_, rfl⟩
  rw [hB] at y0 y14 y15 y16 y17
  have HM : Hid (Moves [] w w1) := m1
  clear b1 m1
  have HR : Hid (rPlan C = true ↔ C.act = 0 ∨ ((1 ≤ C.act ∧ C.act ≤ 3) ∧ C.at'.size ≤ 16 ∧ (0 ≤ C.to ∧ C.to ≤ 255))) := by
    unfold Hid rPlan
    simp [rPlace, wi]
    try omega
  have HF : Hid (¬ (C.act = 0 ∨ ((1 ≤ C.act ∧ C.act ≤ 3) ∧ C.at'.size ≤ 16 ∧ (0 ≤ C.to ∧ C.to ≤ 255))) → rPlan C = false) := fun h => by
    cases e : rPlan C with
    | false => rfl
    | true => exact absurd (HR.out.1 e) h
  have HT : Hid ((C.act = 0 ∨ ((1 ≤ C.act ∧ C.act ≤ 3) ∧ C.at'.size ≤ 16 ∧ (0 ≤ C.to ∧ C.to ≤ 255))) → rPlan C = true) := HR.out.2
  clear er hk HR y14
  by_cases h0 : C.act = 0
  · rw [HT.out (.inl h0)]
    have e0 : (C.act == 0) = true := beq_iff_eq.2 h0
    clear h0 HT HF
    go_enter Tryz.func25, Tryz.ntmps25
    go_wp2_with fail
    try rw [hw1]
    try rw [hB]
    go_wp2_with fail
    go_ret
    exact ⟨rfl, HM.out⟩
  · have e0 : (C.act == 0) = false := beq_eq_false_iff_ne.2 h0
    by_cases h1 : 1 ≤ C.act
    · by_cases h3 : C.act ≤ 3
      · by_cases h4 : C.at'.size ≤ 16
        · have h4' : (C.at'.size : Int) ≤ 16 := by omega
          by_cases h5 : 0 ≤ C.to
          · by_cases h6 : C.to ≤ 255
            · rw [HT.out (.inr ⟨⟨h1, h3⟩, h4, h5, h6⟩)]
              clear HT HF
              go_enter Tryz.func25, Tryz.ntmps25
              go_wp2_with fail
              try rw [hw1]
              try rw [hB]
              go_wp2_with fail
              go_ret
              exact ⟨rfl, HM.out⟩
            · rw [HF.out (by omega)]
              clear HT HF
              go_enter Tryz.func25, Tryz.ntmps25
              go_wp2_with fail
              try rw [hw1]
              try rw [hB]
              go_wp2_with fail
              go_ret
              exact ⟨rfl, HM.out⟩
          · rw [HF.out (by omega)]
            clear HT HF
            go_enter Tryz.func25, Tryz.ntmps25
            go_wp2_with fail
            try rw [hw1]
            try rw [hB]
            go_wp2_with fail
            go_ret
            exact ⟨rfl, HM.out⟩
        · have h4' : ¬ (C.at'.size : Int) ≤ 16 := by omega
          rw [HF.out (by omega)]
          clear HT HF
          go_enter Tryz.func25, Tryz.ntmps25
          go_wp2_with fail
          try rw [hw1]
          try rw [hB]
          go_wp2_with fail
          go_ret
          exact ⟨rfl, HM.out⟩
      · rw [HF.out (by omega)]
        clear HT HF
        go_enter Tryz.func25, Tryz.ntmps25
        go_wp2_with fail
        try rw [hw1]
        try rw [hB]
        go_wp2_with fail
        go_ret
        exact ⟨rfl, HM.out⟩
    · rw [HF.out (by omega)]
      clear HT HF
      go_enter Tryz.func25, Tryz.ntmps25
      go_wp2_with fail
      try rw [hw1]
      try rw [hB]
      go_wp2_with fail
      go_ret
      exact ⟨rfl, HM.out⟩
end Go.Proofs.YtilbbnmhnacnlaaGreat
