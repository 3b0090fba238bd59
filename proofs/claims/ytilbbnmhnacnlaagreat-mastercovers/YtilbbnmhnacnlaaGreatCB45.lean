/- ours -/
import Derived.Test.YtilbbnmhnacnlaaGreatCB44
/-
  law12: drawn plans, known, MasterOnce.
-/

namespace Go.Proofs.YtilbbnmhnacnlaaGreat
open Go.RowKit

def plC (act : Int) (s : ByteArray) (to : Int) : Pcmd := ⟨8, opz, ⟨#[]⟩, ⟨#[]⟩, 0, s, to, act, []⟩
def pubC (gen to : Int) : Pcmd := ⟨9, opz, ⟨#[]⟩, ⟨#[]⟩, gen, ⟨#[]⟩, to, 0, []⟩
def plV (act : Int) (s : ByteArray) (to : Int) : Array Value := #[.int .i64 8, .int .i64 0, .string ⟨#[]⟩, .string ⟨#[]⟩, .bool false, .bool false, .string ⟨#[]⟩, .int .i64 0, .slice none 0 0, .float .f64 0, .slice none 0 0, .int .i64 0, .string ⟨#[]⟩, .string ⟨#[]⟩, .int .i64 0, .string s, .int .i64 to, .int .i64 act, .slice none 0 0]
def pubV (gen to : Int) : Array Value := #[.int .i64 9, .int .i64 0, .string ⟨#[]⟩, .string ⟨#[]⟩, .bool false, .bool false, .string ⟨#[]⟩, .int .i64 0, .slice none 0 0, .float .f64 0, .slice none 0 0, .int .i64 0, .string ⟨#[]⟩, .string ⟨#[]⟩, .int .i64 gen, .string ⟨#[]⟩, .int .i64 to, .int .i64 0, .slice none 0 0]
theorem plC_c (w : World) (act : Int) (s : ByteArray) (to : Int) : CmdW w (plV act s to).toList (plC act s to) :=
  ⟨none, 0, 0, none, 0, 0, none, 0, 0, rfl⟩
theorem pubC_c (w : World) (gen to : Int) : CmdW w (pubV gen to).toList (pubC gen to) :=
  ⟨none, 0, 0, none, 0, 0, none, 0, 0, rfl⟩
theorem plC_r {act : Int} {s : ByteArray} {to : Int} (h1 : 1 ≤ act) (h2 : act ≤ 3) (hs : s.size ≤ 16) (h3 : 0 ≤ to) (h4 : to ≤ 255) : rCmd (plC act s to) = true := by
  show rPlan (plC act s to) = true
  unfold rPlan
  rw [show wi (plC act s to).act 1 3 = true from wi_iff.2 ⟨h1, h2⟩, show rPlace (plC act s to).at' = true from decide_eq_true hs, show wi (plC act s to).to 0 255 = true from wi_iff.2 ⟨h3, h4⟩]
  simp
theorem pubC_r {gen to : Int} (h1 : 1 ≤ gen) (h2 : gen ≤ 1073741824) (h3 : to = 0 ∨ to = -1) : rCmd (pubC gen to) = true := by
  show rPub (pubC gen to) = true
  unfold rPub
  rw [show wi (pubC gen to).gen 1 1073741824 = true from wi_iff.2 ⟨h1, h2⟩]
  rcases h3 with rfl | rfl <;> simp [pubC]

theorem one_rem (n : Int) : ∃ x, (pwithin n).tmod 3 = x ∧ 0 ≤ x ∧ x < 3 := by
  have hb := pwithin_b n
  refine ⟨_, rfl, ?_, ?_⟩ <;> rw [Int.tmod_eq_emod_of_nonneg hb.1] <;> omega
set_option maxRecDepth 100000 in
set_option maxHeartbeats 16000000 in
theorem keepPlan_w (d i t : Int) : ∃ act s to, ((1 ≤ act ∧ act ≤ 3) ∧ (1 ≤ to ∧ to ≤ 3) ∧ s.size ≤ 16) ∧ ∀ w, Calls Tryz.prog 14 #[.agg #[.int .i64 d, .int .i64 i, .int .i64 t]] w fun e w' => e = .returned (.agg (plV act s to)) ∧ Moves [] w w' := by
  obtain ⟨s, hs, hrow⟩ := row_ds i
  obtain ⟨x, hx1, hx2, hx3⟩ := one_rem d
  obtain ⟨y, hy1, hy2, hy3⟩ := one_rem t
  refine ⟨1 + x, s, 1 + y, ⟨⟨by omega, by omega⟩, ⟨by omega, by omega⟩, by omega⟩, fun w => ?_⟩
  have hmx : Tryz.prog.follows .mixedOrders = true := by kernel_rfl
  have ex : IntKind.i64.wrap (1 + x) = 1 + x := by rw [IntKind.wrap_i64]; omega
  have ey : IntKind.i64.wrap (1 + y) = 1 + y := by rw [IntKind.wrap_i64]; omega
  have a0 := heap_alloc_new w (.cells #[.int .i64 d, .int .i64 i, .int .i64 t] 42)
  obtain ⟨w1, hw1⟩ : ∃ w1, w.alloc (.cells #[.int .i64 d, .int .i64 i, .int .i64 t] 42) = w1 := ⟨_, rfl⟩
  have s1 : w1.heap.size = w.heap.size + 1 := by rw [← hw1]; simp
  have n1 : Moves [] w w1 := by rw [← hw1]; exact (Moves.refl _ _).alloc _
  rw [hw1] at a0
  have a1 := heap_alloc_new w1 (.cells #[.int .i64 0, .int .i64 0, .string ⟨#[]⟩, .string ⟨#[]⟩, .bool false, .bool false, .string ⟨#[]⟩, .int .i64 0, .slice none 0 0, .float .f64 0, .slice none 0 0, .int .i64 0, .string ⟨#[]⟩, .string ⟨#[]⟩, .int .i64 0, .string ⟨#[]⟩, .int .i64 0, .int .i64 0, .slice none 0 0] 39)
  obtain ⟨w2, hw2⟩ : ∃ w2, w1.alloc (.cells #[.int .i64 0, .int .i64 0, .string ⟨#[]⟩, .string ⟨#[]⟩, .bool false, .bool false, .string ⟨#[]⟩, .int .i64 0, .slice none 0 0, .float .f64 0, .slice none 0 0, .int .i64 0, .string ⟨#[]⟩, .string ⟨#[]⟩, .int .i64 0, .string ⟨#[]⟩, .int .i64 0, .int .i64 0, .slice none 0 0] 39) = w2 := ⟨_, rfl⟩
  have n2 : Moves [] w1 w2 := by rw [← hw2]; exact (Moves.refl _ _).alloc _
  rw [hw2] at a1
  rw [s1] at a1
  have b0 := n2.at a0 (by simp)
  have HM : Hid (Moves [] w w2) := n1.then n2
  obtain ⟨B0, hB0⟩ : ∃ B0, w.heap.size = B0 := ⟨_, rfl⟩
  rw [hB0] at b0 a1
  have HSZ : Hid (w.heap.size = B0) := hB0
  clear a0 n1 n2
  go_enter Tryz.func14, Tryz.ntmps14
  go_wp2_with fail
  try rw [hw1]
  try rw [hw2]
  try rw [s1]
  try rw [hB0]
  clear hw1 hw2 s1 hB0
  obtain ⟨wr, hwr⟩ : ∃ wr, wr = w2 := ⟨_, rfl⟩
  subst hwr
  have hS : ∀ w' : World, w'.heap[B0]? = some (.cells #[.int .i64 d, .int .i64 i, .int .i64 t] 42 (0, 0)) → (w'.cell? ⟨B0, 0, none⟩ = some (.int .i64 d) ∧ w'.cell? ⟨B0, 1, none⟩ = some (.int .i64 i) ∧ w'.cell? ⟨B0, 2, none⟩ = some (.int .i64 t)) := by
    intro w' hb
    simp [World.cell?, hb]
  have hx : wr.drew.heap[B0]? = some (.cells #[.int .i64 d, .int .i64 i, .int .i64 t] 42 (0, 0)) := b0
  have hb : wr.drew.heap[B0 + 1]? = some (.cells #[.int .i64 0, .int .i64 0, .string ⟨#[]⟩, .string ⟨#[]⟩, .bool false, .bool false, .string ⟨#[]⟩, .int .i64 0, .slice none 0 0, .float .f64 0, .slice none 0 0, .int .i64 0, .string ⟨#[]⟩, .string ⟨#[]⟩, .int .i64 0, .string ⟨#[]⟩, .int .i64 0, .int .i64 0, .slice none 0 0] 39 (0, 0)) := a1
  have mW : Moves [] wr wr.drew := (Moves.refl _ _).drew
  clear b0 a1
  refine wp_some7 [3, 4, 5, 6, 7, 8, 9, 10, 11, 12, 13, 14, 15, 16] (fun v w' => w'.heap[B0 + 1]? = some (.cells (plV (1 + x) s (1 + y)) 39 (0, 0)) ∧ Moves [B0 + 1] wr w') ?_ ?_
  · rename_i ax
    clear ax
    refine wp_region_noPanic ?_
    refine region_peel (S := (fun w' => w'.cell? ⟨B0, 0, none⟩ = some (.int .i64 d) ∧ w'.cell? ⟨B0, 1, none⟩ = some (.int .i64 i) ∧ w'.cell? ⟨B0, 2, none⟩ = some (.int .i64 t))) (pre := #[⟨some 3, .fieldAddr 42 (.tmp 1) 0, 0, "same.go:146", #[], none⟩, ⟨some 4, .load 3 (.tmp 3), 3, "same.go:146", #[⟨0, .data⟩], none⟩, ⟨some 5, .call ⟨.value (.func 23), #[.tmp 4, .const (.int .i64 0), .const (.int .i64 1048576)], #[3, 3, 3]⟩, 3, "same.go:146", #[⟨1, .data⟩], none⟩, ⟨some 6, .binOp .rem 3 (.tmp 5) (.const (.int .i64 3)) 3, 3, "same.go:146", #[⟨2, .data⟩], none⟩, ⟨some 7, .binOp .add 3 (.const (.int .i64 1)) (.tmp 6) 3, 3, "same.go:146", #[⟨3, .data⟩], none⟩, ⟨some 8, .fieldAddr 42 (.tmp 1) 1, 0, "same.go:146", #[], none⟩, ⟨some 9, .load 3 (.tmp 8), 3, "same.go:146", #[⟨5, .data⟩], none⟩, ⟨some 10, .call ⟨.value (.func 24), #[.tmp 9], #[3]⟩, 9, "same.go:146", #[⟨6, .data⟩, ⟨2, .chain⟩], none⟩, ⟨some 11, .fieldAddr 42 (.tmp 1) 2, 0, "same.go:146", #[], none⟩, ⟨some 12, .load 3 (.tmp 11), 3, "same.go:146", #[⟨8, .data⟩], none⟩, ⟨some 13, .call ⟨.value (.func 23), #[.tmp 12, .const (.int .i64 0), .const (.int .i64 1048576)], #[3, 3, 3]⟩, 3, "same.go:146", #[⟨9, .data⟩, ⟨7, .chain⟩], none⟩, ⟨some 14, .binOp .rem 3 (.tmp 13) (.const (.int .i64 3)) 3, 3, "same.go:146", #[⟨10, .data⟩], none⟩, ⟨some 15, .binOp .add 3 (.const (.int .i64 1)) (.tmp 14) 3, 3, "same.go:146", #[⟨11, .data⟩], none⟩, ⟨some 16, .build 39 #[(0, .const (.int .i64 8)), (6, .tmp 7), (4, .tmp 10), (5, .tmp 15)], 39, "same.go:146", #[⟨4, .data⟩, ⟨7, .data⟩, ⟨12, .data⟩], none⟩]) (o := ⟨none, .store 39 (.tmp 2) (.tmp 16), 0, "same.go:146", #[⟨13, .data⟩, ⟨10, .chain⟩, ⟨0, .phase⟩, ⟨1, .phase⟩, ⟨2, .phase⟩, ⟨3, .phase⟩, ⟨4, .phase⟩, ⟨5, .phase⟩, ⟨6, .phase⟩, ⟨7, .phase⟩, ⟨8, .phase⟩, ⟨9, .phase⟩, ⟨10, .phase⟩, ⟨11, .phase⟩, ⟨12, .phase⟩, ⟨13, .phase⟩], none⟩) (by kernel_rfl) (by kernel_rfl) (by kernel_rfl) ?_ (fun hHeld => ?_)
    · first | exact hS _ hx7 | exact hS _ hx
    refine wpT 0 ⟨some 3, .fieldAddr 42 (.tmp 1) 0, 0, "same.go:146", #[], none⟩ ?_
    refine wpT 1 ⟨some 4, .load 3 (.tmp 3), 3, "same.go:146", #[⟨0, .data⟩], none⟩ ?_
    refine wpT 5 ⟨some 8, .fieldAddr 42 (.tmp 1) 1, 0, "same.go:146", #[], none⟩ ?_
    refine wpT 6 ⟨some 9, .load 3 (.tmp 8), 3, "same.go:146", #[⟨5, .data⟩], none⟩ ?_
    refine wpT 8 ⟨some 11, .fieldAddr 42 (.tmp 1) 2, 0, "same.go:146", #[], none⟩ ?_
    refine wpT 9 ⟨some 12, .load 3 (.tmp 11), 3, "same.go:146", #[⟨8, .data⟩], none⟩ ?_
    refine wpR 2 ⟨some 5, .call ⟨.value (.func 23), #[.tmp 4, .const (.int .i64 0), .const (.int .i64 1048576)], #[3, 3, 3]⟩, 3, "same.go:146", #[⟨1, .data⟩], none⟩ (fun K hK => ?_)
    go_simp
    refine (within_d _ _).mono ?_
    rintro _ _ ⟨rfl, rfl⟩
    refine hK.out _ _ ?_ (fun hHeld => ?_)
    · first | exact hS _ hx7 | exact hS _ hx
    clear hK K
    refine wpT 3 ⟨some 6, .binOp .rem 3 (.tmp 5) (.const (.int .i64 3)) 3, 3, "same.go:146", #[⟨2, .data⟩], none⟩ ?_
    refine wpT 4 ⟨some 7, .binOp .add 3 (.const (.int .i64 1)) (.tmp 6) 3, 3, "same.go:146", #[⟨3, .data⟩], none⟩ ?_
    refine wpR 7 ⟨some 10, .call ⟨.value (.func 24), #[.tmp 9], #[3]⟩, 9, "same.go:146", #[⟨6, .data⟩, ⟨2, .chain⟩], none⟩ (fun K hK => ?_)
    go_simp
    refine (hrow _).mono ?_
    rintro _ w7 ⟨rfl, m7⟩
    have hb7 := m7.at hb (by simp)
    have hx7 := m7.at hx (by simp)
    have mW7 : Moves [] wr w7 := mW.then m7
    refine hK.out _ _ ?_ (fun hHeld => ?_)
    · first | exact hS _ hx7 | exact hS _ hx
    clear hK K
    refine wpR 10 ⟨some 13, .call ⟨.value (.func 23), #[.tmp 12, .const (.int .i64 0), .const (.int .i64 1048576)], #[3, 3, 3]⟩, 3, "same.go:146", #[⟨9, .data⟩, ⟨7, .chain⟩], none⟩ (fun K hK => ?_)
    go_simp
    refine (within_d _ _).mono ?_
    rintro _ _ ⟨rfl, rfl⟩
    refine hK.out _ _ ?_ (fun hHeld => ?_)
    · first | exact hS _ hx7 | exact hS _ hx
    clear hK K
    refine wpT 11 ⟨some 14, .binOp .rem 3 (.tmp 13) (.const (.int .i64 3)) 3, 3, "same.go:146", #[⟨10, .data⟩], none⟩ ?_
    refine wpT 12 ⟨some 15, .binOp .add 3 (.const (.int .i64 1)) (.tmp 14) 3, 3, "same.go:146", #[⟨11, .data⟩], none⟩ ?_
    refine wpT 13 ⟨some 16, .build 39 #[(0, .const (.int .i64 8)), (6, .tmp 7), (4, .tmp 10), (5, .tmp 15)], 39, "same.go:146", #[⟨4, .data⟩, ⟨7, .data⟩, ⟨12, .data⟩], none⟩ ?_
    refine wpAnyH_done (by kernel_rfl) ?_ _
    unfold PeelQ
    refine wpOp_of_wp rfl rfl ?_
    refine wp_store_row 39 _ _ rfl (B0 + 1) _ rfl rfl _ _ hb7 Tryz.size39 rfl (by simp [Value.oneCell']) ?_
    exact NoPanic.normal ⟨rfl, by kernel_rfl, setRow_heap _ _ _ _ _ _ hb7, (mW7.mono (by simp)).then (moves_row _ _ _)⟩
  · rintro v wx ⟨hbx, mx⟩
    simp only [List.foldl_cons, List.foldl_nil, List.setIfInBounds_toArray, List.set_cons_zero, List.set_cons_succ]
    clear mW hS hx hb
    go_wp2_with fail
    try simp only [Exit.inBlock, Exit.then]
    exact bodyPost_ret (ret_cmd rfl _ _ (B0 + 1) _ rfl rfl hbx) rfl ⟨rfl, HM.out.trans mx (fun k hk => .inr (by simp at hk; have := HSZ.out; omega))⟩

structure BoxB (w : World) (B : Nat) (cs : Array Value) (t : TypeId) (p q c : Nat) (a : Option Nat) : Prop where
  at' : w.heap[B]? = some (.cells cs t (0, 0))
  no : B ∉ p :: q :: c :: a.toList
theorem notin_step {W w0 w : World} {p q c B : Nat} {a0 a : Option Nat} {S0 S : Pms} (g : MrG W w0 p q c a0 S0 w a S) (h : B ∉ p :: q :: c :: a0.toList) (hB : B < w0.heap.size) : B ∉ p :: q :: c :: a.toList := by
  intro hm
  simp only [List.mem_cons, not_or] at h hm
  rcases hm with e | e | e | e
  · exact h.1 e
  · exact h.2.1 e
  · exact h.2.2.1 e
  · rcases g.al with e2 | ⟨k, e2, hk⟩
    · rw [e2] at e; exact h.2.2.2 e
    · rw [e2] at e; simp at e; omega
theorem BoxB.step {W w0 w : World} {p q c B : Nat} {cs : Array Value} {t : TypeId} {a0 a : Option Nat} {S0 S : Pms} (h : BoxB w0 B cs t p q c a0) (g : MrG W w0 p q c a0 S0 w a S) : BoxB w B cs t p q c a :=
  ⟨g.mv.at h.at' h.no, notin_step g h.no (lt_of_block h.at')⟩
theorem BoxB.moves0 {w0 w : World} {p q c B : Nat} {cs : Array Value} {t : TypeId} {a : Option Nat} (h : BoxB w0 B cs t p q c a) (m : Moves [] w0 w) : BoxB w B cs t p q c a := ⟨m.at h.at' (by simp), h.no⟩
theorem MrIs.notin {W w : World} {p q c B : Nat} {a : Option Nat} {S : Pms} (h : MrIs W w p q c a S) (hB : w.heap.size ≤ B) : B ∉ p :: q :: c :: a.toList := by
  intro hm
  obtain ⟨l1, l2, l3, l4⟩ := h.lt
  simp only [List.mem_cons] at hm
  rcases hm with e | e | e | e
  · omega
  · omega
  · omega
  · have := l4 _ (Option.mem_toList.1 e); omega
theorem look_fresh {ca : List Pt} {c q : Int} (h : (ofT ca c).s < q) (hq : 1 ≤ q) : lookT (ofT ca c) q = 1 := by
  unfold lookT
  rw [if_neg (by omega), if_neg (by omega)]
theorem plan_fresh (S : Pms) (c q act : Int) (s : ByteArray) (to : Int) (h : (ofT S.ca c).s < q) (hq : 1 ≤ q) (h0 : 0 ≤ c) (h1 : c ≤ 255) (h2 : q ≤ 1073741824) (ha : act ≠ 0) :
    mPlan S c q act s to = ((mBegin S act s to).1, { (mBegin S act s to).2 with ca := keepT S.ca ⟨c, q, strOf (encA (mBegin S act s to).1)⟩ }) := by
  unfold mPlan
  rw [if_neg ha, if_neg (by rw [look_fresh h hq]; decide), if_neg (by rw [look_fresh h hq]; simp only [not_or, Classical.not_not]; exact ⟨by decide, h0, h1, h2⟩)]
theorem k11_last (s : ByteArray) : LastZ (k11.map Ptb.lo) s 0 := by
  refine ⟨by decide, fun k y hy hk => ?_, fun k y hy hk => ?_⟩
  · obtain rfl : k = 0 := by omega
    simp [k11] at hy
    subst hy
    exact zlt_nil _
  · match k, hk with
    | k + 1, _ => simp [k11] at hy
theorem known_plan : (mPlan (m0 2) 1 1 2 ⟨#[109]⟩ 0).1.code = 0 ∧ (mPlan (m0 2) 1 1 2 ⟨#[109]⟩ 0).1.gen = 2 ∧ (mPlan (m0 2) 1 1 2 ⟨#[109]⟩ 0).2.last = 2 ∧ (mPlan (m0 2) 1 1 2 ⟨#[109]⟩ 0).2.xs = k11 := by
  rw [plan_fresh (m0 2) 1 1 2 ⟨#[109]⟩ 0 (by decide) (by omega) (by omega) (by omega) (by omega) (by omega)]
  have hi : mIx (m0 2).xs ⟨#[109]⟩ = 0 := mIx_one (k11_last _)
  have ht : mTb (m0 2).xs ⟨#[109]⟩ = ⟨⟨#[]⟩, ⟨#[]⟩, 1, 1⟩ := by
    unfold mTb
    rw [hi]; rfl
  have hd : mDraw (m0 2) 2 ⟨#[109]⟩ 0 = pPl ⟨#[]⟩ ⟨#[]⟩ 1 0 1 0 2 ⟨#[109]⟩ := by
    unfold mDraw
    rw [if_neg (by omega), if_pos rfl, ht, if_pos (by decide +kernel), if_neg (by decide)]
  have hb : mBegin (m0 2) 2 ⟨#[109]⟩ 0 = (pPl ⟨#[]⟩ ⟨#[]⟩ 1 2 1 0 2 ⟨#[109]⟩, { m0 2 with last := 2, pend := pPl ⟨#[]⟩ ⟨#[]⟩ 1 2 1 0 2 ⟨#[109]⟩ }) := by
    unfold mBegin
    rw [if_neg (by decide), hd, if_neg (by decide), if_neg (by decide)]
    rfl
  rw [hb]
  exact ⟨rfl, rfl, rfl, rfl⟩
end Go.Proofs.YtilbbnmhnacnlaaGreat
/-
  law12's known.
-/
namespace Go.Proofs.YtilbbnmhnacnlaaGreat
open Go.RowKit

set_option maxRecDepth 100000 in
set_option maxHeartbeats 16000000 in
theorem known12_w (w : World) : Calls Tryz.prog 13 #[] w fun e w' => e = .returned (.bool true) ∧ Moves [] w w' := by
  go_enter Tryz.func13, Tryz.ntmps13
  go_wp2_with fail
  refine (mnew_w 2 (by omega) (by omega) w).mono ?_
  rintro _ w1 ⟨p, q, c, rfl, hI, m1⟩
  have hnp := nilPtr p
  have ok0 := m0_ok 2 (by omega) (by omega)
  have hdo := mdoPlan_w w w1 p q c none (m0 2) hI ok0 m1.size 1 1 (plC 2 ⟨#[109]⟩ 0) none 0 0 none 0 0 none 0 0 (plC_c w1 _ _ _) rfl (plC_r (by omega) (by omega) (by decide) (by omega) (by omega)) (by show (0 : Int) ≤ 2; omega) (by show (2 : Int) ≤ 3; omega) (by decide)
  have hok1 := mPlan_ok (m0 2) ok0 1 1 2 ⟨#[109]⟩ 0 (by omega) (by omega) (by decide)
  obtain ⟨kp1, kp2, kp3, kp4⟩ := known_plan
  obtain ⟨R, hR⟩ : ∃ R, mPlan (m0 2) 1 1 2 ⟨#[109]⟩ 0 = R := ⟨_, rfl⟩
  have hdo' : Calls Tryz.prog 10 #[.pointer (some ⟨p, 0, none⟩), .int .i64 1, .int .i64 1, .agg (plV 2 ⟨#[109]⟩ 0)] w1 fun e w' => ∃ cs a', e = .returned (.agg cs.toArray) ∧ AnsC w' cs R.1 ∧ MrG w w1 p q c none (m0 2) w' a' R.2 := by rw [← hR]; exact hdo
  rw [hR] at hok1 kp1 kp2 kp3 kp4
  have HOK : Hid (OkM R.2) := hok1
  have HK : Hid (R.1.code = 0 ∧ R.1.gen = 2 ∧ R.2.last = 2 ∧ R.2.xs = k11) := ⟨kp1, kp2, kp3, kp4⟩
  have HM1 : Hid (Moves [] w w1) := m1
  have HI1 : Hid (MrIs w w1 p q c none (m0 2)) := hI
  clear hdo hok1 kp1 kp2 kp3 kp4 hR ok0 hI m1
  unfold plV at hdo'
  go_wp2_with fail
  refine hdo'.mono ?_
  rintro _ w2 ⟨cs, a2, rfl, hA, hG⟩
  obtain ⟨ar, nr, cr, sa, ns, csn, gs, rfl, -⟩ := hA
  have HG : Hid (MrG w w1 p q c none (m0 2) w2 a2 R.2) := hG
  clear hdo' hG
  go_wp2_with (with_reducible refine stopA _ _ rfl ?_)
  unfold Hid
  have hz := heap_alloc_new w2 (.cells #[.int .i64 0, .slice none 0 0, .string ⟨#[]⟩, .string ⟨#[]⟩, .int .i64 0, .int .i64 0, .int .i64 0, .int .i64 0, .int .i64 0, .string ⟨#[]⟩, .slice none 0 0] 48)
  have mz : Moves [] w2 (w2.alloc (.cells #[.int .i64 0, .slice none 0 0, .string ⟨#[]⟩, .string ⟨#[]⟩, .int .i64 0, .int .i64 0, .int .i64 0, .int .i64 0, .int .i64 0, .string ⟨#[]⟩, .slice none 0 0] 48)) := (Moves.refl _ _).alloc _
  refine wpList_storeAns rfl _ _ rfl w2.heap.size [.int .i64 R.1.code, .slice ar nr cr, .string R.1.lo, .string R.1.hi, .int .i64 R.1.grp, .int .i64 R.1.gen, .int .i64 R.1.old, .int .i64 R.1.to, .int .i64 R.1.act, .string R.1.at', .slice sa ns csn] rfl rfl rfl (by simp [Value.oneCell']) hz rfl ?_
  intro w3 hh mm
  have Mw3 : Moves [] w2 w3 := mz.trans mm (fun x hx => .inr (by simp at hx; omega))
  clear hz mz mm
  have hI3 := HG.out.is.moves0 Mw3
  have HBX : Hid (BoxB w3 w2.heap.size _ _ p q c a2) := ⟨hh, HG.out.is.notin (Nat.le_refl _)⟩
  have hpu := mdoPub_w w w3 p q c a2 R.2 hI3 HOK.out 1 2 (pubC 9 0) none 0 0 none 0 0 none 0 0 (pubC_c w3 _ _) rfl (pubC_r (by omega) (by omega) (.inl rfl)) (by show (1 : Int) ≤ 9; omega)
  have ep : mPub R.2 (pubC 9 0).gen (pubC 9 0).to = (pTold 22, R.2) := by
    unfold mPub
    rw [if_pos (by rw [HK.out.2.2.1]; show (2 : Int) < 9; omega)]
  rw [ep] at hpu
  have hpu' : Calls Tryz.prog 10 #[.pointer (some ⟨p, 0, none⟩), .int .i64 1, .int .i64 2, .agg (pubV 9 0)] w3 fun e w' => e = .returned (.agg (ansV (pTold 22))) ∧ MrG w w3 p q c a2 R.2 w' a2 R.2 := hpu
  have HI3 : Hid (MrIs w w3 p q c a2 R.2) := hI3
  have HM3 : Hid (Moves [] w2 w3) := Mw3
  clear hpu ep hI3 hh Mw3
  unfold pubV at hpu'
  go_wp2_with fail
  refine hpu'.mono ?_
  rintro _ w4 ⟨rfl, hG4⟩
  have HG4 : Hid (MrG w w3 p q c a2 R.2 w4 a2 R.2) := hG4
  clear hpu' hG4
  go_wp2_with (with_reducible refine stopA _ _ rfl ?_)
  unfold Hid
  have hz := heap_alloc_new w4 (.cells #[.int .i64 0, .slice none 0 0, .string ⟨#[]⟩, .string ⟨#[]⟩, .int .i64 0, .int .i64 0, .int .i64 0, .int .i64 0, .int .i64 0, .string ⟨#[]⟩, .slice none 0 0] 48)
  have mz : Moves [] w4 (w4.alloc (.cells #[.int .i64 0, .slice none 0 0, .string ⟨#[]⟩, .string ⟨#[]⟩, .int .i64 0, .int .i64 0, .int .i64 0, .int .i64 0, .int .i64 0, .string ⟨#[]⟩, .slice none 0 0] 48)) := (Moves.refl _ _).alloc _
  refine wpList_storeAns rfl _ _ rfl w4.heap.size (ansV (pTold 22)).toList rfl rfl rfl (ansV_one _) hz rfl ?_
  intro w5 hh mm
  have Mw5 : Moves [] w4 w5 := mz.trans mm (fun x hx => .inr (by simp at hx; omega))
  clear hz mz mm
  have hb5 := ((HBX.out.step HG4.out).moves0 Mw5).at'
  obtain ⟨B2, hB2⟩ : ∃ B2, w2.heap.size = B2 := ⟨_, rfl⟩
  rw [hB2] at hb5 ⊢
  obtain ⟨x0, _, _, _, _, x5, _⟩ := eleven_cells hb5
  rw [HK.out.1] at x0
  rw [HK.out.2.1] at x5
  have z0 := (eleven_cells hh).1
  have hal := mall_w w w5 p q c a2 R.2 (HG4.out.is.moves0 Mw5) HOK.out
  have HM5 : Hid (Moves [] w4 w5) := Mw5
  have hM : Hid (Moves [] w w5) := (((HG.out.old HM1.out (by simp)).then HM3.out).then (by
    have := HG4.out.old ((HG.out.old HM1.out (by simp)).then HM3.out) (fun k hk => HI3.out.young hk)
    exact Moves.refl [] w3)).trans (HG4.out.mv.then (HM5.out.mono (by simp))) (fun k hk => .inr (by
      simp only [List.mem_cons] at hk
      rcases hk with rfl | rfl | rfl | hk
      · exact HI3.out.hp
      · exact HI3.out.hq
      · exact HI3.out.hc
      · exact HI3.out.young (Option.mem_toList.1 hk)))
  clear hb5 hh hB2 HBX Mw5
  go_wp2_with fail
  refine hal.mono ?_
  rintro _ w6 ⟨v6, rfl, hO, hF, m6⟩
  obtain ⟨ad, n, cap, rfl, hn⟩ := hO.open
  have hn1 : n = 1 := by rw [hn.out, HK.out.2.2.2]; rfl
  subst hn1
  have HM6 : Hid (Moves [] w5 w6) := m6
  clear hal hO hF m6 hn
  go_wp2_with fail
  refine (mnew0_w _).mono ?_
  rintro _ _ ⟨rfl, rfl⟩
  go_wp2_with fail
  go_ret
  exact ⟨rfl, hM.out.then HM6.out⟩
end Go.Proofs.YtilbbnmhnacnlaaGreat
/-
  MasterOnce's walk.
-/
namespace Go.Proofs.YtilbbnmhnacnlaaGreat
open Go.RowKit

end Go.Proofs.YtilbbnmhnacnlaaGreat
