/- ours -/
import Derived.Test.YtilbbnmhnacnlaaGreatCB47
import Derived.Test.YtilbbnmhnacnlaaGreatCB01
import Derived.Test.YtilbbnmhnacnlaaGreatCB19
namespace Go.Proofs.YtilbbnmhnacnlaaGreat
open Go.RowKit

set_option maxRecDepth 100000 in
theorem rtexts_w (v : Value) (g : Nat) (bs : List Nat) (s : ByteArray) (w : World) (h : IsB w g v bs) (hb : bs.length ≤ 1000) (hs : s.size ≤ 16) :
    Calls Tryz.prog 58 #[v, .string s] w fun e w' => ∃ v', e = .returned v' ∧ Own w' v' (bs ++ encX s) ∧ Moves [] w w' ∧ Fresh w v' := by
  obtain ⟨g1, cap1, w1, hrun1, hB1, m1, hg1⟩ := zbytes_run w s
  have ht := rtext_w v g bs _ g1 (zbs s) w1 (h.moves m1 (by simp)) hB1 (by omega) (by rw [zbs_length]; omega)
  obtain ⟨a0, n0, c0, rfl, -⟩ := id h
  clear h hB1
  go_enter Tryz.func58, Tryz.ntmps58
  go_wp2_with fail
  refine ht.mono ?_
  rintro _ w2 ⟨v2, rfl, hO2, m2, hf2⟩
  go_wp2_with fail
  go_ret
  exact ⟨_, rfl, by rw [zbs_length] at hO2; simpa [encX, List.append_assoc] using hO2, m1.then m2, fun k hk => Nat.le_trans m1.size (hf2 k hk)⟩
set_option maxRecDepth 100000 in
set_option maxHeartbeats 8000000 in
theorem rspans_w (v : Value) (g : Nat) (bs : List Nat) (lo hi : ByteArray) (w : World) (h : IsB w g v bs) (hb : bs.length ≤ 900) (hlo : lo.size ≤ 16) (hhi : hi.size ≤ 16) :
    Calls Tryz.prog 59 #[v, .agg #[.string lo, .string hi]] w fun e w' => ∃ v', e = .returned v' ∧ Own w' v' (bs ++ encX lo ++ encX hi) ∧ Moves [] w w' ∧ Fresh w v' := by
  have b1 := heap_alloc_new w (.cells #[.string lo, .string hi] 37)
  obtain ⟨w1, hw1⟩ : ∃ w1, w.alloc (.cells #[.string lo, .string hi] 37) = w1 := ⟨_, rfl⟩
  have m1 : Moves [] w w1 := by rw [← hw1]; exact (Moves.refl _ _).alloc _
  rw [hw1] at b1
  obtain ⟨B, hB⟩ : ∃ B, w.heap.size = B := ⟨_, rfl⟩
  rw [hB] at b1
  obtain ⟨y0, y1, _, _⟩ := sp_cells b1
  obtain ⟨a0, n0, c0, rfl, -⟩ := id h
  clear b1
  go_enter Tryz.func59, Tryz.ntmps59
  go_wp2_with fail
  try rw [hw1]
  try rw [hB]
  refine wp_region_noPanic ?_
  refine wp_region_held_drew (S := (fun w' => w'.cell? ⟨B, 0, none⟩ = some (.string lo) ∧ w'.cell? ⟨B, 1, none⟩ = some (.string hi))) (by kernel_rfl) ?_ (fun hHeld => ?_)
  · first | (go_keep; done) | first | exact ⟨y0, y1⟩ | exact ⟨d0, d1⟩ | exact ⟨f0, f1⟩
  refine wpT 0 ⟨some 5, .move (.tmp 0), 27, "ref.go:57", #[], none⟩ ?_
  refine wpT 1 ⟨some 6, .fieldAddr 37 (.tmp 3) 0, 0, "ref.go:57", #[], none⟩ ?_
  refine wpT 2 ⟨some 7, .load 9 (.tmp 6), 9, "ref.go:57", #[⟨1, .data⟩], none⟩ ?_
  refine wpT 4 ⟨some 9, .fieldAddr 37 (.tmp 3) 1, 0, "ref.go:57", #[], none⟩ ?_
  refine wpT 5 ⟨some 10, .load 9 (.tmp 9), 9, "ref.go:57", #[⟨4, .data⟩], none⟩ ?_
  refine wpR 3 ⟨some 8, .call ⟨.value (.func 58), #[.tmp 5, .tmp 7], #[27, 9]⟩, 27, "ref.go:57", #[⟨0, .data⟩, ⟨2, .data⟩], none⟩ (fun K hK => ?_)
  go_simp
  go_at_call 58
  refine (rtexts_w _ _ bs lo _ (h.moves (m1.drew) (by simp)) (by omega) hlo).mono ?_
  rintro _ w2 ⟨v2, rfl, hO2, m2, -⟩
  have M2 : Moves [] w1 w2 := (Moves.refl [] w1).drew.then m2
  have d0 := M2.cell y0
  have d1 := M2.cell y1
  refine hK.out _ _ ?_ (fun hHeld => ?_)
  · first | exact ⟨y0, y1⟩ | exact ⟨d0, d1⟩ | exact ⟨f0, f1⟩
  clear hK K
  try simp only [Act.put, sp1, sp2, sp3]
  refine wpR 6 ⟨some 11, .call ⟨.value (.func 58), #[.tmp 8, .tmp 10], #[27, 9]⟩, 27, "ref.go:57", #[⟨3, .data⟩, ⟨5, .data⟩, ⟨3, .chain⟩], none⟩ (fun K hK => ?_)
  go_simp
  go_at_call 58
  refine (rtexts_w _ _ (bs ++ encX lo) hi _ hO2.isB (by simp [encX, zbs_length, be_length]; omega) hhi).mono ?_
  rintro _ w3 ⟨v3, rfl, hO3, m3, hf3⟩
  have M3 : Moves [] w1 w3 := M2.then m3
  have f0 := M3.cell y0
  have f1 := M3.cell y1
  refine hK.out _ _ ?_ (fun hHeld => ?_)
  · first | exact ⟨y0, y1⟩ | exact ⟨d0, d1⟩ | exact ⟨f0, f1⟩
  clear hK K
  try simp only [Act.put, sp1, sp2, sp3]
  refine wpT 7 ⟨some 4, .assign (.tmp 11), 27, "ref.go:57", #[⟨6, .data⟩, ⟨6, .chain⟩, ⟨0, .phase⟩, ⟨1, .phase⟩, ⟨2, .phase⟩, ⟨3, .phase⟩, ⟨4, .phase⟩, ⟨5, .phase⟩, ⟨6, .phase⟩], none⟩ ?_
  refine wpAnyH_done (by kernel_rfl) ?_ _
  refine NoPanic.normal ?_
  go_wp2_with fail
  go_ret
  exact ⟨_, rfl, by simpa [List.append_assoc] using hO3, m1.then M3, fun k hk => Nat.le_trans (m1.then M2).size (hf3 k hk)⟩

theorem three_isB {w : World} {g : Nat} {a b c : Nat} (h : w.heap[g]? = some (.cells #[.int .u8 (a : Int), .int .u8 (b : Int), .int .u8 (c : Int)] 5 (0, 0))) : IsB w g (.slice (some ⟨g, 0, none⟩) 3 3) [a, b, c] := by
  refine ⟨_, _, _, rfl, rfl, Nat.le_refl _, fun h => by simp at h, .inr ⟨0, rfl, fun j x hj => ?_⟩⟩
  match j, hj with
  | 0, hj => simp at hj; subst hj; simp [World.cell?, h]
  | 1, hj => simp at hj; subst hj; simp [World.cell?, h]
  | 2, hj => simp at hj; subst hj; simp [World.cell?, h]
theorem two_isB {w : World} {g : Nat} {a b : Nat} (h : w.heap[g]? = some (.cells #[.int .u8 (a : Int), .int .u8 (b : Int)] 5 (0, 0))) : IsB w g (.slice (some ⟨g, 0, none⟩) 2 2) [a, b] := by
  refine ⟨_, _, _, rfl, rfl, Nat.le_refl _, fun h => by simp at h, .inr ⟨0, rfl, fun j x hj => ?_⟩⟩
  match j, hj with
  | 0, hj => simp at hj; subst hj; simp [World.cell?, h]
  | 1, hj => simp at hj; subst hj; simp [World.cell?, h]
theorem wrap8_nat {n : Nat} (hn : n < 256) : IntKind.u8.wrap (n : Int) = (n : Int) := by
  simp [IntKind.wrap, IntKind.bits, IntKind.signed]
  omega
theorem wrap32_nat {n : Nat} (hn : n ≤ 1073741824) : IntKind.u32.wrap (n : Int) = (n : Int) := by
  simp [IntKind.wrap, IntKind.bits, IntKind.signed]
  omega
theorem app_step {ops : Array Oper} {o : Oper} {a : Act} {K : Act → World → Prop} {Q : Exit → Act → World → Prop} {w : World} (s x : Operand)
    (ho : o.op = .call { callee := .builtin .append, args := #[s, x], argTypes := #[27, 27] })
    (v xv : Value) (bs cs : List Nat) (g : Nat) (hs : a.eval s = v) (hx : a.eval x = xv) (hw : Region.wanted o (yielded ops a.tmps) = true)
    (hv : Own w v bs) (hc : IsB w g xv cs) (hb : bs.length + cs.length ≤ 1099511627776)
    (h : ∀ v' w', Own w' v' (bs ++ cs) → Moves v.ownBlock.toList w w' → Lain w v v' → K (a.put o.dst v') w') :
    if Region.wanted o (yielded ops a.tmps) then o.wp Tryz.prog a w K Q else K (a.put o.dst undef) w := by
  rw [if_pos hw]
  exact own_append_wp s x ho v xv bs cs g hs hx hv hc hb h
set_option maxRecDepth 100000 in
set_option maxHeartbeats 16000000 in
theorem rencA_w (w : World) (A : Pans) (hb : Bare A) (hr : rAns A = true) :
    Calls Tryz.prog 31 #[.agg (ansV A)] w fun e w' => ∃ v g, e = .returned v ∧ IsB w' g v (encA A) ∧ Moves [] w w' := by
  obtain ⟨code, rows, lo, hi, grp, gen, old, to, act, at', st⟩ := A
  obtain ⟨e1, e2⟩ := hb
  dsimp only at e1 e2
  subst e1 e2
  obtain ⟨r0, r1, r2, r3, r4, r5, r6, r7, r8, r9⟩ := rAns_iff.1 hr
  obtain ⟨sl, sh, _⟩ := spR_parts r2
  have hlo : lo.size ≤ 16 := of_decide_eq_true sl
  have hhi : hi.size ≤ 16 := of_decide_eq_true sh
  have hat : at'.size ≤ 16 := of_decide_eq_true r8
  obtain ⟨nc, rfl, hnc⟩ : ∃ n : Nat, code = (n : Int) ∧ n < 256 := ⟨code.toNat, by have := wi_iff.1 r0; dsimp only at this; omega, by have := wi_iff.1 r0; dsimp only at this; omega⟩
  obtain ⟨ng, rfl, hng⟩ : ∃ n : Nat, grp = (n : Int) ∧ n < 256 := ⟨grp.toNat, by have := wi_iff.1 r3; dsimp only at this; omega, by have := wi_iff.1 r3; dsimp only at this; omega⟩
  obtain ⟨nt, rfl, hnt⟩ : ∃ n : Nat, to = (n : Int) ∧ n < 256 := ⟨to.toNat, by have := wi_iff.1 r4; dsimp only at this; omega, by have := wi_iff.1 r4; dsimp only at this; omega⟩
  obtain ⟨na, rfl, hna⟩ : ∃ n : Nat, act = (n : Int) ∧ n < 256 := ⟨act.toNat, by have := wi_iff.1 r5; dsimp only at this; omega, by have := wi_iff.1 r5; dsimp only at this; omega⟩
  obtain ⟨ne, rfl, hne⟩ : ∃ n : Nat, gen = (n : Int) ∧ n ≤ 1073741824 := ⟨gen.toNat, by have := wi_iff.1 r6; dsimp only at this; omega, by have := wi_iff.1 r6; dsimp only at this; omega⟩
  obtain ⟨no, rfl, hno⟩ : ∃ n : Nat, old = (n : Int) ∧ n ≤ 1073741824 := ⟨old.toNat, by have := wi_iff.1 r7; dsimp only at this; omega, by have := wi_iff.1 r7; dsimp only at this; omega⟩
  have HE : Hid (encA ⟨(nc : Int), [], lo, hi, (ng : Int), (ne : Int), (no : Int), (nt : Int), (na : Int), at', []⟩ = (([nc, 0] ++ encX lo ++ encX hi ++ [ng, nt, na]) ++ be 4 ne ++ be 4 no ++ encX at') ++ be 4 0 ++ []) := by
    unfold Hid encA
    simp [encNs, List.append_assoc]
  rw [HE.out]
  clear HE r0 r1 r2 r3 r4 r5 r6 r7 r8 r9 sl sh hr
  unfold ansV
  dsimp only
  have b1 := heap_alloc_new w (.cells #[.int .i64 (nc : Int), .slice none 0 0, .string lo, .string hi, .int .i64 (ng : Int), .int .i64 (ne : Int), .int .i64 (no : Int), .int .i64 (nt : Int), .int .i64 (na : Int), .string at', .slice none 0 0] 48)
  obtain ⟨w1, hw1⟩ : ∃ w1, w.alloc (.cells #[.int .i64 (nc : Int), .slice none 0 0, .string lo, .string hi, .int .i64 (ng : Int), .int .i64 (ne : Int), .int .i64 (no : Int), .int .i64 (nt : Int), .int .i64 (na : Int), .string at', .slice none 0 0] 48) = w1 := ⟨_, rfl⟩
  have m1 : Moves [] w w1 := by rw [← hw1]; exact (Moves.refl _ _).alloc _
  rw [hw1] at b1
  obtain ⟨B, hB⟩ : ∃ B, w.heap.size = B := ⟨_, rfl⟩
  rw [hB] at b1
  have b2 := heap_alloc_new w1 (.cells #[.int .u8 (nc : Int), .int .u8 0] 5)
  obtain ⟨w2, hw2⟩ : ∃ w2, w1.alloc (.cells #[.int .u8 (nc : Int), .int .u8 0] 5) = w2 := ⟨_, rfl⟩
  have m2 : Moves [] w1 w2 := by rw [← hw2]; exact (Moves.refl _ _).alloc _
  rw [hw2] at b2
  have hB2 : IsB w2 w1.heap.size (.slice (some ⟨w1.heap.size, 0, none⟩) 2 2) [nc, 0] := two_isB b2
  obtain ⟨G, hG⟩ : ∃ G, w1.heap.size = G := ⟨_, rfl⟩
  rw [hG] at hB2
  obtain ⟨z0, z1, z2, z3, z4, z5, z6, z7, z8, z9, z10⟩ := eleven_cells b1
  have ec : (nc : Int) % 256 = nc := by omega
  have HM : Hid (Moves [] w w1) := m1
  have HM2 : Hid (Moves [] w1 w2) := m2
  clear b1 b2 m1 m2
  go_enter Tryz.func31, Tryz.ntmps31
  go_wp2_with fail
  try rw [hw1]
  try rw [hB]
  try rw [hw2]
  try rw [hG]
  go_loopw [3, 4] (fun b i wr => b = .slice (some ⟨G, 0, none⟩) 2 2 ∧ i = .int .i64 0 ∧ w2 = wr) (fun _ _ _ => 0)
  case atStart => exact ⟨rfl, rfl, rfl⟩
  case round =>
    obtain ⟨rfl, rfl, rfl⟩ := hrel
    have x1 := HM2.out.cell z1
    clear z1
    have q2 := HM2.out.cell z2
    have q3 := HM2.out.cell z3
    have q4 := HM2.out.cell z4
    have q5 := HM2.out.cell z5
    have q6 := HM2.out.cell z6
    have q7 := HM2.out.cell z7
    have q8 := HM2.out.cell z8
    have q9 := HM2.out.cell z9
    have q10 := HM2.out.cell z10
    clear z0 z2 z3 z4 z5 z6 z7 z8 z9 z10
    go_wp2_with fail
    clear ec hw1 hw2 hG hB
    refine wp_region_noPanic ?_
    refine wp_region_held_drew (S := (fun w' => w'.cell? ⟨B, 2, none⟩ = some (.string lo) ∧ w'.cell? ⟨B, 3, none⟩ = some (.string hi) ∧ w'.cell? ⟨B, 4, none⟩ = some (.int .i64 (ng : Nat)) ∧ w'.cell? ⟨B, 7, none⟩ = some (.int .i64 (nt : Nat)) ∧ w'.cell? ⟨B, 8, none⟩ = some (.int .i64 (na : Nat)))) (by kernel_rfl) ?_ (fun hHeld => ?_)
    · first | (go_keep; done) | first | exact ⟨q2, q3, q4, q7, q8⟩ | exact ⟨(M14).cell q2, (M14).cell q3, (M14).cell q4, (M14).cell q7, (M14).cell q8⟩ | exact ⟨(M13).cell q2, (M13).cell q3, (M13).cell q4, (M13).cell q7, (M13).cell q8⟩ | exact ⟨(M3).cell q2, (M3).cell q3, (M3).cell q4, (M3).cell q7, (M3).cell q8⟩
    refine wpT 0 ⟨some 35, .move (.tmp 3), 27, "ref.go:220", #[], none⟩ ?_
    refine wpT 1 ⟨some 36, .fieldAddr 48 (.tmp 1) 2, 0, "ref.go:220", #[], none⟩ ?_
    refine wpT 2 ⟨some 37, .load 37 (.tmp 36), 37, "ref.go:220", #[⟨1, .data⟩], none⟩ ?_
    refine wpT 4 ⟨some 39, .fieldAddr 48 (.tmp 1) 3, 0, "ref.go:220", #[], none⟩ ?_
    refine wpT 5 ⟨some 40, .load 3 (.tmp 39), 3, "ref.go:220", #[⟨4, .data⟩], none⟩ ?_
    refine wpT 6 ⟨some 41, .convert 3 5 (.tmp 40), 5, "ref.go:220", #[⟨5, .data⟩], none⟩ ?_
    refine wpT 7 ⟨some 42, .fieldAddr 48 (.tmp 1) 6, 0, "ref.go:220", #[], none⟩ ?_
    refine wpT 8 ⟨some 43, .load 3 (.tmp 42), 3, "ref.go:220", #[⟨7, .data⟩], none⟩ ?_
    refine wpT 9 ⟨some 44, .convert 3 5 (.tmp 43), 5, "ref.go:220", #[⟨8, .data⟩], none⟩ ?_
    refine wpT 10 ⟨some 45, .fieldAddr 48 (.tmp 1) 7, 0, "ref.go:220", #[], none⟩ ?_
    refine wpT 11 ⟨some 46, .load 3 (.tmp 45), 3, "ref.go:220", #[⟨10, .data⟩], none⟩ ?_
    refine wpT 12 ⟨some 47, .convert 3 5 (.tmp 46), 5, "ref.go:220", #[⟨11, .data⟩], none⟩ ?_
    refine wpAnyH_ready (rs := [3, 13]) (by kernel_rfl) (by simp) ?_
    refine AllReadyH.cons (o := ⟨some 38, .call ⟨.value (.func 59), #[.tmp 35, .tmp 37], #[27, 37]⟩, 27, "ref.go:220", #[⟨0, .data⟩, ⟨2, .data⟩], none⟩) rfl (fun K hK => ?_) ?_
    · go_simp
      go_at_call 59
      refine (rspans_w _ _ [nc, 0] lo hi _ (hB2.moves ((Moves.refl [] w2).drew) (by simp)) (by simp) hlo hhi).mono ?_
      rintro _ v3 ⟨s3, rfl, hO3, m3, hf3⟩
      have M3 : Moves [] w2 v3 := ((Moves.refl [] w2).drew).then m3
      have hF3 : Fresh w2 s3 := fun k hk => Nat.le_trans ((Moves.refl [] w2).drew).size (hf3 k hk)
      refine hK.out _ _ ?_ (fun hHeld => ?_)
      · first | exact ⟨q2, q3, q4, q7, q8⟩ | exact ⟨(M14).cell q2, (M14).cell q3, (M14).cell q4, (M14).cell q7, (M14).cell q8⟩ | exact ⟨(M13).cell q2, (M13).cell q3, (M13).cell q4, (M13).cell q7, (M13).cell q8⟩ | exact ⟨(M3).cell q2, (M3).cell q3, (M3).cell q4, (M3).cell q7, (M3).cell q8⟩
      clear hK K
      try simp only [Act.put, sp1, sp2, sp3]
      refine wpR 13 ⟨some 48, .buildSlice 27 3 #[(0, .tmp 41), (1, .tmp 44), (2, .tmp 47)], 27, "ref.go:220", #[⟨6, .data⟩, ⟨9, .data⟩, ⟨12, .data⟩], none⟩ (fun K hK => ?_)
      go_simp
      rw [wrap8_nat hng, wrap8_nat hnt, wrap8_nat hna]
      have hb13 : (v3.alloc (.cells #[.int .u8 (ng : Nat), .int .u8 (nt : Nat), .int .u8 (na : Nat)] 5)).heap[v3.heap.size]? = some (.cells #[.int .u8 (ng : Nat), .int .u8 (nt : Nat), .int .u8 (na : Nat)] 5 (0, 0)) := heap_alloc_new v3 _
      obtain ⟨v13, hv13⟩ : ∃ v13, v3.alloc (.cells #[.int .u8 (ng : Nat), .int .u8 (nt : Nat), .int .u8 (na : Nat)] 5) = v13 := ⟨_, rfl⟩
      have m13 : Moves [] v3 v13 := by rw [← hv13]; exact (Moves.refl _ _).alloc _
      rw [hv13] at hb13
      try rw [hv13]
      have hB13 := three_isB hb13
      have hO3 := hO3.moves m13 (by simp)
      have M13 : Moves [] w2 v13 := M3.then m13
      clear hv13 hb13
      refine hK.out _ _ ?_ (fun hHeld => ?_)
      · first | exact ⟨q2, q3, q4, q7, q8⟩ | exact ⟨(M14).cell q2, (M14).cell q3, (M14).cell q4, (M14).cell q7, (M14).cell q8⟩ | exact ⟨(M13).cell q2, (M13).cell q3, (M13).cell q4, (M13).cell q7, (M13).cell q8⟩ | exact ⟨(M3).cell q2, (M3).cell q3, (M3).cell q4, (M3).cell q7, (M3).cell q8⟩
      clear hK K
      try simp only [Act.put, sp1, sp2, sp3]
      refine wpR 14 ⟨some 49, .call ⟨.builtin .append, #[.tmp 38, .tmp 48], #[27, 27]⟩, 27, "ref.go:220", #[⟨3, .data⟩, ⟨13, .data⟩, ⟨3, .chain⟩], none⟩ (fun K hK => ?_)
      refine app_step (.tmp 38) (.tmp 48) rfl s3 _ ([nc, 0] ++ encX lo ++ encX hi) [ng, nt, na] _ rfl rfl (by rfl) hO3 hB13 (by simp [encX, zbs_length, be_length]; omega) ?_
      intro s14 v14 hO14 m14 l14
      have M14 : Moves [] w2 v14 := (appended M13 hF3 m14 l14).1
      refine hK.out _ _ ?_ (fun hHeld => ?_)
      · first | exact ⟨q2, q3, q4, q7, q8⟩ | exact ⟨(M14).cell q2, (M14).cell q3, (M14).cell q4, (M14).cell q7, (M14).cell q8⟩ | exact ⟨(M13).cell q2, (M13).cell q3, (M13).cell q4, (M13).cell q7, (M13).cell q8⟩ | exact ⟨(M3).cell q2, (M3).cell q3, (M3).cell q4, (M3).cell q7, (M3).cell q8⟩
      clear hK K
      try simp only [Act.put, sp1, sp2, sp3]
      refine wpT 15 ⟨some 3, .assign (.tmp 49), 27, "ref.go:220", #[⟨14, .data⟩, ⟨14, .chain⟩, ⟨0, .phase⟩, ⟨1, .phase⟩, ⟨2, .phase⟩, ⟨3, .phase⟩, ⟨4, .phase⟩, ⟨5, .phase⟩, ⟨6, .phase⟩, ⟨7, .phase⟩, ⟨8, .phase⟩, ⟨9, .phase⟩, ⟨10, .phase⟩, ⟨11, .phase⟩, ⟨12, .phase⟩, ⟨13, .phase⟩, ⟨14, .phase⟩], none⟩ ?_
      refine wpAnyH_done (by kernel_rfl) ?_ _
      refine NoPanic.normal ?_
      go_wp2_with fail
      refine wp_region_noPanic ?_
      refine wp_region_held_drew (S := (fun w' => w'.cell? ⟨B, 5, none⟩ = some (.int .i64 (ne : Nat)) ∧ w'.cell? ⟨B, 6, none⟩ = some (.int .i64 (no : Nat)))) (by kernel_rfl) ?_ (fun hHeld => ?_)
      · first | (go_keep; done) | first | exact ⟨(M14.drew).cell q5, (M14.drew).cell q6⟩ | exact ⟨(M14).cell q5, (M14).cell q6⟩ | exact ⟨(M15).cell q5, (M15).cell q6⟩ | exact ⟨(M16).cell q5, (M16).cell q6⟩
      refine wpT 0 ⟨some 50, .move (.tmp 3), 27, "ref.go:221", #[], none⟩ ?_
      refine wpT 1 ⟨some 51, .fieldAddr 48 (.tmp 1) 4, 0, "ref.go:221", #[], none⟩ ?_
      refine wpT 2 ⟨some 52, .load 3 (.tmp 51), 3, "ref.go:221", #[⟨1, .data⟩], none⟩ ?_
      refine wpT 3 ⟨some 53, .convert 3 124 (.tmp 52), 124, "ref.go:221", #[⟨2, .data⟩], none⟩ ?_
      refine wpT 5 ⟨some 55, .fieldAddr 48 (.tmp 1) 5, 0, "ref.go:221", #[], none⟩ ?_
      refine wpT 6 ⟨some 56, .load 3 (.tmp 55), 3, "ref.go:221", #[⟨5, .data⟩], none⟩ ?_
      refine wpT 7 ⟨some 57, .convert 3 124 (.tmp 56), 124, "ref.go:221", #[⟨6, .data⟩], none⟩ ?_
      refine wpR 4 ⟨some 54, .call ⟨.value (.func 60), #[.tmp 50, .tmp 53], #[27, 124]⟩, 27, "ref.go:221", #[⟨0, .data⟩, ⟨3, .data⟩], none⟩ (fun K hK => ?_)
      go_simp
      go_at_call 60
      refine (rnum_w _ _ _ ne _ (wrap32_nat hne) _ (hO14.isB.moves ((Moves.refl [] _).drew) (by simp)) (by simp [encX, zbs_length, be_length]; omega) (by omega)).mono ?_
      rintro _ v15 ⟨s15, rfl, hO15, m15, hf15⟩
      have M15 : Moves [] w2 v15 := M14.then ((Moves.refl [] _).drew.then m15)
      refine hK.out _ _ ?_ (fun hHeld => ?_)
      · first | exact ⟨(M14.drew).cell q5, (M14.drew).cell q6⟩ | exact ⟨(M14).cell q5, (M14).cell q6⟩ | exact ⟨(M15).cell q5, (M15).cell q6⟩ | exact ⟨(M16).cell q5, (M16).cell q6⟩
      clear hK K
      try simp only [Act.put, sp1, sp2, sp3]
      refine wpR 8 ⟨some 58, .call ⟨.value (.func 60), #[.tmp 54, .tmp 57], #[27, 124]⟩, 27, "ref.go:221", #[⟨4, .data⟩, ⟨7, .data⟩, ⟨4, .chain⟩], none⟩ (fun K hK => ?_)
      go_simp
      go_at_call 60
      refine (rnum_w _ _ _ no _ (wrap32_nat hno) _ hO15.isB (by simp [encX, zbs_length, be_length]; omega) (by omega)).mono ?_
      rintro _ v16 ⟨s16, rfl, hO16, m16, hf16⟩
      have M16 : Moves [] w2 v16 := M15.then m16
      refine hK.out _ _ ?_ (fun hHeld => ?_)
      · first | exact ⟨(M14.drew).cell q5, (M14.drew).cell q6⟩ | exact ⟨(M14).cell q5, (M14).cell q6⟩ | exact ⟨(M15).cell q5, (M15).cell q6⟩ | exact ⟨(M16).cell q5, (M16).cell q6⟩
      clear hK K
      try simp only [Act.put, sp1, sp2, sp3]
      refine wpT 9 ⟨some 3, .assign (.tmp 58), 27, "ref.go:221", #[⟨8, .data⟩, ⟨8, .chain⟩, ⟨0, .phase⟩, ⟨1, .phase⟩, ⟨2, .phase⟩, ⟨3, .phase⟩, ⟨4, .phase⟩, ⟨5, .phase⟩, ⟨6, .phase⟩, ⟨7, .phase⟩, ⟨8, .phase⟩], none⟩ ?_
      refine wpAnyH_done (by kernel_rfl) ?_ _
      refine NoPanic.normal ?_
      go_wp2_with fail
      refine wp_region_noPanic ?_
      refine wp_region_held_drew (S := (fun w' => w'.cell? ⟨B, 9, none⟩ = some (.string at') ∧ w'.cell? ⟨B, 10, none⟩ = some (.slice none 0 0))) (by kernel_rfl) ?_ (fun hHeld => ?_)
      · first | (go_keep; done) | first | exact ⟨(M16.drew).cell q9, (M16.drew).cell q10⟩ | exact ⟨(M16).cell q9, (M16).cell q10⟩ | exact ⟨(M17).cell q9, (M17).cell q10⟩ | exact ⟨(M18).cell q9, (M18).cell q10⟩
      refine wpT 0 ⟨some 59, .move (.tmp 3), 27, "ref.go:222", #[], none⟩ ?_
      refine wpT 1 ⟨some 60, .fieldAddr 48 (.tmp 1) 8, 0, "ref.go:222", #[], none⟩ ?_
      refine wpT 2 ⟨some 61, .load 9 (.tmp 60), 9, "ref.go:222", #[⟨1, .data⟩], none⟩ ?_
      refine wpT 4 ⟨some 63, .fieldAddr 48 (.tmp 1) 9, 0, "ref.go:222", #[], none⟩ ?_
      refine wpT 5 ⟨some 64, .load 27 (.tmp 63), 27, "ref.go:222", #[⟨4, .data⟩], none⟩ ?_
      refine wpR 3 ⟨some 62, .call ⟨.value (.func 58), #[.tmp 59, .tmp 61], #[27, 9]⟩, 27, "ref.go:222", #[⟨0, .data⟩, ⟨2, .data⟩], none⟩ (fun K hK => ?_)
      go_simp
      go_at_call 58
      refine (rtexts_w _ _ _ at' _ (hO16.isB.moves ((Moves.refl [] _).drew) (by simp)) (by simp only [encX, List.length_append, be_length, zbs_length, List.length_cons, List.length_nil]; omega) hat).mono ?_
      rintro _ v17 ⟨s17, rfl, hO17, m17, hf17⟩
      have M17 : Moves [] w2 v17 := M16.then ((Moves.refl [] _).drew.then m17)
      refine hK.out _ _ ?_ (fun hHeld => ?_)
      · first | exact ⟨(M16.drew).cell q9, (M16.drew).cell q10⟩ | exact ⟨(M16).cell q9, (M16).cell q10⟩ | exact ⟨(M17).cell q9, (M17).cell q10⟩ | exact ⟨(M18).cell q9, (M18).cell q10⟩
      clear hK K
      try simp only [Act.put, sp1, sp2, sp3]
      refine wpR 6 ⟨some 65, .call ⟨.value (.func 61), #[.tmp 62, .tmp 64], #[27, 27]⟩, 27, "ref.go:222", #[⟨3, .data⟩, ⟨5, .data⟩, ⟨3, .chain⟩], none⟩ (fun K hK => ?_)
      go_simp
      go_at_call 61
      refine (rtext_w _ _ _ _ 0 [] _ hO17.isB ⟨_, _, _, rfl, rfl, Nat.le_refl _, fun _ => rfl, .inl rfl⟩ (by simp only [encX, List.length_append, be_length, zbs_length, List.length_cons, List.length_nil]; omega) (Nat.zero_le _)).mono ?_
      rintro _ v18 ⟨s18, rfl, hO18, m18, hf18⟩
      have M18 : Moves [] w2 v18 := M17.then m18
      refine hK.out _ _ ?_ (fun hHeld => ?_)
      · first | exact ⟨(M16.drew).cell q9, (M16.drew).cell q10⟩ | exact ⟨(M16).cell q9, (M16).cell q10⟩ | exact ⟨(M17).cell q9, (M17).cell q10⟩ | exact ⟨(M18).cell q9, (M18).cell q10⟩
      clear hK K
      try simp only [Act.put, sp1, sp2, sp3]
      refine wpT 7 ⟨some 2, .assign (.tmp 65), 27, "ref.go:222", #[⟨6, .data⟩, ⟨6, .chain⟩, ⟨0, .phase⟩, ⟨1, .phase⟩, ⟨2, .phase⟩, ⟨3, .phase⟩, ⟨4, .phase⟩, ⟨5, .phase⟩, ⟨6, .phase⟩], none⟩ ?_
      refine wpAnyH_done (by kernel_rfl) ?_ _
      refine NoPanic.normal ?_
      go_wp2_with fail
      go_ret
      exact ⟨_, _, rfl, hO18.isB, (HM.out.then HM2.out).then M18⟩
    refine AllReadyH.cons (o := ⟨some 48, .buildSlice 27 3 #[(0, .tmp 41), (1, .tmp 44), (2, .tmp 47)], 27, "ref.go:220", #[⟨6, .data⟩, ⟨9, .data⟩, ⟨12, .data⟩], none⟩) rfl (fun K hK => ?_) AllReadyH.nil
    · go_simp
      rw [wrap8_nat hng, wrap8_nat hnt, wrap8_nat hna]
      have hb13 : ((w2.alloc (.cells #[.int .u8 (ng : Nat), .int .u8 (nt : Nat), .int .u8 (na : Nat)] 5)).drew).heap[w2.heap.size]? = some (.cells #[.int .u8 (ng : Nat), .int .u8 (nt : Nat), .int .u8 (na : Nat)] 5 (0, 0)) := heap_alloc_new w2 _
      obtain ⟨v13, hv13⟩ : ∃ v13, (w2.alloc (.cells #[.int .u8 (ng : Nat), .int .u8 (nt : Nat), .int .u8 (na : Nat)] 5)).drew = v13 := ⟨_, rfl⟩
      have m13 : Moves [] w2 v13 := by rw [← hv13]; exact ((Moves.refl _ _).alloc _).drew
      rw [hv13] at hb13
      try rw [hv13]
      have hB13 := three_isB hb13
      have M13 : Moves [] w2 v13 := m13
      clear hv13 hb13
      refine hK.out _ _ ?_ (fun hHeld => ?_)
      · first | exact ⟨q2, q3, q4, q7, q8⟩ | exact ⟨(M14).cell q2, (M14).cell q3, (M14).cell q4, (M14).cell q7, (M14).cell q8⟩ | exact ⟨(M13).cell q2, (M13).cell q3, (M13).cell q4, (M13).cell q7, (M13).cell q8⟩ | exact ⟨(M3).cell q2, (M3).cell q3, (M3).cell q4, (M3).cell q7, (M3).cell q8⟩
      clear hK K
      try simp only [Act.put, sp1, sp2, sp3]
      refine wpR 3 ⟨some 38, .call ⟨.value (.func 59), #[.tmp 35, .tmp 37], #[27, 37]⟩, 27, "ref.go:220", #[⟨0, .data⟩, ⟨2, .data⟩], none⟩ (fun K hK => ?_)
      go_simp
      go_at_call 59
      refine (rspans_w _ _ [nc, 0] lo hi _ (hB2.moves M13 (by simp)) (by simp) hlo hhi).mono ?_
      rintro _ v3 ⟨s3, rfl, hO3, m3, hf3⟩
      have M3 : Moves [] w2 v3 := M13.then m3
      have hF3 : Fresh w2 s3 := fun k hk => Nat.le_trans M13.size (hf3 k hk)
      have hB13 := hB13.moves m3 (by simp)
      refine hK.out _ _ ?_ (fun hHeld => ?_)
      · first | exact ⟨q2, q3, q4, q7, q8⟩ | exact ⟨(M14).cell q2, (M14).cell q3, (M14).cell q4, (M14).cell q7, (M14).cell q8⟩ | exact ⟨(M13).cell q2, (M13).cell q3, (M13).cell q4, (M13).cell q7, (M13).cell q8⟩ | exact ⟨(M3).cell q2, (M3).cell q3, (M3).cell q4, (M3).cell q7, (M3).cell q8⟩
      clear hK K
      try simp only [Act.put, sp1, sp2, sp3]
      refine wpR 14 ⟨some 49, .call ⟨.builtin .append, #[.tmp 38, .tmp 48], #[27, 27]⟩, 27, "ref.go:220", #[⟨3, .data⟩, ⟨13, .data⟩, ⟨3, .chain⟩], none⟩ (fun K hK => ?_)
      refine app_step (.tmp 38) (.tmp 48) rfl s3 _ ([nc, 0] ++ encX lo ++ encX hi) [ng, nt, na] _ rfl rfl (by rfl) hO3 hB13 (by simp [encX, zbs_length, be_length]; omega) ?_
      intro s14 v14 hO14 m14 l14
      have M14 : Moves [] w2 v14 := (appended M3 hF3 m14 l14).1
      refine hK.out _ _ ?_ (fun hHeld => ?_)
      · first | exact ⟨q2, q3, q4, q7, q8⟩ | exact ⟨(M14).cell q2, (M14).cell q3, (M14).cell q4, (M14).cell q7, (M14).cell q8⟩ | exact ⟨(M13).cell q2, (M13).cell q3, (M13).cell q4, (M13).cell q7, (M13).cell q8⟩ | exact ⟨(M3).cell q2, (M3).cell q3, (M3).cell q4, (M3).cell q7, (M3).cell q8⟩
      clear hK K
      try simp only [Act.put, sp1, sp2, sp3]
      refine wpT 15 ⟨some 3, .assign (.tmp 49), 27, "ref.go:220", #[⟨14, .data⟩, ⟨14, .chain⟩, ⟨0, .phase⟩, ⟨1, .phase⟩, ⟨2, .phase⟩, ⟨3, .phase⟩, ⟨4, .phase⟩, ⟨5, .phase⟩, ⟨6, .phase⟩, ⟨7, .phase⟩, ⟨8, .phase⟩, ⟨9, .phase⟩, ⟨10, .phase⟩, ⟨11, .phase⟩, ⟨12, .phase⟩, ⟨13, .phase⟩, ⟨14, .phase⟩], none⟩ ?_
      refine wpAnyH_done (by kernel_rfl) ?_ _
      refine NoPanic.normal ?_
      go_wp2_with fail
      refine wp_region_noPanic ?_
      refine wp_region_held_drew (S := (fun w' => w'.cell? ⟨B, 5, none⟩ = some (.int .i64 (ne : Nat)) ∧ w'.cell? ⟨B, 6, none⟩ = some (.int .i64 (no : Nat)))) (by kernel_rfl) ?_ (fun hHeld => ?_)
      · first | (go_keep; done) | first | exact ⟨(M14.drew).cell q5, (M14.drew).cell q6⟩ | exact ⟨(M14).cell q5, (M14).cell q6⟩ | exact ⟨(M15).cell q5, (M15).cell q6⟩ | exact ⟨(M16).cell q5, (M16).cell q6⟩
      refine wpT 0 ⟨some 50, .move (.tmp 3), 27, "ref.go:221", #[], none⟩ ?_
      refine wpT 1 ⟨some 51, .fieldAddr 48 (.tmp 1) 4, 0, "ref.go:221", #[], none⟩ ?_
      refine wpT 2 ⟨some 52, .load 3 (.tmp 51), 3, "ref.go:221", #[⟨1, .data⟩], none⟩ ?_
      refine wpT 3 ⟨some 53, .convert 3 124 (.tmp 52), 124, "ref.go:221", #[⟨2, .data⟩], none⟩ ?_
      refine wpT 5 ⟨some 55, .fieldAddr 48 (.tmp 1) 5, 0, "ref.go:221", #[], none⟩ ?_
      refine wpT 6 ⟨some 56, .load 3 (.tmp 55), 3, "ref.go:221", #[⟨5, .data⟩], none⟩ ?_
      refine wpT 7 ⟨some 57, .convert 3 124 (.tmp 56), 124, "ref.go:221", #[⟨6, .data⟩], none⟩ ?_
      refine wpR 4 ⟨some 54, .call ⟨.value (.func 60), #[.tmp 50, .tmp 53], #[27, 124]⟩, 27, "ref.go:221", #[⟨0, .data⟩, ⟨3, .data⟩], none⟩ (fun K hK => ?_)
      go_simp
      go_at_call 60
      refine (rnum_w _ _ _ ne _ (wrap32_nat hne) _ (hO14.isB.moves ((Moves.refl [] _).drew) (by simp)) (by simp [encX, zbs_length, be_length]; omega) (by omega)).mono ?_
      rintro _ v15 ⟨s15, rfl, hO15, m15, hf15⟩
      have M15 : Moves [] w2 v15 := M14.then ((Moves.refl [] _).drew.then m15)
      refine hK.out _ _ ?_ (fun hHeld => ?_)
      · first | exact ⟨(M14.drew).cell q5, (M14.drew).cell q6⟩ | exact ⟨(M14).cell q5, (M14).cell q6⟩ | exact ⟨(M15).cell q5, (M15).cell q6⟩ | exact ⟨(M16).cell q5, (M16).cell q6⟩
      clear hK K
      try simp only [Act.put, sp1, sp2, sp3]
      refine wpR 8 ⟨some 58, .call ⟨.value (.func 60), #[.tmp 54, .tmp 57], #[27, 124]⟩, 27, "ref.go:221", #[⟨4, .data⟩, ⟨7, .data⟩, ⟨4, .chain⟩], none⟩ (fun K hK => ?_)
      go_simp
      go_at_call 60
      refine (rnum_w _ _ _ no _ (wrap32_nat hno) _ hO15.isB (by simp [encX, zbs_length, be_length]; omega) (by omega)).mono ?_
      rintro _ v16 ⟨s16, rfl, hO16, m16, hf16⟩
      have M16 : Moves [] w2 v16 := M15.then m16
      refine hK.out _ _ ?_ (fun hHeld => ?_)
      · first | exact ⟨(M14.drew).cell q5, (M14.drew).cell q6⟩ | exact ⟨(M14).cell q5, (M14).cell q6⟩ | exact ⟨(M15).cell q5, (M15).cell q6⟩ | exact ⟨(M16).cell q5, (M16).cell q6⟩
      clear hK K
      try simp only [Act.put, sp1, sp2, sp3]
      refine wpT 9 ⟨some 3, .assign (.tmp 58), 27, "ref.go:221", #[⟨8, .data⟩, ⟨8, .chain⟩, ⟨0, .phase⟩, ⟨1, .phase⟩, ⟨2, .phase⟩, ⟨3, .phase⟩, ⟨4, .phase⟩, ⟨5, .phase⟩, ⟨6, .phase⟩, ⟨7, .phase⟩, ⟨8, .phase⟩], none⟩ ?_
      refine wpAnyH_done (by kernel_rfl) ?_ _
      refine NoPanic.normal ?_
      go_wp2_with fail
      refine wp_region_noPanic ?_
      refine wp_region_held_drew (S := (fun w' => w'.cell? ⟨B, 9, none⟩ = some (.string at') ∧ w'.cell? ⟨B, 10, none⟩ = some (.slice none 0 0))) (by kernel_rfl) ?_ (fun hHeld => ?_)
      · first | (go_keep; done) | first | exact ⟨(M16.drew).cell q9, (M16.drew).cell q10⟩ | exact ⟨(M16).cell q9, (M16).cell q10⟩ | exact ⟨(M17).cell q9, (M17).cell q10⟩ | exact ⟨(M18).cell q9, (M18).cell q10⟩
      refine wpT 0 ⟨some 59, .move (.tmp 3), 27, "ref.go:222", #[], none⟩ ?_
      refine wpT 1 ⟨some 60, .fieldAddr 48 (.tmp 1) 8, 0, "ref.go:222", #[], none⟩ ?_
      refine wpT 2 ⟨some 61, .load 9 (.tmp 60), 9, "ref.go:222", #[⟨1, .data⟩], none⟩ ?_
      refine wpT 4 ⟨some 63, .fieldAddr 48 (.tmp 1) 9, 0, "ref.go:222", #[], none⟩ ?_
      refine wpT 5 ⟨some 64, .load 27 (.tmp 63), 27, "ref.go:222", #[⟨4, .data⟩], none⟩ ?_
      refine wpR 3 ⟨some 62, .call ⟨.value (.func 58), #[.tmp 59, .tmp 61], #[27, 9]⟩, 27, "ref.go:222", #[⟨0, .data⟩, ⟨2, .data⟩], none⟩ (fun K hK => ?_)
      go_simp
      go_at_call 58
      refine (rtexts_w _ _ _ at' _ (hO16.isB.moves ((Moves.refl [] _).drew) (by simp)) (by simp only [encX, List.length_append, be_length, zbs_length, List.length_cons, List.length_nil]; omega) hat).mono ?_
      rintro _ v17 ⟨s17, rfl, hO17, m17, hf17⟩
      have M17 : Moves [] w2 v17 := M16.then ((Moves.refl [] _).drew.then m17)
      refine hK.out _ _ ?_ (fun hHeld => ?_)
      · first | exact ⟨(M16.drew).cell q9, (M16.drew).cell q10⟩ | exact ⟨(M16).cell q9, (M16).cell q10⟩ | exact ⟨(M17).cell q9, (M17).cell q10⟩ | exact ⟨(M18).cell q9, (M18).cell q10⟩
      clear hK K
      try simp only [Act.put, sp1, sp2, sp3]
      refine wpR 6 ⟨some 65, .call ⟨.value (.func 61), #[.tmp 62, .tmp 64], #[27, 27]⟩, 27, "ref.go:222", #[⟨3, .data⟩, ⟨5, .data⟩, ⟨3, .chain⟩], none⟩ (fun K hK => ?_)
      go_simp
      go_at_call 61
      refine (rtext_w _ _ _ _ 0 [] _ hO17.isB ⟨_, _, _, rfl, rfl, Nat.le_refl _, fun _ => rfl, .inl rfl⟩ (by simp only [encX, List.length_append, be_length, zbs_length, List.length_cons, List.length_nil]; omega) (Nat.zero_le _)).mono ?_
      rintro _ v18 ⟨s18, rfl, hO18, m18, hf18⟩
      have M18 : Moves [] w2 v18 := M17.then m18
      refine hK.out _ _ ?_ (fun hHeld => ?_)
      · first | exact ⟨(M16.drew).cell q9, (M16.drew).cell q10⟩ | exact ⟨(M16).cell q9, (M16).cell q10⟩ | exact ⟨(M17).cell q9, (M17).cell q10⟩ | exact ⟨(M18).cell q9, (M18).cell q10⟩
      clear hK K
      try simp only [Act.put, sp1, sp2, sp3]
      refine wpT 7 ⟨some 2, .assign (.tmp 65), 27, "ref.go:222", #[⟨6, .data⟩, ⟨6, .chain⟩, ⟨0, .phase⟩, ⟨1, .phase⟩, ⟨2, .phase⟩, ⟨3, .phase⟩, ⟨4, .phase⟩, ⟨5, .phase⟩, ⟨6, .phase⟩], none⟩ ?_
      refine wpAnyH_done (by kernel_rfl) ?_ _
      refine NoPanic.normal ?_
      go_wp2_with fail
      go_ret
      exact ⟨_, _, rfl, hO18.isB, (HM.out.then HM2.out).then M18⟩
end Go.Proofs.YtilbbnmhnacnlaaGreat
