/- ours -/
import Derived.Test.YtilbbnmhnacnlaaGreatCB05
import Derived.Lib.AppendZerosOnto
import Derived.Lib.Overlaps
namespace Go.Proofs.YtilbbnmhnacnlaaGreat
open Go.RowKit

theorem told_box {w : World} {gv : Nat} {x : Pt} (hv : w.heap[gv]? = some (.cells #[.int .i64 x.c, .int .i64 x.s, .string x.a] 173 (0, 0))) : ToldsAt w (.slice (some ⟨gv, 0, none⟩) 1 1) [x] := by
  refine ⟨[[.int .i64 x.c, .int .i64 x.s, .string x.a]], ⟨by simp, _, 1, rfl, Nat.le_refl _, fun h => by simp at h, .inr ⟨gv, 0, _, _, rfl, hv, fun k c hk j u hj => ?_⟩⟩, rfl, trivial⟩
  match k, hk with
  | 0, hk =>
    simp at hk
    subst hk
    simpa using hj

theorem splice_room3 {α : Type} (A B S X : List α) (hX : X.length = 3) (hS : 3 ≤ S.length) :
    (((((A ++ B ++ S).take (A.length + 3) ++ B ++ (A ++ B ++ S).drop (A.length + 3 + B.length)).take A.length ++ X ++ ((A ++ B ++ S).take (A.length + 3) ++ B ++ (A ++ B ++ S).drop (A.length + 3 + B.length)).drop (A.length + 3)).take (A.length + 3 + B.length)) = A ++ X ++ B) ∧
    ((((A ++ B ++ S).take (A.length + 3) ++ B ++ (A ++ B ++ S).drop (A.length + 3 + B.length)).take A.length ++ X ++ ((A ++ B ++ S).take (A.length + 3) ++ B ++ (A ++ B ++ S).drop (A.length + 3 + B.length)).drop (A.length + 3)).length = (A ++ B ++ S).length) ∧
    (((A ++ B ++ S).take (A.length + 3) ++ B ++ (A ++ B ++ S).drop (A.length + 3 + B.length)).length = (A ++ B ++ S).length) := by
  obtain ⟨T, hT⟩ : ∃ T, (A ++ B ++ S).take (A.length + 3) = A ++ T ∧ T.length = 3 := by
    refine ⟨(B ++ S).take 3, ?_, by rw [List.length_take, List.length_append]; omega⟩
    rw [List.append_assoc, List.take_append, List.take_of_length_le (by omega)]
    congr 2
    omega
  obtain ⟨U, hU⟩ : ∃ U, (A ++ B ++ S).drop (A.length + 3 + B.length) = U ∧ U.length + 3 + A.length + B.length = (A ++ B ++ S).length := ⟨_, rfl, by simp; omega⟩
  rw [hT.1, hU.1]
  have e1 : (A ++ T ++ B ++ U).take A.length = A := by rw [List.append_assoc, List.append_assoc, List.take_left]
  have e2 : (A ++ T ++ B ++ U).drop (A.length + 3) = B ++ U := by
    have : A.length + 3 = (A ++ T).length := by rw [List.length_append, hT.2]
    rw [List.append_assoc (A ++ T), this, List.drop_left]
  rw [e1, e2]
  refine ⟨?_, ?_, ?_⟩
  · have : A.length + 3 + B.length = (A ++ X ++ B).length := by simp only [List.length_append, hX]
    rw [← List.append_assoc, this, List.take_left]
  · have := hU.2
    simp only [List.length_append] at this ⊢
    omega
  · have := hU.2
    have := hT.2
    simp only [List.length_append] at *
    omega
theorem splice_grow3 {α : Type} (A B Z X : List α) (hX : X.length = 3) (hZ : B.length + 3 ≤ Z.length) :
    (((((A ++ Z).take A.length ++ X ++ (A ++ Z).drop (A.length + 3)).take (A.length + 3) ++ B ++ ((A ++ Z).take A.length ++ X ++ (A ++ Z).drop (A.length + 3)).drop (A.length + 3 + B.length)).take (A.length + 3 + B.length)) = A ++ X ++ B) ∧
    ((((A ++ Z).take A.length ++ X ++ (A ++ Z).drop (A.length + 3)).take (A.length + 3) ++ B ++ ((A ++ Z).take A.length ++ X ++ (A ++ Z).drop (A.length + 3)).drop (A.length + 3 + B.length)).length = (A ++ Z).length) ∧
    (((A ++ Z).take A.length ++ X ++ (A ++ Z).drop (A.length + 3)).length = (A ++ Z).length) := by
  have e0 : (A ++ Z).take A.length = A := List.take_left
  have e1 : (A ++ Z).drop (A.length + 3) = Z.drop 3 := by rw [List.drop_append, List.drop_of_length_le (by omega), List.nil_append]; congr 1; omega
  rw [e0, e1]
  have e2 : (A ++ X ++ Z.drop 3).take (A.length + 3) = A ++ X := by
    have : A.length + 3 = (A ++ X).length := by rw [List.length_append, hX]
    rw [this, List.take_left]
  rw [e2]
  refine ⟨?_, ?_, ?_⟩
  · have : A.length + 3 + B.length = (A ++ X ++ B).length := by simp only [List.length_append, hX]
    rw [this, List.take_left]
  · simp only [List.length_append, List.length_drop, hX]
    omega
  · simp only [List.length_append, List.length_drop, hX]
    omega

def InsertedT (W w w' : World) (v : Value) (xs : List Pt) (e : Ending) : Prop :=
  ∃ ad n cap, e = .returned (.slice ad n cap) ∧ GrowT W w' (.slice ad n cap) xs ∧ Moves v.ownBlock.toList w w' ∧ Stay (· ≠ 173) w w' ∧ ((Value.slice ad n cap).ownBlock = v.ownBlock ∨ ∃ k, (Value.slice ad n cap).ownBlock = some k ∧ w.heap.size ≤ k)

set_option maxRecDepth 100000 in
set_option maxHeartbeats 4000000 in
theorem oinsert_end (W w : World) (ad : Option Addr) (n cap : Nat) (xs : List Pt) (x : Pt) (gv : Nat) (h : GrowT W w (.slice ad n cap) xs) (hn : n = xs.length) (hl : n ≤ 1000)
    (hv : w.heap[gv]? = some (.cells #[.int .i64 x.c, .int .i64 x.s, .string x.a] 173 (0, 0))) (hW : W.heap.size ≤ w.heap.size) :
    Calls Tryz.prog 185 #[.slice ad n cap, .int .i64 (n : Int), .slice (some ⟨gv, 0, none⟩) 1 1] w fun e w' => InsertedT W w w' (.slice ad n cap) (xs ++ [x]) e := by
  have hy := told_box hv
  have hc'' : n ≤ cap := by
    obtain ⟨_, _, e0, hc⟩ := h.slice
    simp at e0
    omega
  have hc' : (n : Int) ≤ cap := by omega
  have hbd : xs.length + [x].length ≤ 1048576 := by simp; omega
  have H : Hid (GrowT W w (.slice ad n cap) xs) := h
  have HN : Hid (n = xs.length) := hn
  clear hn h
  by_cases hcn : cap = n
  · subst hcn
    go_enter Tryz.func185, Tryz.ntmps185
    go_wp2_with (at_builtin; refine growT_append (.tmp 23) (.tmp 24) rfl (.slice ad cap cap) _ xs [x] rfl rfl (by rfl) H.out hy hW hbd ?_; intro v8 w8 hG8 m8 s8 l8; have hsl := hG8.open; obtain ⟨ad8, n8, cap8, rfl, hn8, _⟩ := hsl; have HN8 : Hid (n8 = _) := hn8; clear hn8)
    go_ret
    exact ⟨ad8, n8, cap8, rfl, hG8, m8, s8, by rcases l8 with e | e; exact .inl e; exact .inr ⟨_, e, Nat.le_refl _⟩⟩
  · go_enter Tryz.func185, Tryz.ntmps185
    go_wp2_with (at_builtin; refine growT_append (.tmp 23) (.tmp 24) rfl (.slice ad n cap) _ xs [x] rfl rfl (by rfl) H.out hy hW hbd ?_; intro v8 w8 hG8 m8 s8 l8; have hsl := hG8.open; obtain ⟨ad8, n8, cap8, rfl, hn8, _⟩ := hsl; have HN8 : Hid (n8 = _) := hn8; clear hn8)
    go_ret
    exact ⟨ad8, n8, cap8, rfl, hG8, m8, s8, by rcases l8 with e | e; exact .inl e; exact .inr ⟨_, e, Nat.le_refl _⟩⟩

set_option maxRecDepth 100000 in
set_option maxHeartbeats 4000000 in
theorem oinsert_room (W w : World) (ad : Option Addr) (n cap : Nat) (xs : List Pt) (i : Nat) (x : Pt) (gv : Nat) (h : GrowT W w (.slice ad n cap) xs) (hn : n = xs.length) (hi : i < n) (hl : n ≤ 1000) (hroom : n < cap)
    (hv : w.heap[gv]? = some (.cells #[.int .i64 x.c, .int .i64 x.s, .string x.a] 173 (0, 0))) (hgv : gv ∉ (Value.slice ad n cap).ownBlock.toList) :
    Calls Tryz.prog 185 #[.slice ad n cap, .int .i64 (i : Int), .slice (some ⟨gv, 0, none⟩) 1 1] w fun e w' => InsertedT W w w' (.slice ad n cap) (xs.take i ++ [x] ++ xs.drop i) e := by
  obtain ⟨g, cur, css, rfl, hWg, hg, -, hcap, hmax, hcs, hcur, h2, hlen, hall⟩ := h.own (by omega)
  have hgg : gv ≠ g := by simpa [Value.ownBlock] using hgv
  have hfl := flatten_length h2
  have hz2 : ¬ ((i : Int) = (n : Int)) := by omega
  have hz3 : ¬ ((cap : Int) < (n : Int) + 1) := by omega
  have hb2 : ¬ (cap = i + 1) := by omega
  have hb4 : ¬ (cap = i) := by omega
  have hov : ∀ (w1 : World) lb cb, w1.heap[gv]? = some (.cells #[.int .i64 x.c, .int .i64 x.s, .string x.a] 173 (0, 0)) → w1.heap[g]? = some (.cells cur 173 (0, 0)) → (callFunc 203 #[.slice (some ⟨gv, 0, none⟩) 1 1, .slice (some ⟨g, (i + 1) * 3, none⟩) lb cb]).run Tryz.prog w1 = .ok (.value (.bool false)) w1 := by
    intro w1 lb cb k1 k2
    rw [run_callFunc_extern Tryz.func203 (by kernel_rfl) (by kernel_rfl) (by kernel_rfl) (e := Extern.SlicesOverlaps.overlaps #[106, 106] #[4]) (by kernel_rfl)]
    obtain ⟨i0, hi0, hz0, hz1, _⟩ := info_parts told_info
    have hso : ∀ w, (Go.sizeOf 173).run Tryz.prog w = .ok 3 w := fun w => by simp [sizeOf, typeInfo, hi0, hz1]
    rw [Lib.run_overlaps_apart w1 106 4 173 Tryz.underlying106 3 hso ⟨gv, 0, none⟩ ⟨g, (i + 1) * 3, none⟩ 1 1 lb cb hgg 173 173 3 (cap * 3) (by simp [World.shape?, k1]) (by simp [World.shape?, k2, hcs]) (by omega) (by simp [World.frozen?, k1]) (by simp [World.frozen?, k1])]
    rfl
  obtain ⟨A, hA⟩ : ∃ A, (css.take i).flatten = A := ⟨_, rfl⟩
  obtain ⟨B, hB⟩ : ∃ B, (css.drop i).flatten = B := ⟨_, rfl⟩
  obtain ⟨S, hS⟩ : ∃ S, cur.toList.drop (n * 3) = S := ⟨_, rfl⟩
  have hAl : A.length = i * 3 := by rw [← hA, flatten_length (fun c hc => h2 c (List.mem_of_mem_take hc)), List.length_take]; congr 1; omega
  have hBl : B.length = (n - i) * 3 := by rw [← hB, flatten_length (fun c hc => h2 c (List.mem_of_mem_drop hc)), List.length_drop, hlen]
  have hSl : S.length = cap * 3 - n * 3 := by rw [← hS, List.length_drop, Array.length_toList, hcs]
  have hcurL : cur.toList = A ++ B ++ S := by
    rw [← List.take_append_drop (n * 3) cur.toList, hcur, hS, ← hA, ← hB, ← List.flatten_append, List.take_append_drop]
  obtain ⟨X, hX⟩ : ∃ X, [Value.int .i64 x.c, Value.int .i64 x.s, Value.string x.a] = X := ⟨_, rfl⟩
  have hXl : X.length = 3 := by rw [← hX]; rfl
  obtain ⟨p1, p2, p3⟩ := splice_room3 A B S X hXl (by omega)
  have hone : ∀ v ∈ css.flatten, v.oneCell' = true := fun v hv => by
    obtain ⟨c, hc, hv⟩ := List.mem_flatten.1 hv
    exact All2.mem (p := fun c => ∀ u ∈ c, u.oneCell' = true) (fun c b hc => hc.one) hall c hc v hv
  have hBone : ∀ v ∈ B, v.oneCell' = true := fun v hv => hone v (by rw [← hB] at hv; rw [← List.take_append_drop i css, List.flatten_append]; exact List.mem_append_right _ hv)
  have hXone : ∀ v ∈ X, v.oneCell' = true := fun v hv => by
    rw [← hX] at hv
    simp only [List.mem_cons, List.not_mem_nil, or_false] at hv
    rcases hv with rfl | rfl | rfl <;> rfl
  have hsz : (Tryz.prog.info? 173).map (·.size) = some 3 := by
    obtain ⟨i0, hi0, _, hz1, _⟩ := info_parts told_info
    rw [hi0]; simp [hz1]
  obtain ⟨L1, hL1⟩ : ∃ L1, (A ++ B ++ S).take (A.length + 3) ++ B ++ (A ++ B ++ S).drop (A.length + 3 + B.length) = L1 := ⟨_, rfl⟩
  rw [hL1] at p1 p2 p3
  obtain ⟨L2, hL2⟩ : ∃ L2, L1.take A.length ++ X ++ L1.drop (A.length + 3) = L2 := ⟨_, rfl⟩
  rw [hL2] at p1 p2
  have hcp1 : ∀ (w1 : World) (ty : TypeId) (dc sc : Nat), w1.heap[g]? = some (.cells cur 173 (0, 0)) → (Builtin.copy_ #[106, 106] ty #[.slice (some ⟨g, (i + 1) * 3, none⟩) (n - i) dc, .slice (some ⟨g, i * 3, none⟩) (n + 1 - i) sc]).run Tryz.prog w1 = .ok (goInt (Nat.min (n + 1 - i) (n - i))) (w1.setRow g L1.toArray) := by
    intro w1 ty dc sc hg1
    have e := run_copy_many (P := Tryz.prog) w1 106 106 ty 173 g ((i + 1) * 3) (n - i) dc ⟨g, i * 3, none⟩ (n + 1 - i) sc 3 cur 173 B Tryz.underlying106 hsz hg1 (by rw [hBl]; simp only [Nat.min_def]; split <;> omega) (fun j v hj => by
      have e3 : (⟨g, i * 3, none⟩ : Addr).add j = ⟨g, i * 3 + j, none⟩ := by unfold Addr.add; split <;> simp_all
      have hjl := (List.getElem?_eq_some_iff.1 hj).1
      rw [e3]
      simp only [World.cell?, hg1]
      have : cur.toList[i * 3 + j]? = some v := by rw [hcurL, List.append_assoc, List.getElem?_append_right (by omega), hAl, Nat.add_sub_cancel_left, List.getElem?_append_left hjl]; exact hj
      simpa using this) (by rw [hBl, hcs]; omega) hBone
    rw [e]
    congr 3
    rw [← hL1, hcurL, hAl, hBl]
    have e4 : (i + 1) * 3 = i * 3 + 3 := by omega
    rw [e4]
  have hcp2 : ∀ (w1 : World) (ty : TypeId) (dc : Nat), w1.heap[g]? = some (.cells L1.toArray 173 (0, 0)) → w1.heap[gv]? = some (.cells #[.int .i64 x.c, .int .i64 x.s, .string x.a] 173 (0, 0)) → (Builtin.copy_ #[106, 106] ty #[.slice (some ⟨g, i * 3, none⟩) (n + 1 - i) dc, .slice (some ⟨gv, 0, none⟩) 1 1]).run Tryz.prog w1 = .ok (goInt (Nat.min 1 (n + 1 - i))) (w1.setRow g L2.toArray) := by
    intro w1 ty dc hg1 hv1
    have e := run_copy_many (P := Tryz.prog) w1 106 106 ty 173 g (i * 3) (n + 1 - i) dc ⟨gv, 0, none⟩ 1 1 3 L1.toArray 173 X Tryz.underlying106 hsz hg1 (by rw [hXl]; simp only [Nat.min_def]; split <;> omega) (fun j v hj => by
      have e3 : (⟨gv, 0, none⟩ : Addr).add j = ⟨gv, 0 + j, none⟩ := by unfold Addr.add; split <;> simp_all
      rw [e3, Nat.zero_add]
      simp only [World.cell?, hv1]
      rw [← hX] at hj
      simpa using hj) (by rw [hXl]; simp only [List.size_toArray, p3, List.length_append, hAl, hBl, hSl]; omega) hXone
    rw [e]
    congr 3
    rw [← hL2, hAl, hXl]
  have HN : Hid (n = xs.length) := hn
  have hall' := hall
  have hi1 : (i : Int) + 1 ≤ (n : Int) + 1 := by omega
  have hi2 : (i : Int) ≤ (n : Int) + 1 := by omega
  have hwi : IntKind.i64.wrap ((i : Int) + 1) = (i : Int) + 1 := by rw [IntWalk.i64_in _ (by omega)]
  have hti : ((i : Int) + 1).toNat = i + 1 := by omega
  have hi0 : (0 : Int) ≤ (i : Int) + 1 := by omega
  have hi3 : (i : Int) ≤ (n : Int) := by omega
  have hn1 : (n : Int) + 1 ≤ (cap : Int) := by omega
  have FIN : InsertedT W w ((w.drew.setRow g L1.toArray).setRow g L2.toArray) (.slice (some ⟨g, 0, none⟩) n cap) (xs.take i ++ [x] ++ xs.drop i) (.returned (.slice (some ⟨g, 0, none⟩) (n + 1) cap)) := by
    have mv : Moves [g] w ((w.drew.setRow g L1.toArray).setRow g L2.toArray) := ((Moves.refl [g] w).drew.then (moves_row _ _ _)).then (moves_row _ _ _)
    have st : Stay (fun t => t ≠ 173) w ((w.drew.setRow g L1.toArray).setRow g L2.toArray) := Stay.ofMovesS mv (fun k hk c' t' fz' hc' => by simp at hk; subst hk; rw [hg] at hc'; simp at hc'; rw [← hc'.2.1]; simp)
    have hg1 : (w.drew.setRow g L1.toArray).heap[g]? = some (.cells L1.toArray 173 (0, 0)) := setRow_heap _ g cur _ _ _ hg
    refine ⟨_, _, _, rfl, GrowT.mk' (css := css.take i ++ [[.int .i64 x.c, .int .i64 x.s, .string x.a]] ++ css.drop i) (setRow_heap _ g _ _ _ _ hg1) hWg ?_ (by omega) hmax ?_ ?_ ?_ ?_, by simpa [Value.ownBlock] using mv, st, .inl rfl⟩
    · simp only [List.length_append, List.length_take, List.length_drop, List.length_singleton, hlen]; omega
    · simp only [List.size_toArray, p2, List.length_append, hAl, hBl, hSl]; omega
    · have e : (n + 1) * 3 = A.length + 3 + B.length := by omega
      rw [List.flatten_append, List.flatten_append, hA, hB, e]
      simp only [List.flatten_cons, List.flatten_nil, List.append_nil, hX]
      exact p1
    · intro c hc
      rcases List.mem_append.1 hc with hc | hc
      · rcases List.mem_append.1 hc with hc | hc
        · exact h2 c (List.mem_of_mem_take hc)
        · simp at hc; rw [hc]; rfl
      · exact h2 c (List.mem_of_mem_drop hc)
    · have h3 := hall.mono (fun _ _ k => ToldC.any (w' := (w.drew.setRow g L1.toArray).setRow g L2.toArray) k)
      refine ((h3.take i).append ?_).append (h3.drop i)
      exact ⟨rfl, trivial⟩
  have hg2 : (w.drew.setRow g L1.toArray).heap[g]? = some (.cells L1.toArray 173 (0, 0)) := setRow_heap _ g cur _ _ _ hg
  have hv2 : (w.drew.setRow g L1.toArray).heap[gv]? = some (.cells #[.int .i64 x.c, .int .i64 x.s, .string x.a] 173 (0, 0)) := (setRow_other _ g gv _ hgg).trans hv
  have HF : Hid (InsertedT W w ((w.drew.setRow g L1.toArray).setRow g L2.toArray) (.slice (some ⟨g, 0, none⟩) n cap) (xs.take i ++ [x] ++ xs.drop i) (.returned (.slice (some ⟨g, 0, none⟩) (n + 1) cap))) := FIN
  clear h hn hall hall' FIN p1 p2 p3 hL1 hL2 hcurL hA hB hS hX hone hBone hXone hsz h2 hlen hcur hfl hcs hmax hgv hWg
  go_enter Tryz.func185, Tryz.ntmps185
  go_wp2_with (simp only [hov _ _ _ hv hg])
  refine wp_region_noPanic ?_
  refine wp_region_held_drew (S := (fun _ => True)) (by kernel_rfl) ?_ (fun hHeld => ?_)
  · trivial
  refine wpT 0 ⟨some 69, .move (.tmp 0), 106, "slices.go:178", #[], none⟩ ?_
  refine wpT 1 ⟨some 70, .move (.tmp 1), 3, "slices.go:178", #[], none⟩ ?_
  refine wpT 2 ⟨some 71, .move (.tmp 7), 3, "slices.go:178", #[], none⟩ ?_
  refine wpT 3 ⟨some 72, .binOp .add 3 (.tmp 70) (.tmp 71) 3, 3, "slices.go:178", #[⟨1, .data⟩, ⟨2, .data⟩], none⟩ ?_
  refine wpT 4 ⟨some 73, .slice 106 (.tmp 69) (some (.tmp 72)) none none, 106, "slices.go:178", #[⟨0, .data⟩, ⟨3, .data⟩], none⟩ ?_
  refine wpT 5 ⟨some 74, .move (.tmp 0), 106, "slices.go:178", #[], none⟩ ?_
  refine wpT 6 ⟨some 75, .move (.tmp 1), 3, "slices.go:178", #[], none⟩ ?_
  refine wpT 7 ⟨some 76, .slice 106 (.tmp 74) (some (.tmp 75)) none none, 106, "slices.go:178", #[⟨5, .data⟩, ⟨6, .data⟩], none⟩ ?_
  refine wpR 8 ⟨some 77, .call ⟨.builtin .copy, #[.tmp 73, .tmp 76], #[106, 106]⟩, 3, "slices.go:178", #[⟨4, .data⟩, ⟨7, .data⟩], none⟩ (fun K hK => ?_)
  refine step_copy_run (.tmp 73) (.tmp 76) 106 106 rfl _ _ (by simp [Act.eval]; rfl) (by simp [Act.eval]; rfl) (by rfl) (hcp1 _ _ _ _ hg) ?_
  refine hK.out _ _ ?_ (fun hHeld => ?_)
  · trivial
  clear hK K
  try simp only [Act.put, sp1, sp2, sp3]
  refine wpAnyH_done (by kernel_rfl) ?_ _
  refine NoPanic.normal ?_
  go_wp2_with (at_builtin; refine list_copy_run rfl (.tmp 80) (.tmp 81) 106 106 rfl _ _ rfl rfl (hcp2 _ _ _ hg2 hv2) ?_)
  go_ret
  exact HF.out

set_option maxRecDepth 100000 in
set_option maxHeartbeats 4000000 in
theorem oinsert_grow (W w : World) (ad : Option Addr) (n : Nat) (xs : List Pt) (i : Nat) (x : Pt) (gv : Nat) (h : GrowT W w (.slice ad n n) xs) (hn : n = xs.length) (hi : i < n) (hl : n ≤ 1000)
    (hv : w.heap[gv]? = some (.cells #[.int .i64 x.c, .int .i64 x.s, .string x.a] 173 (0, 0))) (hW : W.heap.size ≤ w.heap.size) :
    Calls Tryz.prog 185 #[.slice ad n n, .int .i64 (i : Int), .slice (some ⟨gv, 0, none⟩) 1 1] w fun e w' => InsertedT W w w' (.slice ad n n) (xs.take i ++ [x] ++ xs.drop i) e := by
  obtain ⟨g, cur, css, rfl, hWg, hg, -, hcap, hmax, hcs, hcur, h2, hlen, hall⟩ := h.own (by omega)
  have hgs : g < w.heap.size := (Array.getElem?_eq_some_iff.1 hg).1
  have hvs : gv < w.heap.size := (Array.getElem?_eq_some_iff.1 hv).1
  have hz2 : ¬ ((i : Int) = (n : Int)) := by omega
  have hz3 : (n : Int) < (n : Int) + 1 := by omega
  have hb4 : ¬ (n = i) := by omega
  obtain ⟨A, hA⟩ : ∃ A, (css.take i).flatten = A := ⟨_, rfl⟩
  obtain ⟨B, hB⟩ : ∃ B, (css.drop i).flatten = B := ⟨_, rfl⟩
  have hAl : A.length = i * 3 := by rw [← hA, flatten_length (fun c hc => h2 c (List.mem_of_mem_take hc)), List.length_take]; congr 1; omega
  have hBl : B.length = (n - i) * 3 := by rw [← hB, flatten_length (fun c hc => h2 c (List.mem_of_mem_drop hc)), List.length_drop, hlen]
  have hcurL : cur.toList = A ++ B := by
    have e : cur.toList.take (n * 3) = cur.toList := List.take_of_length_le (by rw [Array.length_toList]; omega)
    rw [← e, hcur, ← hA, ← hB, ← List.flatten_append, List.take_append_drop]
  obtain ⟨X, hX⟩ : ∃ X, [Value.int .i64 x.c, Value.int .i64 x.s, Value.string x.a] = X := ⟨_, rfl⟩
  have hXl : X.length = 3 := by rw [← hX]; rfl
  have hone : ∀ v ∈ css.flatten, v.oneCell' = true := fun v hv => by
    obtain ⟨c, hc, hv⟩ := List.mem_flatten.1 hv
    exact All2.mem (p := fun c => ∀ u ∈ c, u.oneCell' = true) (fun c b hc => hc.one) hall c hc v hv
  have hBone : ∀ v ∈ B, v.oneCell' = true := fun v hv => hone v (by rw [← hB] at hv; rw [← List.take_append_drop i css, List.flatten_append]; exact List.mem_append_right _ hv)
  have hXone : ∀ v ∈ X, v.oneCell' = true := fun v hv => by
    rw [← hX] at hv
    simp only [List.mem_cons, List.not_mem_nil, or_false] at hv
    rcases hv with rfl | rfl | rfl <;> rfl
  have hsz : (Tryz.prog.info? 173).map (·.size) = some 3 := by
    obtain ⟨i0, hi0, _, hz1, _⟩ := info_parts told_info
    rw [hi0]; simp [hz1]
  obtain ⟨G, hG⟩ : ∃ G, w.heap.size = G := ⟨_, rfl⟩
  have hgG : g ≠ G := by omega
  have hvG : gv ≠ G := by omega
  obtain ⟨C, Z, w1, hap, hC1, hC2, hG1, hZl, mv1⟩ : ∃ C Z w1, (∀ ty, (Builtin.append_ #[106, 3] ty #[.slice (some ⟨g, 0, none⟩) i n, .int .i64 ((n + 1 - i : Nat) : Int)]).run Tryz.prog w = .ok (.slice (some ⟨G, 0, none⟩) (n + 1) C) w1) ∧ n + 1 ≤ C ∧ C ≤ maxLen ∧ w1.heap[G]? = some (.cells (A ++ Z).toArray 173 (0, 0)) ∧ Z.length = C * 3 - i * 3 ∧ Moves [] w w1 := by
    obtain ⟨i0, hi0, hz0, hz1, hz2⟩ := info_parts told_info
    have hfc : (Builtin.firstCells i0.size i (.slice (some ⟨g, 0, none⟩) i n)).run Tryz.prog w.drew = .ok A.toArray w.drew := by
      rw [hz1]
      refine run_firstCells_some _ 3 i ⟨g, 0, none⟩ i n A hAl (fun j v hj => ?_)
      have e3 : (⟨g, 0, none⟩ : Addr).add j = ⟨g, 0 + j, none⟩ := by unfold Addr.add; split <;> simp_all
      have hjl := (List.getElem?_eq_some_iff.1 hj).1
      have hgd : w.drew.heap[g]? = some (.cells cur 173 (0, 0)) := hg
      rw [e3, Nat.zero_add]
      simp only [World.cell?, hgd]
      have : cur.toList[j]? = some v := by rw [hcurL, List.getElem?_append_left hjl]; exact hj
      simpa using this
    have hk : i + (n + 1 - i) = n + 1 := by omega
    have e := fun ty => Lib.run_append_grow_zeros (P := Tryz.prog) w 106 3 ty 173 i0 _ .i64 .i64 Tryz.underlying106 Tryz.underlying3 hi0 hz0 (some ⟨g, 0, none⟩) i n A hfc (n + 1 - i) (by omega) (by omega) (by omega) (by omega) (by rw [hz2]; omega) (growslice_fits (by omega) (by rw [hz2]; omega))
    rw [hk] at e
    have hge := grownCap_ge w (n + 1) n 173
    have hle := grownCap_le_maxLen w (n + 1) n 173 (by unfold maxLen; omega)
    obtain ⟨Z, hZ⟩ : ∃ Z, Builtin.zeroCells (Value.agg #[.int .i64 0, .int .i64 0, .string ByteArray.empty]).cells (n + 1 - i) ++ Builtin.zeroCells (Value.agg #[.int .i64 0, .int .i64 0, .string ByteArray.empty]).cells (grownCap w (n + 1) n 173 - (n + 1)) = Z := ⟨_, rfl⟩
    have hZs : Z.size = (n + 1 - i) * 3 + (grownCap w (n + 1) n 173 - (n + 1)) * 3 := by
      rw [← hZ, Array.size_append, size_zeroCells, size_zeroCells]
      rfl
    have hZe : ∀ Y, A.toArray ++ Builtin.zeroCells (Value.agg #[.int .i64 0, .int .i64 0, .string ByteArray.empty]).cells (n + 1 - i) ++ Y = A.toArray ++ (Builtin.zeroCells (Value.agg #[.int .i64 0, .int .i64 0, .string ByteArray.empty]).cells (n + 1 - i) ++ Y) := fun Y => Array.append_assoc
    simp only [hZe, hZ] at e
    have b := boxesW (Moves.refl [] (w.drew.alloc (.cells (A.toArray ++ Z) 173)))
    refine ⟨_, Z.toList, _, fun ty => by rw [e ty, hG], hge, hle, ?_, by rw [Array.length_toList, hZs]; omega, (Moves.refl [] w).drew.alloc _⟩
    have e2 : (A ++ Z.toList).toArray = A.toArray ++ Z := by simp
    rw [← hG, e2]
    exact b.1
  obtain ⟨p1, p2, p3⟩ := splice_grow3 A B Z X hXl (by omega)
  obtain ⟨L1, hL1⟩ : ∃ L1, (A ++ Z).take A.length ++ X ++ (A ++ Z).drop (A.length + 3) = L1 := ⟨_, rfl⟩
  rw [hL1] at p1 p2 p3
  obtain ⟨L2, hL2⟩ : ∃ L2, L1.take (A.length + 3) ++ B ++ L1.drop (A.length + 3 + B.length) = L2 := ⟨_, rfl⟩
  rw [hL2] at p1 p2
  have hcp1 : ∀ (w1 : World) (ty : TypeId) (dc : Nat), w1.heap[G]? = some (.cells (A ++ Z).toArray 173 (0, 0)) → w1.heap[gv]? = some (.cells #[.int .i64 x.c, .int .i64 x.s, .string x.a] 173 (0, 0)) → (Builtin.copy_ #[106, 106] ty #[.slice (some ⟨G, i * 3, none⟩) (n + 1 - i) dc, .slice (some ⟨gv, 0, none⟩) 1 1]).run Tryz.prog w1 = .ok (goInt (Nat.min 1 (n + 1 - i))) (w1.setRow G L1.toArray) := by
    intro w1 ty dc hg1 hv1
    have e := run_copy_many (P := Tryz.prog) w1 106 106 ty 173 G (i * 3) (n + 1 - i) dc ⟨gv, 0, none⟩ 1 1 3 (A ++ Z).toArray 173 X Tryz.underlying106 hsz hg1 (by rw [hXl]; simp only [Nat.min_def]; split <;> omega) (fun j v hj => by
      have e3 : (⟨gv, 0, none⟩ : Addr).add j = ⟨gv, 0 + j, none⟩ := by unfold Addr.add; split <;> simp_all
      rw [e3, Nat.zero_add]
      simp only [World.cell?, hv1]
      rw [← hX] at hj
      simpa using hj) (by rw [hXl]; simp only [List.size_toArray, List.length_append, hAl, hZl]; omega) hXone
    rw [e]
    congr 3
    rw [← hL1, hAl, hXl]
  have hcp2 : ∀ (w1 : World) (ty : TypeId) (dc sc : Nat), w1.heap[G]? = some (.cells L1.toArray 173 (0, 0)) → w1.heap[g]? = some (.cells cur 173 (0, 0)) → (Builtin.copy_ #[106, 106] ty #[.slice (some ⟨G, (i + 1) * 3, none⟩) (n - i) dc, .slice (some ⟨g, i * 3, none⟩) (n - i) sc]).run Tryz.prog w1 = .ok (goInt (Nat.min (n - i) (n - i))) (w1.setRow G L2.toArray) := by
    intro w1 ty dc sc hg1 hg2
    have e := run_copy_many (P := Tryz.prog) w1 106 106 ty 173 G ((i + 1) * 3) (n - i) dc ⟨g, i * 3, none⟩ (n - i) sc 3 L1.toArray 173 B Tryz.underlying106 hsz hg1 (by rw [hBl]; simp only [Nat.min_def]; split <;> omega) (fun j v hj => by
      have e3 : (⟨g, i * 3, none⟩ : Addr).add j = ⟨g, i * 3 + j, none⟩ := by unfold Addr.add; split <;> simp_all
      rw [e3]
      simp only [World.cell?, hg2]
      have : cur.toList[i * 3 + j]? = some v := by rw [hcurL, List.getElem?_append_right (by omega), hAl, Nat.add_sub_cancel_left]; exact hj
      simpa using this) (by rw [hBl]; simp only [List.size_toArray, p3, List.length_append, hAl, hZl]; omega) hBone
    rw [e]
    congr 3
    rw [← hL2, hAl, hBl]
    have e4 : (i + 1) * 3 = i * 3 + 3 := by omega
    rw [e4]
  have HN : Hid (n = xs.length) := hn
  have hi1 : (i : Int) + 1 ≤ (n : Int) + 1 := by omega
  have hi2 : (i : Int) ≤ (n : Int) + 1 := by omega
  have hwi : IntKind.i64.wrap ((i : Int) + 1) = (i : Int) + 1 := by rw [IntWalk.i64_in _ (by omega)]
  have hti : ((i : Int) + 1).toNat = i + 1 := by omega
  have hi0 : (0 : Int) ≤ (i : Int) + 1 := by omega
  have hi3 : (i : Int) ≤ (n : Int) := by omega
  have hb5 : ¬ (C = i) := by omega
  have hb6 : ¬ (C = i + 1) := by omega
  have hsb : (n : Int) + 1 - (i : Int) = ((n + 1 - i : Nat) : Int) := by omega
  have hw1v : w1.heap[gv]? = some (.cells #[.int .i64 x.c, .int .i64 x.s, .string x.a] 173 (0, 0)) := mv1.at hv (by simp)
  have hw1g : w1.heap[g]? = some (.cells cur 173 (0, 0)) := mv1.at hg (by simp)
  have hg2 : (w1.setRow G L1.toArray).heap[G]? = some (.cells L1.toArray 173 (0, 0)) := setRow_heap _ G _ _ _ _ hG1
  have hg3 : (w1.setRow G L1.toArray).heap[g]? = some (.cells cur 173 (0, 0)) := (setRow_other _ G g _ hgG).trans hw1g
  have FIN : InsertedT W w ((w1.setRow G L1.toArray).drew.setRow G L2.toArray) (.slice (some ⟨g, 0, none⟩) n n) (xs.take i ++ [x] ++ xs.drop i) (.returned (.slice (some ⟨G, 0, none⟩) (n + 1) C)) := by
    have mv0 : Moves [G] w1 ((w1.setRow G L1.toArray).drew.setRow G L2.toArray) := (moves_row _ _ _).drew.then (moves_row _ _ _)
    have mv : Moves [] w ((w1.setRow G L1.toArray).drew.setRow G L2.toArray) := mv1.trans mv0 (fun k hk => .inr (by simp at hk; omega))
    have st : Stay (fun t => t ≠ 173) w ((w1.setRow G L1.toArray).drew.setRow G L2.toArray) := Stay.ofMoves mv
    refine ⟨_, _, _, rfl, GrowT.mk' (css := css.take i ++ [[.int .i64 x.c, .int .i64 x.s, .string x.a]] ++ css.drop i) (setRow_heap _ G _ _ _ _ hg2) (by omega) ?_ hC1 hC2 ?_ ?_ ?_ ?_, mv.mono (by simp), st, .inr ⟨G, rfl, by omega⟩⟩
    · simp only [List.length_append, List.length_take, List.length_drop, List.length_singleton, hlen]; omega
    · simp only [List.size_toArray, p2, List.length_append, hAl, hZl]; omega
    · have e : (n + 1) * 3 = A.length + 3 + B.length := by omega
      rw [List.flatten_append, List.flatten_append, hA, hB, e]
      simp only [List.flatten_cons, List.flatten_nil, List.append_nil, hX]
      exact p1
    · intro c hc
      rcases List.mem_append.1 hc with hc | hc
      · rcases List.mem_append.1 hc with hc | hc
        · exact h2 c (List.mem_of_mem_take hc)
        · simp at hc; rw [hc]; rfl
      · exact h2 c (List.mem_of_mem_drop hc)
    · have h3 := hall.mono (fun _ _ k => ToldC.any (w' := (w1.setRow G L1.toArray).drew.setRow G L2.toArray) k)
      refine ((h3.take i).append ?_).append (h3.drop i)
      exact ⟨rfl, trivial⟩
  have HF : Hid (InsertedT W w ((w1.setRow G L1.toArray).drew.setRow G L2.toArray) (.slice (some ⟨g, 0, none⟩) n n) (xs.take i ++ [x] ++ xs.drop i) (.returned (.slice (some ⟨G, 0, none⟩) (n + 1) C))) := FIN
  clear h hn hall FIN p1 p2 p3 hL1 hL2 hcurL hA hB hX hone hBone hXone hsz h2 hlen hcur hcs hmax hWg hG mv1 hZl hC2
  go_enter Tryz.func185, Tryz.ntmps185
  go_wp2_with (at_builtin; first | refine list_append_run rfl (.tmp 34) (.tmp 39) 106 3 rfl _ _ rfl rfl (hap _) ?_ | refine list_copy_run rfl (.tmp 43) (.tmp 44) 106 106 rfl _ _ rfl rfl (hcp1 _ _ _ hG1 hw1v) ?_)
  refine wp_region_noPanic ?_
  refine wp_region_held_drew (S := (fun _ => True)) (by kernel_rfl) ?_ (fun hHeld => ?_)
  · trivial
  refine wpT 0 ⟨some 46, .move (.tmp 9), 106, "slices.go:154", #[], none⟩ ?_
  refine wpT 1 ⟨some 47, .move (.tmp 1), 3, "slices.go:154", #[], none⟩ ?_
  refine wpT 2 ⟨some 48, .move (.tmp 7), 3, "slices.go:154", #[], none⟩ ?_
  refine wpT 3 ⟨some 49, .binOp .add 3 (.tmp 47) (.tmp 48) 3, 3, "slices.go:154", #[⟨1, .data⟩, ⟨2, .data⟩], none⟩ ?_
  refine wpT 4 ⟨some 50, .slice 106 (.tmp 46) (some (.tmp 49)) none none, 106, "slices.go:154", #[⟨0, .data⟩, ⟨3, .data⟩], none⟩ ?_
  refine wpT 5 ⟨some 51, .move (.tmp 0), 106, "slices.go:154", #[], none⟩ ?_
  refine wpT 6 ⟨some 52, .move (.tmp 1), 3, "slices.go:154", #[], none⟩ ?_
  refine wpT 7 ⟨some 53, .slice 106 (.tmp 51) (some (.tmp 52)) none none, 106, "slices.go:154", #[⟨5, .data⟩, ⟨6, .data⟩], none⟩ ?_
  refine wpR 8 ⟨some 54, .call ⟨.builtin .copy, #[.tmp 50, .tmp 53], #[106, 106]⟩, 3, "slices.go:154", #[⟨4, .data⟩, ⟨7, .data⟩], none⟩ (fun K hK => ?_)
  refine step_copy_run (.tmp 50) (.tmp 53) 106 106 rfl _ _ (by simp [Act.eval]; rfl) (by simp [Act.eval]; rfl) (by rfl) (hcp2 _ _ _ _ hg2 hg3) ?_
  refine hK.out _ _ ?_ (fun hHeld => ?_)
  · trivial
  clear hK K
  try simp only [Act.put, sp1, sp2, sp3]
  refine wpAnyH_done (by kernel_rfl) ?_ _
  refine NoPanic.normal ?_
  go_wp
  go_ret
  exact HF.out

theorem oinsert_w (W w : World) (ad : Option Addr) (n cap : Nat) (xs : List Pt) (i : Nat) (x : Pt) (gv : Nat) (h : GrowT W w (.slice ad n cap) xs) (hi : i ≤ xs.length) (hl : n ≤ 1000)
    (hv : w.heap[gv]? = some (.cells #[.int .i64 x.c, .int .i64 x.s, .string x.a] 173 (0, 0))) (hgv : gv ∉ (Value.slice ad n cap).ownBlock.toList) (hW : W.heap.size ≤ w.heap.size) :
    Calls Tryz.prog 185 #[.slice ad n cap, .int .i64 (i : Int), .slice (some ⟨gv, 0, none⟩) 1 1] w fun e w' => InsertedT W w w' (.slice ad n cap) (xs.take i ++ [x] ++ xs.drop i) e := by
  obtain ⟨hn, hc⟩ : n = xs.length ∧ n ≤ cap := by
    obtain ⟨_, _, _, e0, hn, hc⟩ := h.open
    simp at e0
    obtain ⟨rfl, rfl, rfl⟩ := e0
    exact ⟨hn.out, hc⟩
  rcases Nat.lt_or_ge i n with h1 | h1
  · rcases Nat.lt_or_ge n cap with h2 | h2
    · exact oinsert_room W w ad n cap xs i x gv h hn h1 hl h2 hv hgv
    · obtain rfl : cap = n := by omega
      exact oinsert_grow W w ad _ xs i x gv h hn h1 hl hv hW
  · obtain rfl : i = n := by omega
    have e1 : xs.take i = xs := List.take_of_length_le (by omega)
    have e2 : xs.drop i = [] := List.drop_of_length_le (by omega)
    rw [e1, e2, List.append_nil]
    exact oinsert_end W w ad i cap xs x gv h hn hl hv hW
end Go.Proofs.YtilbbnmhnacnlaaGreat
