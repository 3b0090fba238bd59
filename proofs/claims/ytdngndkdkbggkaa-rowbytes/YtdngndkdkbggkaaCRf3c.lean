/-
  What the document's own Put of a value does: it returns the bytes that it was handed and the value's behind them, in a row of its own, and writes nothing that was there.
-/
import Derived.Test.YtdngndkdkbggkaaCRf3b
namespace Go.Proofs.Ytdngndkdkbggkaa
open Go.RowKit

theorem wpOp_of_list {P : Program} {ops : Array Oper} {Q : Exit → Act → World → Prop} {i : Nat} {o : Oper} {a : Act} {w : World} {K : Act → World → Prop} (hi : ops[i]? = some o) (h : wpList P ops (fun e a w => match e with | .normal => K a w | e => Q e a w) [o] a w) : wpOp P ops Q i K a w := by
  unfold wpOp
  simp only [hi]
  unfold wpList at h
  split
  · rename_i hw
    rw [if_pos hw] at h
    refine h.imp (fun h => ?_) (fun h => h)
    unfold Oper.wp at h ⊢
    generalize (execOp a.eval o).run P w = r at h ⊢
    cases r with
    | ok n w' => cases n <;> exact h
    | halt x w' => cases x <;> exact h
  · rename_i hw
    rw [if_neg hw] at h
    exact h

theorem AllReadyH.cons_list {P : Program} {md : Region.Mode} {ops : Array Oper} {Q : Exit → Act → World → Prop} {S : World → Prop} {fuel : Nat} {listed : Array Bool} {a : Act} {w : World} {i : Nat} {o : Oper} {rs : List Nat} (ho : ops[i]? = some o)
    (h : ∀ K' : Act → World → Prop, Shut (∀ a w, S w → (S w → wpAnyH P md ops Q S fuel (listed.setIfInBounds i true) a w) → K' a w) → wpList P ops (fun e a w => match e with | .normal => K' a w | e => Q e a w) [o] a w)
    (hs : AllReadyH P md ops Q S fuel listed a w rs) : AllReadyH P md ops Q S fuel listed a w (i :: rs) := fun j hj => by
  rcases List.mem_cons.1 hj with rfl | hj
  · exact wpOp_of_list ho (h _ (fun a w hS hW => ⟨hS, hW hS⟩))
  · exact hs j hj

set_option maxHeartbeats 4000000 in
theorem rPut_w (v : Value) (g : Nat) (bs : List Nat) (A : Vm) (w : World) (hb : IsB w g v bs) (ha : A.In w) (hn : bs.length + 2000010 ≤ 1099511627776) (hl : A.bs.length ≤ 1048576) :
    Calls Try.prog 24 #[v, A.val] w fun e w' => ∃ v', e = .returned v' ∧ Own w' v' (bs ++ venc A) ∧ Moves [] w w' ∧ Fresh w v' := by
  have hf := ha.fits
  have hc0 := ha.isB
  obtain ⟨k, bv, g', cs, n⟩ := A
  simp only at hc0 hf hl
  have hcv := hc0
  obtain ⟨ad, len, cap, rfl, _⟩ := hcv
  have hbv := hb
  obtain ⟨adb, lenb, capb, rfl, _⟩ := hbv
  simp only [Vm.val]
  obtain ⟨E, hE⟩ : ∃ E, bs ++ venc ⟨k, .slice ad len cap, g', cs, n⟩ = E := ⟨_, rfl⟩
  rw [hE]
  clear ha
  have hl1 : ([] : List Nat).length + bs.length ≤ 1099511627776 := by rw [List.length_nil]; omega
  have hl2 : ∀ x : Nat, bs.length + [x].length ≤ 1099511627776 := fun x => by rw [List.length_singleton]; omega
  have hl3 : ∀ x : Nat, (bs ++ [x]).length + 2000000 ≤ 1099511627776 := fun x => by rw [List.length_append, List.length_singleton]; omega
  have hl4 : ∀ x : Nat, (bs ++ [x]).length + 16 ≤ 1099511627776 := fun x => by rw [List.length_append, List.length_singleton]; omega
  clear hn
  rcases kd_cases k with ⟨rfl, e⟩ | ⟨rfl, e⟩ | ⟨z1, z2, e⟩
  · rw [venc_text (by exact e)] at hE
    have HE : Hid (bs ++ [1] ++ be 4 cs.length ++ cs = E) := by
      show bs ++ [1] ++ be 4 cs.length ++ cs = E
      rw [← hE]; simp
    clear e hE
    go_enter Try.func24, Try.ntmps24
    go_wp2
    refine wp_region_noPanic ?_
    refine wp_region_held_drew (S := (fun w' => w'.cell? ⟨w.heap.size, 0, none⟩ = some (.int .i64 1) ∧ w'.cell? ⟨w.heap.size, 1, none⟩ = some (.slice ad len cap) ∧ w'.cell? ⟨w.heap.size, 2, none⟩ = some (.float .f64 n))) (by kernel_rfl) ?_ (fun hHeld => ?_)
    · go_keep
    have hm0 : Moves [] w (w.alloc (.cells #[.int .i64 1, .slice ad len cap, .float .f64 n] 61)).drew := ((Moves.refl _ _).alloc _).drew
    generalize (w.alloc (.cells #[.int .i64 1, .slice ad len cap, .float .f64 n] 61)).drew = w0 at *
    obtain ⟨c0, c1, c2⟩ := hHeld
    have hHeld := And.intro c0 (And.intro c1 c2)
    replace hc0 := hc0.moves hm0 (by simp)
    have hb0 := hb.moves hm0 (by simp)
    refine wpAnyH_take (i := 1) (oi := { dst := some 10, op := Op.move (Operand.tmp 0), type := 23, pos := "ref.go:60", after := #[], guard := none }) (v := ?_) rfl (by kernel_rfl) (by kernel_rfl) (by kernel_rfl) (fun _ _ _ h => h) (Or.inl ⟨by rfl, ?_⟩) (by assumption) ?_
    rotate_left
    · (intro w hSw; (try dsimp only at hSw); go_simp; try (with_reducible rfl))
    try simp only [Act.put, List.setIfInBounds_toArray, List.set_cons_zero, List.set_cons_succ]
    refine wpAnyH_take (i := 5) (oi := { dst := some 14, op := Op.fieldAddr 61 (Operand.tmp 3) 1, type := 0, pos := "ref.go:60", after := #[], guard := none }) (v := ?_) rfl (by kernel_rfl) (by kernel_rfl) (by kernel_rfl) (fun _ _ _ h => h) (Or.inl ⟨by rfl, ?_⟩) (by assumption) ?_
    rotate_left
    · (intro w hSw; (try dsimp only at hSw); go_simp; try (with_reducible rfl))
    try simp only [Act.put, List.setIfInBounds_toArray, List.set_cons_zero, List.set_cons_succ]
    refine wpAnyH_take (i := 6) (oi := { dst := some 15, op := Op.load 23 (Operand.tmp 14), type := 23, pos := "ref.go:60", after := #[{ on := 5, ground := Ground.data }], guard := none }) (v := ?_) rfl (by kernel_rfl) (by kernel_rfl) (by kernel_rfl) (fun _ _ _ h => h) (Or.inl ⟨by rfl, ?_⟩) (by assumption) ?_
    rotate_left
    · (intro w hSw; (try dsimp only at hSw); go_simp; try (with_reducible rfl))
    try simp only [Act.put, List.setIfInBounds_toArray, List.set_cons_zero, List.set_cons_succ]
    refine wpAnyH_ready (rs := [0, 3]) (by kernel_rfl) (by simp) ?_
    refine AllReadyH.cons (o := { dst := some 9, op := Op.buildSlice 23 0 #[], type := 23, pos := "ref.go:60", after := #[], guard := none }) rfl (fun K hK => ?_) ?_
    · go_simp
      refine hK.out _ _ ?_ (fun hHeld => ?_)
      · go_keep
      clear hK K
      try simp only [Act.put, List.setIfInBounds_toArray, List.set_cons_zero, List.set_cons_succ]
      refine wpAnyH_ready (rs := [2, 3]) (by kernel_rfl) (by simp) ?_
      refine AllReadyH.cons_list (o := { dst := some 11, op := Op.call { callee := Callee.builtin Builtin.append, args := #[Operand.tmp 9, Operand.tmp 10], argTypes := #[23, 23] }, type := 23, pos := "ref.go:60", after := #[{ on := 0, ground := Ground.data }, { on := 1, ground := Ground.data }], guard := none }) rfl (fun K hK => ?_) ?_
      · refine append_law (.tmp 9) (.tmp 10) rfl (.slice (some ⟨w0.heap.size, 0, none⟩) 0 0) _ [] bs g rfl rfl rfl (own_empty w0) (hb0.moves ((Moves.refl [] w0).alloc (.cells #[] 5)) (by simp)) hl1 ?_
        intro v2 w2 ho2 m2 hat2
        rw [List.nil_append] at ho2
        have hA2 := appended ((Moves.refl [] w0).alloc (.cells #[] 5)) (fresh_empty w0) m2 hat2
        have hS1 := And.intro (hA2.1.cell c0) (And.intro (hA2.1.cell c1) (hA2.1.cell c2))
        show K _ _
        refine hK.out _ _ ?_ (fun hHeld => ?_)
        · exact hS1
        clear hK K
        try simp only [Act.put, List.setIfInBounds_toArray, List.set_cons_zero, List.set_cons_succ]
        refine wpAnyH_ready (rs := [3]) (by kernel_rfl) (by simp) ?_
        refine AllReadyH.cons (o := { dst := some 12, op := Op.buildSlice 23 1 #[(0, Operand.const (Value.int IntKind.u8 1))], type := 23, pos := "ref.go:60", after := #[], guard := none }) rfl (fun K hK => ?_) ?_
        · go_simp
          refine hK.out _ _ ?_ (fun hHeld => ?_)
          · go_keep
          clear hK K
          try simp only [Act.put, List.setIfInBounds_toArray, List.set_cons_zero, List.set_cons_succ]
          have mX := hA2.1.alloc (.cells #[.int .u8 1] 5)
          have fA := hA2.2
          refine wpAnyH_ready (rs := [4]) (by kernel_rfl) (by simp) ?_
          refine AllReadyH.cons_list (o := { dst := some 13, op := Op.call { callee := Callee.builtin Builtin.append, args := #[Operand.tmp 11, Operand.tmp 12], argTypes := #[23, 23] }, type := 23, pos := "ref.go:60", after := #[{ on := 2, ground := Ground.data }, { on := 3, ground := Ground.data }, { on := 2, ground := Ground.chain }], guard := none }) rfl (fun K hK => ?_) ?_
          · refine append_law (.tmp 11) (.tmp 12) rfl _ _ bs [1] _ rfl rfl rfl (ho2.moves ((Moves.refl [] _).alloc _) (by simp)) (has_new w2 1) (hl2 _) ?_
            intro v4 w4 ho4 m4 hat4
            have hA4 := appended mX fA m4 hat4
            have hS1 := And.intro (hA4.1.cell c0) (And.intro (hA4.1.cell c1) (hA4.1.cell c2))
            have k0 := hS1.1
            have k1 := hS1.2.1
            have k2 := hS1.2.2
            have M4 := hm0.then hA4.1
            have hv4 := (hc0.moves hA4.1 (by simp))
            show K _ _
            refine hK.out _ _ ?_ (fun hHeld => ?_)
            · exact hS1
            clear hK K
            try simp only [Act.put, List.setIfInBounds_toArray, List.set_cons_zero, List.set_cons_succ]
            refine wpAnyH_ready (rs := [7]) (by kernel_rfl) (by simp) ?_
            refine AllReadyH.cons (o := { dst := some 16, op := Op.call { callee := Callee.value (Operand.func 23), args := #[Operand.tmp 13, Operand.tmp 15], argTypes := #[23, 23] }, type := 23, pos := "ref.go:60", after := #[{ on := 4, ground := Ground.data }, { on := 6, ground := Ground.data }, { on := 4, ground := Ground.chain }], guard := none }) rfl (fun K hK => ?_) AllReadyH.nil
            go_simp
            (go_at_call 23; refine (rtext_w _ _ _ _ g' cs _ ho4.isB hv4 (hl3 _) hl).mono ?_; rintro _ w5 ⟨v5, rfl, ho5, m5, f5⟩; rw [HE.out] at ho5)
            refine hK.out _ _ ?_ (fun hHeld => ?_)
            · exact ⟨m5.cell k0, m5.cell k1, m5.cell k2⟩
            clear hK K
            try simp only [Act.put, List.setIfInBounds_toArray, List.set_cons_zero, List.set_cons_succ]
            refine wpAnyH_take (i := 8) (oi := { dst := some 4, op := Op.assign (Operand.tmp 16), type := 23, pos := "ref.go:60", after := #[{ on := 7, ground := Ground.data }, { on := 7, ground := Ground.chain }, { on := 0, ground := Ground.phase }, { on := 1, ground := Ground.phase }, { on := 2, ground := Ground.phase }, { on := 3, ground := Ground.phase }, { on := 4, ground := Ground.phase }, { on := 5, ground := Ground.phase }, { on := 6, ground := Ground.phase }, { on := 7, ground := Ground.phase }], guard := none }) (v := ?_) rfl (by kernel_rfl) (by kernel_rfl) (by kernel_rfl) (fun _ _ _ h => h) (Or.inl ⟨by rfl, ?_⟩) (by assumption) ?_
            rotate_left
            · (intro w hSw; (try dsimp only at hSw); go_simp; try (with_reducible rfl))
            try simp only [Act.put, List.setIfInBounds_toArray, List.set_cons_zero, List.set_cons_succ]
            refine wpAnyH_done (by kernel_rfl) ?_ _
            refine NoPanic.normal ?_
            go_wp2
            go_ret
            exact ⟨_, rfl, ho5, M4.then m5, fun j hj => Nat.le_trans M4.size (f5 j hj)⟩
          · exact AllReadyH.nil
        · exact AllReadyH.nil
      · refine AllReadyH.cons (o := { dst := some 12, op := Op.buildSlice 23 1 #[(0, Operand.const (Value.int IntKind.u8 1))], type := 23, pos := "ref.go:60", after := #[], guard := none }) rfl (fun K hK => ?_) ?_
        · go_simp
          refine hK.out _ _ ?_ (fun hHeld => ?_)
          · go_keep
          clear hK K
          try simp only [Act.put, List.setIfInBounds_toArray, List.set_cons_zero, List.set_cons_succ]
          have eS : (w0.alloc (.cells #[] 5)).heap.size = w0.heap.size + 1 := by simp
          have hX := has_new (w0.alloc (.cells #[] 5)) 1
          rw [eS] at hX
          refine wpAnyH_ready (rs := [2]) (by kernel_rfl) (by simp) ?_
          refine AllReadyH.cons_list (o := { dst := some 11, op := Op.call { callee := Callee.builtin Builtin.append, args := #[Operand.tmp 9, Operand.tmp 10], argTypes := #[23, 23] }, type := 23, pos := "ref.go:60", after := #[{ on := 0, ground := Ground.data }, { on := 1, ground := Ground.data }], guard := none }) rfl (fun K hK => ?_) ?_
          · refine append_law (.tmp 9) (.tmp 10) rfl (.slice (some ⟨w0.heap.size, 0, none⟩) 0 0) _ [] bs g rfl rfl rfl ((own_empty w0).moves ((Moves.refl [] _).alloc _) (by simp)) (hb0.moves (((Moves.refl [] w0).alloc (.cells #[] 5)).alloc (.cells #[.int .u8 1] 5)) (by simp)) hl1 ?_
            intro v2 w2 ho2 m2 hat2
            rw [List.nil_append] at ho2
            have hA2 := appended (((Moves.refl [] w0).alloc (.cells #[] 5)).alloc (.cells #[.int .u8 1] 5)) (fresh_empty w0) m2 hat2
            have hS1 := And.intro (hA2.1.cell c0) (And.intro (hA2.1.cell c1) (hA2.1.cell c2))
            show K _ _
            refine hK.out _ _ ?_ (fun hHeld => ?_)
            · exact hS1
            clear hK K
            try simp only [Act.put, List.setIfInBounds_toArray, List.set_cons_zero, List.set_cons_succ]
            have hX2 := hX.moves m2 (by simp [Value.ownBlock])
            have mX := hA2.1
            have fA := hA2.2
            refine wpAnyH_ready (rs := [4]) (by kernel_rfl) (by simp) ?_
            refine AllReadyH.cons_list (o := { dst := some 13, op := Op.call { callee := Callee.builtin Builtin.append, args := #[Operand.tmp 11, Operand.tmp 12], argTypes := #[23, 23] }, type := 23, pos := "ref.go:60", after := #[{ on := 2, ground := Ground.data }, { on := 3, ground := Ground.data }, { on := 2, ground := Ground.chain }], guard := none }) rfl (fun K hK => ?_) ?_
            · refine append_law (.tmp 11) (.tmp 12) rfl _ _ bs [1] _ rfl rfl rfl ho2 hX2 (hl2 _) ?_
              intro v4 w4 ho4 m4 hat4
              have hA4 := appended mX fA m4 hat4
              have hS1 := And.intro (hA4.1.cell c0) (And.intro (hA4.1.cell c1) (hA4.1.cell c2))
              have k0 := hS1.1
              have k1 := hS1.2.1
              have k2 := hS1.2.2
              have M4 := hm0.then hA4.1
              have hv4 := (hc0.moves hA4.1 (by simp))
              show K _ _
              refine hK.out _ _ ?_ (fun hHeld => ?_)
              · exact hS1
              clear hK K
              try simp only [Act.put, List.setIfInBounds_toArray, List.set_cons_zero, List.set_cons_succ]
              refine wpAnyH_ready (rs := [7]) (by kernel_rfl) (by simp) ?_
              refine AllReadyH.cons (o := { dst := some 16, op := Op.call { callee := Callee.value (Operand.func 23), args := #[Operand.tmp 13, Operand.tmp 15], argTypes := #[23, 23] }, type := 23, pos := "ref.go:60", after := #[{ on := 4, ground := Ground.data }, { on := 6, ground := Ground.data }, { on := 4, ground := Ground.chain }], guard := none }) rfl (fun K hK => ?_) AllReadyH.nil
              go_simp
              (go_at_call 23; refine (rtext_w _ _ _ _ g' cs _ ho4.isB hv4 (hl3 _) hl).mono ?_; rintro _ w5 ⟨v5, rfl, ho5, m5, f5⟩; rw [HE.out] at ho5)
              refine hK.out _ _ ?_ (fun hHeld => ?_)
              · exact ⟨m5.cell k0, m5.cell k1, m5.cell k2⟩
              clear hK K
              try simp only [Act.put, List.setIfInBounds_toArray, List.set_cons_zero, List.set_cons_succ]
              refine wpAnyH_take (i := 8) (oi := { dst := some 4, op := Op.assign (Operand.tmp 16), type := 23, pos := "ref.go:60", after := #[{ on := 7, ground := Ground.data }, { on := 7, ground := Ground.chain }, { on := 0, ground := Ground.phase }, { on := 1, ground := Ground.phase }, { on := 2, ground := Ground.phase }, { on := 3, ground := Ground.phase }, { on := 4, ground := Ground.phase }, { on := 5, ground := Ground.phase }, { on := 6, ground := Ground.phase }, { on := 7, ground := Ground.phase }], guard := none }) (v := ?_) rfl (by kernel_rfl) (by kernel_rfl) (by kernel_rfl) (fun _ _ _ h => h) (Or.inl ⟨by rfl, ?_⟩) (by assumption) ?_
              rotate_left
              · (intro w hSw; (try dsimp only at hSw); go_simp; try (with_reducible rfl))
              try simp only [Act.put, List.setIfInBounds_toArray, List.set_cons_zero, List.set_cons_succ]
              refine wpAnyH_done (by kernel_rfl) ?_ _
              refine NoPanic.normal ?_
              go_wp2
              go_ret
              exact ⟨_, rfl, ho5, M4.then m5, fun j hj => Nat.le_trans M4.size (f5 j hj)⟩
            · exact AllReadyH.nil
          · exact AllReadyH.nil
        · exact AllReadyH.nil
    · refine AllReadyH.cons (o := { dst := some 12, op := Op.buildSlice 23 1 #[(0, Operand.const (Value.int IntKind.u8 1))], type := 23, pos := "ref.go:60", after := #[], guard := none }) rfl (fun K hK => ?_) ?_
      · go_simp
        refine hK.out _ _ ?_ (fun hHeld => ?_)
        · go_keep
        clear hK K
        try simp only [Act.put, List.setIfInBounds_toArray, List.set_cons_zero, List.set_cons_succ]
        refine wpAnyH_ready (rs := [0]) (by kernel_rfl) (by simp) ?_
        refine AllReadyH.cons (o := { dst := some 9, op := Op.buildSlice 23 0 #[], type := 23, pos := "ref.go:60", after := #[], guard := none }) rfl (fun K hK => ?_) ?_
        · go_simp
          refine hK.out _ _ ?_ (fun hHeld => ?_)
          · go_keep
          clear hK K
          try simp only [Act.put, List.setIfInBounds_toArray, List.set_cons_zero, List.set_cons_succ]
          have eS : (w0.alloc (.cells #[.int .u8 1] 5)).heap.size = w0.heap.size + 1 := by simp
          have hX := (has_new w0 1).moves ((Moves.refl [] _).alloc (.cells #[] 5)) (by simp)
          have hE := own_empty (w0.alloc (.cells #[.int .u8 1] 5))
          have fE : Fresh w0 (.slice (some ⟨w0.heap.size + 1, 0, none⟩) 0 0) := fun k hk => by simp [Value.ownBlock] at hk; omega
          rw [eS] at hE
          refine wpAnyH_ready (rs := [2]) (by kernel_rfl) (by simp) ?_
          refine AllReadyH.cons_list (o := { dst := some 11, op := Op.call { callee := Callee.builtin Builtin.append, args := #[Operand.tmp 9, Operand.tmp 10], argTypes := #[23, 23] }, type := 23, pos := "ref.go:60", after := #[{ on := 0, ground := Ground.data }, { on := 1, ground := Ground.data }], guard := none }) rfl (fun K hK => ?_) ?_
          · refine append_law (.tmp 9) (.tmp 10) rfl (.slice (some ⟨w0.heap.size + 1, 0, none⟩) 0 0) _ [] bs g rfl rfl rfl hE (hb0.moves (((Moves.refl [] w0).alloc (.cells #[.int .u8 1] 5)).alloc (.cells #[] 5)) (by simp)) hl1 ?_
            intro v2 w2 ho2 m2 hat2
            rw [List.nil_append] at ho2
            have hA2 := appended (((Moves.refl [] w0).alloc (.cells #[.int .u8 1] 5)).alloc (.cells #[] 5)) fE m2 hat2
            have hS1 := And.intro (hA2.1.cell c0) (And.intro (hA2.1.cell c1) (hA2.1.cell c2))
            show K _ _
            refine hK.out _ _ ?_ (fun hHeld => ?_)
            · exact hS1
            clear hK K
            try simp only [Act.put, List.setIfInBounds_toArray, List.set_cons_zero, List.set_cons_succ]
            have hX2 := hX.moves m2 (by simp [Value.ownBlock])
            have mX := hA2.1
            have fA := hA2.2
            refine wpAnyH_ready (rs := [4]) (by kernel_rfl) (by simp) ?_
            refine AllReadyH.cons_list (o := { dst := some 13, op := Op.call { callee := Callee.builtin Builtin.append, args := #[Operand.tmp 11, Operand.tmp 12], argTypes := #[23, 23] }, type := 23, pos := "ref.go:60", after := #[{ on := 2, ground := Ground.data }, { on := 3, ground := Ground.data }, { on := 2, ground := Ground.chain }], guard := none }) rfl (fun K hK => ?_) ?_
            · refine append_law (.tmp 11) (.tmp 12) rfl _ _ bs [1] _ rfl rfl rfl ho2 hX2 (hl2 _) ?_
              intro v4 w4 ho4 m4 hat4
              have hA4 := appended mX fA m4 hat4
              have hS1 := And.intro (hA4.1.cell c0) (And.intro (hA4.1.cell c1) (hA4.1.cell c2))
              have k0 := hS1.1
              have k1 := hS1.2.1
              have k2 := hS1.2.2
              have M4 := hm0.then hA4.1
              have hv4 := (hc0.moves hA4.1 (by simp))
              show K _ _
              refine hK.out _ _ ?_ (fun hHeld => ?_)
              · exact hS1
              clear hK K
              try simp only [Act.put, List.setIfInBounds_toArray, List.set_cons_zero, List.set_cons_succ]
              refine wpAnyH_ready (rs := [7]) (by kernel_rfl) (by simp) ?_
              refine AllReadyH.cons (o := { dst := some 16, op := Op.call { callee := Callee.value (Operand.func 23), args := #[Operand.tmp 13, Operand.tmp 15], argTypes := #[23, 23] }, type := 23, pos := "ref.go:60", after := #[{ on := 4, ground := Ground.data }, { on := 6, ground := Ground.data }, { on := 4, ground := Ground.chain }], guard := none }) rfl (fun K hK => ?_) AllReadyH.nil
              go_simp
              (go_at_call 23; refine (rtext_w _ _ _ _ g' cs _ ho4.isB hv4 (hl3 _) hl).mono ?_; rintro _ w5 ⟨v5, rfl, ho5, m5, f5⟩; rw [HE.out] at ho5)
              refine hK.out _ _ ?_ (fun hHeld => ?_)
              · exact ⟨m5.cell k0, m5.cell k1, m5.cell k2⟩
              clear hK K
              try simp only [Act.put, List.setIfInBounds_toArray, List.set_cons_zero, List.set_cons_succ]
              refine wpAnyH_take (i := 8) (oi := { dst := some 4, op := Op.assign (Operand.tmp 16), type := 23, pos := "ref.go:60", after := #[{ on := 7, ground := Ground.data }, { on := 7, ground := Ground.chain }, { on := 0, ground := Ground.phase }, { on := 1, ground := Ground.phase }, { on := 2, ground := Ground.phase }, { on := 3, ground := Ground.phase }, { on := 4, ground := Ground.phase }, { on := 5, ground := Ground.phase }, { on := 6, ground := Ground.phase }, { on := 7, ground := Ground.phase }], guard := none }) (v := ?_) rfl (by kernel_rfl) (by kernel_rfl) (by kernel_rfl) (fun _ _ _ h => h) (Or.inl ⟨by rfl, ?_⟩) (by assumption) ?_
              rotate_left
              · (intro w hSw; (try dsimp only at hSw); go_simp; try (with_reducible rfl))
              try simp only [Act.put, List.setIfInBounds_toArray, List.set_cons_zero, List.set_cons_succ]
              refine wpAnyH_done (by kernel_rfl) ?_ _
              refine NoPanic.normal ?_
              go_wp2
              go_ret
              exact ⟨_, rfl, ho5, M4.then m5, fun j hj => Nat.le_trans M4.size (f5 j hj)⟩
            · exact AllReadyH.nil
          · exact AllReadyH.nil
        · exact AllReadyH.nil
      · exact AllReadyH.nil
  · rw [venc_num (by exact e)] at hE
    have HE : Hid (bs ++ [2] ++ be 8 (Pl.canon n) = E) := by
      show bs ++ [2] ++ be 8 (Pl.canon n) = E
      rw [← hE]; simp
    clear e hE
    go_enter Try.func24, Try.ntmps24
    go_wp2
    refine wp_region_noPanic ?_
    refine wp_region_held_drew (S := (fun w' => w'.cell? ⟨w.heap.size, 0, none⟩ = some (.int .i64 2) ∧ w'.cell? ⟨w.heap.size, 1, none⟩ = some (.slice ad len cap) ∧ w'.cell? ⟨w.heap.size, 2, none⟩ = some (.float .f64 n))) (by kernel_rfl) ?_ (fun hHeld => ?_)
    · go_keep
    have hm0 : Moves [] w (w.alloc (.cells #[.int .i64 2, .slice ad len cap, .float .f64 n] 61)).drew := ((Moves.refl _ _).alloc _).drew
    generalize (w.alloc (.cells #[.int .i64 2, .slice ad len cap, .float .f64 n] 61)).drew = w0 at *
    obtain ⟨c0, c1, c2⟩ := hHeld
    have hHeld := And.intro c0 (And.intro c1 c2)
    replace hc0 := hc0.moves hm0 (by simp)
    have hb0 := hb.moves hm0 (by simp)
    refine wpAnyH_take (i := 1) (oi := { dst := some 20, op := Op.move (Operand.tmp 0), type := 23, pos := "ref.go:62", after := #[], guard := none }) (v := ?_) rfl (by kernel_rfl) (by kernel_rfl) (by kernel_rfl) (fun _ _ _ h => h) (Or.inl ⟨by rfl, ?_⟩) (by assumption) ?_
    rotate_left
    · (intro w hSw; (try dsimp only at hSw); go_simp; try (with_reducible rfl))
    try simp only [Act.put, List.setIfInBounds_toArray, List.set_cons_zero, List.set_cons_succ]
    refine wpAnyH_take (i := 5) (oi := { dst := some 24, op := Op.fieldAddr 61 (Operand.tmp 3) 2, type := 0, pos := "ref.go:62", after := #[], guard := none }) (v := ?_) rfl (by kernel_rfl) (by kernel_rfl) (by kernel_rfl) (fun _ _ _ h => h) (Or.inl ⟨by rfl, ?_⟩) (by assumption) ?_
    rotate_left
    · (intro w hSw; (try dsimp only at hSw); go_simp; try (with_reducible rfl))
    try simp only [Act.put, List.setIfInBounds_toArray, List.set_cons_zero, List.set_cons_succ]
    refine wpAnyH_take (i := 6) (oi := { dst := some 25, op := Op.load 55 (Operand.tmp 24), type := 55, pos := "ref.go:62", after := #[{ on := 5, ground := Ground.data }], guard := none }) (v := ?_) rfl (by kernel_rfl) (by kernel_rfl) (by kernel_rfl) (fun _ _ _ h => h) (Or.inl ⟨by rfl, ?_⟩) (by assumption) ?_
    rotate_left
    · (intro w hSw; (try dsimp only at hSw); go_simp; try (with_reducible rfl))
    try simp only [Act.put, List.setIfInBounds_toArray, List.set_cons_zero, List.set_cons_succ]
    refine wpAnyH_ready (rs := [0, 3]) (by kernel_rfl) (by simp) ?_
    refine AllReadyH.cons (o := { dst := some 19, op := Op.buildSlice 23 0 #[], type := 23, pos := "ref.go:62", after := #[], guard := none }) rfl (fun K hK => ?_) ?_
    · go_simp
      refine hK.out _ _ ?_ (fun hHeld => ?_)
      · go_keep
      clear hK K
      try simp only [Act.put, List.setIfInBounds_toArray, List.set_cons_zero, List.set_cons_succ]
      refine wpAnyH_ready (rs := [2, 3]) (by kernel_rfl) (by simp) ?_
      refine AllReadyH.cons_list (o := { dst := some 21, op := Op.call { callee := Callee.builtin Builtin.append, args := #[Operand.tmp 19, Operand.tmp 20], argTypes := #[23, 23] }, type := 23, pos := "ref.go:62", after := #[{ on := 0, ground := Ground.data }, { on := 1, ground := Ground.data }], guard := none }) rfl (fun K hK => ?_) ?_
      · refine append_law (.tmp 19) (.tmp 20) rfl (.slice (some ⟨w0.heap.size, 0, none⟩) 0 0) _ [] bs g rfl rfl rfl (own_empty w0) (hb0.moves ((Moves.refl [] w0).alloc (.cells #[] 5)) (by simp)) hl1 ?_
        intro v2 w2 ho2 m2 hat2
        rw [List.nil_append] at ho2
        have hA2 := appended ((Moves.refl [] w0).alloc (.cells #[] 5)) (fresh_empty w0) m2 hat2
        have hS1 := And.intro (hA2.1.cell c0) (And.intro (hA2.1.cell c1) (hA2.1.cell c2))
        show K _ _
        refine hK.out _ _ ?_ (fun hHeld => ?_)
        · exact hS1
        clear hK K
        try simp only [Act.put, List.setIfInBounds_toArray, List.set_cons_zero, List.set_cons_succ]
        refine wpAnyH_ready (rs := [3]) (by kernel_rfl) (by simp) ?_
        refine AllReadyH.cons (o := { dst := some 22, op := Op.buildSlice 23 1 #[(0, Operand.const (Value.int IntKind.u8 2))], type := 23, pos := "ref.go:62", after := #[], guard := none }) rfl (fun K hK => ?_) ?_
        · go_simp
          refine hK.out _ _ ?_ (fun hHeld => ?_)
          · go_keep
          clear hK K
          try simp only [Act.put, List.setIfInBounds_toArray, List.set_cons_zero, List.set_cons_succ]
          have mX := hA2.1.alloc (.cells #[.int .u8 2] 5)
          have fA := hA2.2
          refine wpAnyH_ready (rs := [4]) (by kernel_rfl) (by simp) ?_
          refine AllReadyH.cons_list (o := { dst := some 23, op := Op.call { callee := Callee.builtin Builtin.append, args := #[Operand.tmp 21, Operand.tmp 22], argTypes := #[23, 23] }, type := 23, pos := "ref.go:62", after := #[{ on := 2, ground := Ground.data }, { on := 3, ground := Ground.data }, { on := 2, ground := Ground.chain }], guard := none }) rfl (fun K hK => ?_) ?_
          · refine append_law (.tmp 21) (.tmp 22) rfl _ _ bs [2] _ rfl rfl rfl (ho2.moves ((Moves.refl [] _).alloc _) (by simp)) (has_new w2 2) (hl2 _) ?_
            intro v4 w4 ho4 m4 hat4
            have hA4 := appended mX fA m4 hat4
            have hS1 := And.intro (hA4.1.cell c0) (And.intro (hA4.1.cell c1) (hA4.1.cell c2))
            have k0 := hS1.1
            have k1 := hS1.2.1
            have k2 := hS1.2.2
            have M4 := hm0.then hA4.1
            have hv4 := (hc0.moves hA4.1 (by simp))
            show K _ _
            refine hK.out _ _ ?_ (fun hHeld => ?_)
            · exact hS1
            clear hK K
            try simp only [Act.put, List.setIfInBounds_toArray, List.set_cons_zero, List.set_cons_succ]
            refine wpAnyH_ready (rs := [7]) (by kernel_rfl) (by simp) ?_
            refine AllReadyH.cons (o := { dst := some 26, op := Op.call { callee := Callee.value (Operand.func 60), args := #[Operand.tmp 23, Operand.tmp 25], argTypes := #[23, 55] }, type := 23, pos := "ref.go:62", after := #[{ on := 4, ground := Ground.data }, { on := 6, ground := Ground.data }, { on := 4, ground := Ground.chain }], guard := none }) rfl (fun K hK => ?_) AllReadyH.nil
            go_simp
            (go_at_call 60; refine (rfloat_w _ _ _ n _ ho4.isB (hl4 _) hf).mono ?_; rintro _ w5 ⟨v5, rfl, ho5, m5, f5⟩; rw [HE.out] at ho5)
            refine hK.out _ _ ?_ (fun hHeld => ?_)
            · exact ⟨m5.cell k0, m5.cell k1, m5.cell k2⟩
            clear hK K
            try simp only [Act.put, List.setIfInBounds_toArray, List.set_cons_zero, List.set_cons_succ]
            refine wpAnyH_take (i := 8) (oi := { dst := some 4, op := Op.assign (Operand.tmp 26), type := 23, pos := "ref.go:62", after := #[{ on := 7, ground := Ground.data }, { on := 7, ground := Ground.chain }, { on := 0, ground := Ground.phase }, { on := 1, ground := Ground.phase }, { on := 2, ground := Ground.phase }, { on := 3, ground := Ground.phase }, { on := 4, ground := Ground.phase }, { on := 5, ground := Ground.phase }, { on := 6, ground := Ground.phase }, { on := 7, ground := Ground.phase }], guard := none }) (v := ?_) rfl (by kernel_rfl) (by kernel_rfl) (by kernel_rfl) (fun _ _ _ h => h) (Or.inl ⟨by rfl, ?_⟩) (by assumption) ?_
            rotate_left
            · (intro w hSw; (try dsimp only at hSw); go_simp; try (with_reducible rfl))
            try simp only [Act.put, List.setIfInBounds_toArray, List.set_cons_zero, List.set_cons_succ]
            refine wpAnyH_done (by kernel_rfl) ?_ _
            refine NoPanic.normal ?_
            go_wp2
            go_ret
            exact ⟨_, rfl, ho5, M4.then m5, fun j hj => Nat.le_trans M4.size (f5 j hj)⟩
          · exact AllReadyH.nil
        · exact AllReadyH.nil
      · refine AllReadyH.cons (o := { dst := some 22, op := Op.buildSlice 23 1 #[(0, Operand.const (Value.int IntKind.u8 2))], type := 23, pos := "ref.go:62", after := #[], guard := none }) rfl (fun K hK => ?_) ?_
        · go_simp
          refine hK.out _ _ ?_ (fun hHeld => ?_)
          · go_keep
          clear hK K
          try simp only [Act.put, List.setIfInBounds_toArray, List.set_cons_zero, List.set_cons_succ]
          have eS : (w0.alloc (.cells #[] 5)).heap.size = w0.heap.size + 1 := by simp
          have hX := has_new (w0.alloc (.cells #[] 5)) 2
          rw [eS] at hX
          refine wpAnyH_ready (rs := [2]) (by kernel_rfl) (by simp) ?_
          refine AllReadyH.cons_list (o := { dst := some 21, op := Op.call { callee := Callee.builtin Builtin.append, args := #[Operand.tmp 19, Operand.tmp 20], argTypes := #[23, 23] }, type := 23, pos := "ref.go:62", after := #[{ on := 0, ground := Ground.data }, { on := 1, ground := Ground.data }], guard := none }) rfl (fun K hK => ?_) ?_
          · refine append_law (.tmp 19) (.tmp 20) rfl (.slice (some ⟨w0.heap.size, 0, none⟩) 0 0) _ [] bs g rfl rfl rfl ((own_empty w0).moves ((Moves.refl [] _).alloc _) (by simp)) (hb0.moves (((Moves.refl [] w0).alloc (.cells #[] 5)).alloc (.cells #[.int .u8 2] 5)) (by simp)) hl1 ?_
            intro v2 w2 ho2 m2 hat2
            rw [List.nil_append] at ho2
            have hA2 := appended (((Moves.refl [] w0).alloc (.cells #[] 5)).alloc (.cells #[.int .u8 2] 5)) (fresh_empty w0) m2 hat2
            have hS1 := And.intro (hA2.1.cell c0) (And.intro (hA2.1.cell c1) (hA2.1.cell c2))
            show K _ _
            refine hK.out _ _ ?_ (fun hHeld => ?_)
            · exact hS1
            clear hK K
            try simp only [Act.put, List.setIfInBounds_toArray, List.set_cons_zero, List.set_cons_succ]
            have hX2 := hX.moves m2 (by simp [Value.ownBlock])
            have mX := hA2.1
            have fA := hA2.2
            refine wpAnyH_ready (rs := [4]) (by kernel_rfl) (by simp) ?_
            refine AllReadyH.cons_list (o := { dst := some 23, op := Op.call { callee := Callee.builtin Builtin.append, args := #[Operand.tmp 21, Operand.tmp 22], argTypes := #[23, 23] }, type := 23, pos := "ref.go:62", after := #[{ on := 2, ground := Ground.data }, { on := 3, ground := Ground.data }, { on := 2, ground := Ground.chain }], guard := none }) rfl (fun K hK => ?_) ?_
            · refine append_law (.tmp 21) (.tmp 22) rfl _ _ bs [2] _ rfl rfl rfl ho2 hX2 (hl2 _) ?_
              intro v4 w4 ho4 m4 hat4
              have hA4 := appended mX fA m4 hat4
              have hS1 := And.intro (hA4.1.cell c0) (And.intro (hA4.1.cell c1) (hA4.1.cell c2))
              have k0 := hS1.1
              have k1 := hS1.2.1
              have k2 := hS1.2.2
              have M4 := hm0.then hA4.1
              have hv4 := (hc0.moves hA4.1 (by simp))
              show K _ _
              refine hK.out _ _ ?_ (fun hHeld => ?_)
              · exact hS1
              clear hK K
              try simp only [Act.put, List.setIfInBounds_toArray, List.set_cons_zero, List.set_cons_succ]
              refine wpAnyH_ready (rs := [7]) (by kernel_rfl) (by simp) ?_
              refine AllReadyH.cons (o := { dst := some 26, op := Op.call { callee := Callee.value (Operand.func 60), args := #[Operand.tmp 23, Operand.tmp 25], argTypes := #[23, 55] }, type := 23, pos := "ref.go:62", after := #[{ on := 4, ground := Ground.data }, { on := 6, ground := Ground.data }, { on := 4, ground := Ground.chain }], guard := none }) rfl (fun K hK => ?_) AllReadyH.nil
              go_simp
              (go_at_call 60; refine (rfloat_w _ _ _ n _ ho4.isB (hl4 _) hf).mono ?_; rintro _ w5 ⟨v5, rfl, ho5, m5, f5⟩; rw [HE.out] at ho5)
              refine hK.out _ _ ?_ (fun hHeld => ?_)
              · exact ⟨m5.cell k0, m5.cell k1, m5.cell k2⟩
              clear hK K
              try simp only [Act.put, List.setIfInBounds_toArray, List.set_cons_zero, List.set_cons_succ]
              refine wpAnyH_take (i := 8) (oi := { dst := some 4, op := Op.assign (Operand.tmp 26), type := 23, pos := "ref.go:62", after := #[{ on := 7, ground := Ground.data }, { on := 7, ground := Ground.chain }, { on := 0, ground := Ground.phase }, { on := 1, ground := Ground.phase }, { on := 2, ground := Ground.phase }, { on := 3, ground := Ground.phase }, { on := 4, ground := Ground.phase }, { on := 5, ground := Ground.phase }, { on := 6, ground := Ground.phase }, { on := 7, ground := Ground.phase }], guard := none }) (v := ?_) rfl (by kernel_rfl) (by kernel_rfl) (by kernel_rfl) (fun _ _ _ h => h) (Or.inl ⟨by rfl, ?_⟩) (by assumption) ?_
              rotate_left
              · (intro w hSw; (try dsimp only at hSw); go_simp; try (with_reducible rfl))
              try simp only [Act.put, List.setIfInBounds_toArray, List.set_cons_zero, List.set_cons_succ]
              refine wpAnyH_done (by kernel_rfl) ?_ _
              refine NoPanic.normal ?_
              go_wp2
              go_ret
              exact ⟨_, rfl, ho5, M4.then m5, fun j hj => Nat.le_trans M4.size (f5 j hj)⟩
            · exact AllReadyH.nil
          · exact AllReadyH.nil
        · exact AllReadyH.nil
    · refine AllReadyH.cons (o := { dst := some 22, op := Op.buildSlice 23 1 #[(0, Operand.const (Value.int IntKind.u8 2))], type := 23, pos := "ref.go:62", after := #[], guard := none }) rfl (fun K hK => ?_) ?_
      · go_simp
        refine hK.out _ _ ?_ (fun hHeld => ?_)
        · go_keep
        clear hK K
        try simp only [Act.put, List.setIfInBounds_toArray, List.set_cons_zero, List.set_cons_succ]
        refine wpAnyH_ready (rs := [0]) (by kernel_rfl) (by simp) ?_
        refine AllReadyH.cons (o := { dst := some 19, op := Op.buildSlice 23 0 #[], type := 23, pos := "ref.go:62", after := #[], guard := none }) rfl (fun K hK => ?_) ?_
        · go_simp
          refine hK.out _ _ ?_ (fun hHeld => ?_)
          · go_keep
          clear hK K
          try simp only [Act.put, List.setIfInBounds_toArray, List.set_cons_zero, List.set_cons_succ]
          have eS : (w0.alloc (.cells #[.int .u8 2] 5)).heap.size = w0.heap.size + 1 := by simp
          have hX := (has_new w0 2).moves ((Moves.refl [] _).alloc (.cells #[] 5)) (by simp)
          have hE := own_empty (w0.alloc (.cells #[.int .u8 2] 5))
          have fE : Fresh w0 (.slice (some ⟨w0.heap.size + 1, 0, none⟩) 0 0) := fun k hk => by simp [Value.ownBlock] at hk; omega
          rw [eS] at hE
          refine wpAnyH_ready (rs := [2]) (by kernel_rfl) (by simp) ?_
          refine AllReadyH.cons_list (o := { dst := some 21, op := Op.call { callee := Callee.builtin Builtin.append, args := #[Operand.tmp 19, Operand.tmp 20], argTypes := #[23, 23] }, type := 23, pos := "ref.go:62", after := #[{ on := 0, ground := Ground.data }, { on := 1, ground := Ground.data }], guard := none }) rfl (fun K hK => ?_) ?_
          · refine append_law (.tmp 19) (.tmp 20) rfl (.slice (some ⟨w0.heap.size + 1, 0, none⟩) 0 0) _ [] bs g rfl rfl rfl hE (hb0.moves (((Moves.refl [] w0).alloc (.cells #[.int .u8 2] 5)).alloc (.cells #[] 5)) (by simp)) hl1 ?_
            intro v2 w2 ho2 m2 hat2
            rw [List.nil_append] at ho2
            have hA2 := appended (((Moves.refl [] w0).alloc (.cells #[.int .u8 2] 5)).alloc (.cells #[] 5)) fE m2 hat2
            have hS1 := And.intro (hA2.1.cell c0) (And.intro (hA2.1.cell c1) (hA2.1.cell c2))
            show K _ _
            refine hK.out _ _ ?_ (fun hHeld => ?_)
            · exact hS1
            clear hK K
            try simp only [Act.put, List.setIfInBounds_toArray, List.set_cons_zero, List.set_cons_succ]
            have hX2 := hX.moves m2 (by simp [Value.ownBlock])
            have mX := hA2.1
            have fA := hA2.2
            refine wpAnyH_ready (rs := [4]) (by kernel_rfl) (by simp) ?_
            refine AllReadyH.cons_list (o := { dst := some 23, op := Op.call { callee := Callee.builtin Builtin.append, args := #[Operand.tmp 21, Operand.tmp 22], argTypes := #[23, 23] }, type := 23, pos := "ref.go:62", after := #[{ on := 2, ground := Ground.data }, { on := 3, ground := Ground.data }, { on := 2, ground := Ground.chain }], guard := none }) rfl (fun K hK => ?_) ?_
            · refine append_law (.tmp 21) (.tmp 22) rfl _ _ bs [2] _ rfl rfl rfl ho2 hX2 (hl2 _) ?_
              intro v4 w4 ho4 m4 hat4
              have hA4 := appended mX fA m4 hat4
              have hS1 := And.intro (hA4.1.cell c0) (And.intro (hA4.1.cell c1) (hA4.1.cell c2))
              have k0 := hS1.1
              have k1 := hS1.2.1
              have k2 := hS1.2.2
              have M4 := hm0.then hA4.1
              have hv4 := (hc0.moves hA4.1 (by simp))
              show K _ _
              refine hK.out _ _ ?_ (fun hHeld => ?_)
              · exact hS1
              clear hK K
              try simp only [Act.put, List.setIfInBounds_toArray, List.set_cons_zero, List.set_cons_succ]
              refine wpAnyH_ready (rs := [7]) (by kernel_rfl) (by simp) ?_
              refine AllReadyH.cons (o := { dst := some 26, op := Op.call { callee := Callee.value (Operand.func 60), args := #[Operand.tmp 23, Operand.tmp 25], argTypes := #[23, 55] }, type := 23, pos := "ref.go:62", after := #[{ on := 4, ground := Ground.data }, { on := 6, ground := Ground.data }, { on := 4, ground := Ground.chain }], guard := none }) rfl (fun K hK => ?_) AllReadyH.nil
              go_simp
              (go_at_call 60; refine (rfloat_w _ _ _ n _ ho4.isB (hl4 _) hf).mono ?_; rintro _ w5 ⟨v5, rfl, ho5, m5, f5⟩; rw [HE.out] at ho5)
              refine hK.out _ _ ?_ (fun hHeld => ?_)
              · exact ⟨m5.cell k0, m5.cell k1, m5.cell k2⟩
              clear hK K
              try simp only [Act.put, List.setIfInBounds_toArray, List.set_cons_zero, List.set_cons_succ]
              refine wpAnyH_take (i := 8) (oi := { dst := some 4, op := Op.assign (Operand.tmp 26), type := 23, pos := "ref.go:62", after := #[{ on := 7, ground := Ground.data }, { on := 7, ground := Ground.chain }, { on := 0, ground := Ground.phase }, { on := 1, ground := Ground.phase }, { on := 2, ground := Ground.phase }, { on := 3, ground := Ground.phase }, { on := 4, ground := Ground.phase }, { on := 5, ground := Ground.phase }, { on := 6, ground := Ground.phase }, { on := 7, ground := Ground.phase }], guard := none }) (v := ?_) rfl (by kernel_rfl) (by kernel_rfl) (by kernel_rfl) (fun _ _ _ h => h) (Or.inl ⟨by rfl, ?_⟩) (by assumption) ?_
              rotate_left
              · (intro w hSw; (try dsimp only at hSw); go_simp; try (with_reducible rfl))
              try simp only [Act.put, List.setIfInBounds_toArray, List.set_cons_zero, List.set_cons_succ]
              refine wpAnyH_done (by kernel_rfl) ?_ _
              refine NoPanic.normal ?_
              go_wp2
              go_ret
              exact ⟨_, rfl, ho5, M4.then m5, fun j hj => Nat.le_trans M4.size (f5 j hj)⟩
            · exact AllReadyH.nil
          · exact AllReadyH.nil
        · exact AllReadyH.nil
      · exact AllReadyH.nil
  · rw [venc_other (by exact e)] at hE
    have HE : Hid (bs ++ [0] = E) := hE
    have t1 : (k == 1) = false := by simpa using z1
    have t2 : (k == 2) = false := by simpa using z2
    clear e hE z1 z2
    have hm0 : Moves [] w (w.alloc (.cells #[.int .i64 k, .slice ad len cap, .float .f64 n] 61)) := (Moves.refl _ _).alloc _
    have esz : (w.alloc (.cells #[.int .i64 k, .slice ad len cap, .float .f64 n] 61)).heap.size = w.heap.size + 1 := by simp
    have ho0 := own_empty (w.alloc (.cells #[.int .i64 k, .slice ad len cap, .float .f64 n] 61))
    have hf0 := fresh_empty (w.alloc (.cells #[.int .i64 k, .slice ad len cap, .float .f64 n] 61))
    rw [esz] at ho0 hf0
    go_enter Try.func24, Try.ntmps24
    go_wp2_with (first | (at_builtin; refine append_law (.tmp 27) (.tmp 28) rfl _ _ [] bs g rfl rfl rfl ho0 (hb.moves (hm0.alloc _) (by simp)) hl1 ?_; intro v2 w2 ho2 m2 hat2; rw [List.nil_append] at ho2; have hA2 := appended ((Moves.refl [] _).alloc (.cells #[] 5)) hf0 m2 hat2) | (at_builtin; refine append_law (.tmp 29) (.tmp 30) rfl _ _ bs [0] _ rfl rfl rfl (ho2.moves ((Moves.refl [] _).alloc _) (by simp)) (has_new w2 0) (hl2 _) ?_; intro v3 w3 ho3 m3 hat3; have hA3 := appended (hA2.1.alloc _) hA2.2 m3 hat3))
    go_ret
    rw [HE.out] at ho3
    exact ⟨_, rfl, ho3, hm0.then hA3.1, fun j hj => Nat.le_trans hm0.size (hA3.2 j hj)⟩
end Go.Proofs.Ytdngndkdkbggkaa
