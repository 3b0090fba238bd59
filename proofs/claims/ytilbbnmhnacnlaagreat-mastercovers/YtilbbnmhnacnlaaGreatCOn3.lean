/- ours -/
import Derived.Test.YtilbbnmhnacnlaaGreatCOn2
namespace Go.Proofs.YtilbbnmhnacnlaaGreat
open Go.RowKit

theorem three_info {w : World} {p : Nat} {x0 x1 x2 : Value} {t : TypeId} (h : w.heap[p]? = some (.cells #[x0, x1, x2] t (0, 0))) (c0 c1 c2 : Value) :
    (((w.setCell ⟨p, 0, none⟩ c0).setCell ⟨p, 1, none⟩ c1).setCell ⟨p, 2, none⟩ c2).heap[p]? = some (.cells #[c0, c1, c2] t (0, 0)) ∧ Moves [p] w (((w.setCell ⟨p, 0, none⟩ c0).setCell ⟨p, 1, none⟩ c1).setCell ⟨p, 2, none⟩ c2) :=
  ⟨heap_set (i := 2) (heap_set (i := 1) (heap_set (i := 0) h c0) c1) c2, ((moves_set w p 0 c0).then (moves_set _ p 1 c1)).then (moves_set _ p 2 c2)⟩

theorem three_of {α : Type} : ∀ {l : List α}, l.length = 3 → ∃ a b c, l = [a, b, c]
  | [a, b, c], _ => ⟨a, b, c, rfl⟩

theorem GrowT.set {W w : World} {g n cap : Nat} {xs : List Pt} (h : GrowT W w (.slice (some ⟨g, 0, none⟩) n cap) xs) {i : Nat} (hi : i < xs.length) (y : Pt) :
    GrowT W (((w.setCell ⟨g, i * 3, none⟩ (.int .i64 y.c)).setCell ⟨g, i * 3 + 1, none⟩ (.int .i64 y.s)).setCell ⟨g, i * 3 + 2, none⟩ (.string y.a)) (.slice (some ⟨g, 0, none⟩) n cap) (xs.set i y) ∧ (∃ v0 v1 v2, w.cell? ⟨g, i * 3, none⟩ = some v0 ∧ w.cell? ⟨g, i * 3 + 1, none⟩ = some v1 ∧ w.cell? ⟨g, i * 3 + 2, none⟩ = some v2) ∧ (w.frozen? ⟨g, i * 3, none⟩ = false ∧ w.frozen? ⟨g, i * 3 + 1, none⟩ = false ∧ w.frozen? ⟨g, i * 3 + 2, none⟩ = false) ∧ Moves [g] w (((w.setCell ⟨g, i * 3, none⟩ (.int .i64 y.c)).setCell ⟨g, i * 3 + 1, none⟩ (.int .i64 y.s)).setCell ⟨g, i * 3 + 2, none⟩ (.string y.a)) := by
  have hc0 : n = xs.length ∧ n ≤ cap := by
    obtain ⟨_, _, _, e0, hn, hc⟩ := h.open
    simp at e0
    have := hn.out
    omega
  obtain ⟨g', cur, css, e0, hWg, hg, hnx, hcap, hmax, hcs, hcur, h2, hlen, hall⟩ := h.own (by omega)
  simp at e0
  subst e0
  have hic : i < css.length := by omega
  have hs := heap_set (i := i * 3 + 2) (heap_set (i := i * 3 + 1) (heap_set (i := i * 3) hg (.int .i64 y.c)) (.int .i64 y.s)) (.string y.a)
  refine ⟨?_, ⟨cur[i * 3]'(by omega), cur[i * 3 + 1]'(by omega), cur[i * 3 + 2]'(by omega), by simp [World.cell?, hg], by simp [World.cell?, hg], by simp [World.cell?, hg]⟩, ⟨by simp [World.frozen?, hg], by simp [World.frozen?, hg], by simp [World.frozen?, hg]⟩, ((moves_set w g _ _).then (moves_set _ g _ _)).then (moves_set _ g _ _)⟩
  have hsplit : css = css.take i ++ ([css[i]] ++ css.drop (i + 1)) := by simp
  have hAl : (css.take i).flatten.length = i * 3 := by rw [flatten_length (fun c hc => h2 c (List.mem_of_mem_take hc)), List.length_take]; congr 1; omega
  obtain ⟨x0, x1, x2, hci⟩ : ∃ x0 x1 x2, css[i] = [x0, x1, x2] := by
    exact three_of (h2 css[i] (List.getElem_mem hic))
  refine GrowT.mk' (css := css.set i [.int .i64 y.c, .int .i64 y.s, .string y.a]) hs hWg (by rw [List.length_set]; exact hlen) hcap hmax (by simpa using hcs) ?_ ?_ ?_
  · rw [Array.toList_setIfInBounds, Array.toList_setIfInBounds, Array.toList_setIfInBounds, List.take_set, List.take_set, List.take_set, hcur]
    have e2 : css.set i [.int .i64 y.c, .int .i64 y.s, .string y.a] = css.take i ++ ([[.int .i64 y.c, .int .i64 y.s, .string y.a]] ++ css.drop (i + 1)) := by
      rw [List.set_eq_take_append_cons_drop, if_pos hic]; rfl
    rw [e2]
    conv => lhs; rw [hsplit]
    rw [List.flatten_append, List.flatten_append, List.flatten_append, List.flatten_append, hci]
    simp only [List.flatten_cons, List.flatten_nil, List.append_nil]
    rw [List.set_append_right _ _ (by omega), List.set_append_right _ _ (by omega), List.set_append_right _ _ (by omega), hAl]
    have k0 : i * 3 - i * 3 = 0 := by omega
    have k1 : i * 3 + 1 - i * 3 = 1 := by omega
    have k2 : i * 3 + 2 - i * 3 = 2 := by omega
    rw [k0, k1, k2]
    rfl
  · intro c hc
    rcases List.mem_or_eq_of_mem_set hc with hc | rfl
    · exact h2 c hc
    · rfl
  · exact All2.set (R := ToldC _) (show ToldC _ _ y from rfl) i (hall.mono fun _ _ k => ToldC.any k)

theorem CaTo.put {W w w1 w2 : World} {p : Nat} {v0 v1 : Value} {xs ys : List Pt} (hp : w.heap[p]? = some (.cells #[v0] 108 (0, 0))) (h0 : GrowT W w v0 xs) (m1 : Moves [] w w1) (h : InsertedT W w1 w2 v0 ys (.returned v1)) : CaTo W w p v0.ownBlock (w2.setCell ⟨p, 0, none⟩ v1) v1.ownBlock ys := by
  obtain ⟨ad, n, cap, e, hG, mv, st, hb⟩ := h
  simp at e
  subst e
  have hap : p ∉ v0.ownBlock.toList := CaIs.apart ⟨_, hp, rfl, h0⟩
  have hp2 := mv.at (m1.at hp (by simp)) hap
  have hlt := lt_of_block hp
  have ms := moves_set w2 p 0 (.slice ad n cap)
  have m12 : Moves v0.ownBlock.toList w w2 := (m1.mono (by simp)).then mv
  have hbk : ∀ k, (Value.slice ad n cap).ownBlock = some k → k ∉ [p] := by
    intro k hk hm
    simp at hm
    subst hm
    rcases hb with e | ⟨k', e, hk'⟩
    · rw [e] at hk; exact hap (by simp [hk])
    · rw [e] at hk
      simp at hk
      have := m1.size
      omega
  refine ⟨⟨_, set_one hp2 _, rfl, hG.moves ms hbk⟩, (m12.mono (by simp +contextual)).then (ms.mono (by simp)), ?_⟩
  rcases hb with e | ⟨k', e, hk'⟩
  · exact .inl e
  · exact .inr ⟨k', e, by have := m1.size; omega⟩

set_option maxRecDepth 100000 in
theorem onew_w (w : World) : Calls Tryz.prog 22 #[] w fun e w' => e = .returned (.pointer (some ⟨w.heap.size, 0, none⟩)) ∧ CaIs w w' w.heap.size none [] ∧ Moves [] w w' := by
  go_enter Tryz.func22, Tryz.ntmps22
  go_wp
  go_ret
  have b := boxesW (Moves.refl [] (w.alloc (.cells #[.slice none 0 0] 108)))
  exact ⟨rfl, ⟨_, b.1, rfl, GrowT.nil w _⟩, b.2⟩
def noT : Pt := ⟨0, 0, ⟨#[]⟩⟩
def ofT (xs : List Pt) (c : Int) : Pt := (xs.find? (fun x => decide (x.c = c))).getD noT
theorem ofT_yes {xs : List Pt} {c : Int} {i : Nat} (h : PlaceT xs c i) (hh : hasT xs c i = true) : ∃ x, xs[i]? = some x ∧ x.c = c ∧ ofT xs c = x := by
  unfold hasT at hh
  split at hh
  · rename_i x hx
    have hxc : x.c = c := of_decide_eq_true hh
    refine ⟨x, hx, hxc, ?_⟩
    unfold ofT
    have hf : xs.find? (fun x => decide (x.c = c)) = some x := by
      rw [List.find?_eq_some_iff_getElem]
      refine ⟨by simp [hxc], i, (List.getElem?_eq_some_iff.1 hx).1, (List.getElem?_eq_some_iff.1 hx).2, fun j hj => ?_⟩
      have := h.lo j _ (List.getElem?_eq_getElem (by have := (List.getElem?_eq_some_iff.1 hx).1; omega)) hj
      simp
      omega
    rw [hf]
    rfl
  · simp at hh
theorem ofT_no {xs : List Pt} (hr : RiseT xs) {c : Int} {i : Nat} (h : PlaceT xs c i) (hh : hasT xs c i = false) : ofT xs c = noT ∧ ∀ x ∈ xs, x.c ≠ c := by
  have hn : ∀ x ∈ xs, x.c ≠ c := by
    intro x hx e
    obtain ⟨k, hk, rfl⟩ := List.getElem_of_mem hx
    have hk' := List.getElem?_eq_getElem hk
    by_cases hki : k < i
    · have := h.lo k _ hk' hki
      omega
    · by_cases hke : k = i
      · subst hke
        unfold hasT at hh
        rw [hk'] at hh
        simp [e] at hh
      · have hil : i < xs.length := by omega
        have h1 := h.hi i _ (List.getElem?_eq_getElem hil) (Nat.le_refl _)
        have h2 := hr.lt (List.getElem?_eq_getElem hil) hk' (by omega)
        omega
  refine ⟨?_, hn⟩
  unfold ofT
  have hf : xs.find? (fun x => decide (x.c = c)) = none := by
    rw [List.find?_eq_none]
    intro x hx
    simp [hn x hx]
  rw [hf]
  rfl

theorem Tryz.size173 : (Tryz.prog.info? 173).map (·.size) = some 3 := by kernel_rfl
theorem ret_told {fn : Func} {p : Tmp} (h : fn.results = #[.cell p 173]) (tmps : Array Value) (w : World) (g : Nat) (x y z : Value) (hp : tmps.getD p undef = .pointer (some ⟨g, 0, none⟩)) (hg : w.heap[g]? = some (.cells #[x, y, z] 173 (0, 0))) :
    (results fn tmps).run Tryz.prog w = .ok (.agg #[x, y, z]) w :=
  results_cell_row h tmps w g 173 _ (0, 0) _ hp hg Tryz.underlying173 rfl Tryz.size173

set_option maxRecDepth 100000 in
set_option maxHeartbeats 2000000 in
theorem olast_w (W w : World) (p : Nat) (a : Option Nat) (xs : List Pt) (c : Int) (h : CaIs W w p a xs) (hr : RiseT xs) (hl : xs.length ≤ 1000000) :
    Calls Tryz.prog 102 #[.pointer (some ⟨p, 0, none⟩), .int .i64 c] w fun e w' => e = .returned (.agg #[.int .i64 (ofT xs c).c, .int .i64 (ofT xs c).s, .string (ofT xs c).a]) ∧ Moves [] w w' := by
  obtain ⟨i, hP⟩ := placeT_ex xs hr c
  have m0 : Moves [] w (w.alloc (.cells #[.int .i64 0, .int .i64 0, .string ⟨#[]⟩] 173)) := (Moves.refl _ _).alloc _
  have hb0 := heap_alloc_new w (.cells #[.int .i64 0, .int .i64 0, .string ⟨#[]⟩] 173)
  have hpl := oplace_w W _ p a xs c i (h.moves0 m0) hr hl hP
  obtain ⟨Q, hQ⟩ : ∃ Q, w.heap.size = Q := ⟨_, rfl⟩
  rw [hQ] at hb0
  cases hh : hasT xs c i with
  | true =>
    obtain ⟨x, hx, -, hof⟩ := ofT_yes hP hh
    rw [hof]
    rw [hh] at hpl
    obtain ⟨v, hp, _, hG⟩ := h
    obtain ⟨ad, n, cap, rfl, hn, hcap⟩ := hG.open
    obtain ⟨g, off, rfl, y0, y1, y2⟩ := hG.at.at hx
    have hin : (i : Int) < n := by have := (List.getElem?_eq_some_iff.1 hx).1; have := hn.out; omega
    clear hG hn
    go_enter Tryz.func102, Tryz.ntmps102
    go_wp2_with (go_at_call 130; refine hpl.mono ?_; rintro _ w2 ⟨rfl, m2⟩; have m02 := m0.then m2; have hb2 := m2.at hb0 (by simp); obtain ⟨e0, _⟩ := one_cell (m02.at hp (by simp)); obtain ⟨d0, d1, d2, f0, f1, f2⟩ := three_cells hb2; have z0 := m02.cell y0; have z1 := m02.cell y1; have z2 := m02.cell y2)
    obtain ⟨t1, t2⟩ := three_info hb2 (.int .i64 x.c) (.int .i64 x.s) (.string x.a)
    try simp only [Exit.inBlock, Exit.then]
    refine bodyPost_ret (ret_told rfl _ _ _ _ _ _ rfl t1) rfl ⟨rfl, m02.trans t2 (fun k hk => .inr (by simp at hk; omega))⟩
  | false =>
    obtain ⟨hof, _⟩ := ofT_no hr hP hh
    rw [hof]
    rw [hh] at hpl
    unfold noT
    dsimp only
    go_enter Tryz.func102, Tryz.ntmps102
    go_wp2_with (go_at_call 130; refine hpl.mono ?_; rintro _ w2 ⟨rfl, m2⟩; have m02 := m0.then m2; have hb2 := m2.at hb0 (by simp); obtain ⟨d0, d1, d2, f0, f1, f2⟩ := three_cells hb2)
    obtain ⟨t1, t2⟩ := three_info hb2 (.int .i64 0) (.int .i64 0) (.string ⟨#[]⟩)
    try simp only [Exit.inBlock, Exit.then]
    refine bodyPost_ret (ret_told rfl _ _ _ _ _ _ rfl t1) rfl ⟨rfl, m02.trans t2 (fun k hk => .inr (by simp at hk; omega))⟩

def lookT (x : Pt) (q : Int) : Int := if q < 1 ∨ q < x.s then 3 else if q = x.s then 2 else 1
def sayT (x : Pt) (q : Int) : List Nat := if lookT x q = 2 then zbs x.a else []

set_option maxRecDepth 100000 in
set_option maxHeartbeats 4000000 in
theorem olook_w (W w : World) (p : Nat) (a : Option Nat) (xs : List Pt) (c q : Int) (h : CaIs W w p a xs) (hr : RiseT xs) (hl : xs.length ≤ 1000000) :
    Calls Tryz.prog 65 #[.pointer (some ⟨p, 0, none⟩), .int .i64 c, .int .i64 q] w fun e w' => ∃ v g, e = .returned (.tuple #[v, .int .i64 (lookT (ofT xs c) q)]) ∧ IsB w' g v (sayT (ofT xs c) q) ∧ Moves [] w w' ∧ w.heap.size ≤ g := by
  have hla := olast_w W w p a xs c h hr hl
  obtain ⟨x, hx⟩ : ∃ x, ofT xs c = x := ⟨_, rfl⟩
  rw [hx] at hla ⊢
  obtain ⟨xc, xs', xa⟩ := x
  dsimp only at hla
  have nilB : ∀ w' : World, IsB w' w.heap.size (.slice none 0 0) [] := fun w' => ⟨_, _, _, rfl, rfl, Nat.le_refl _, fun _ => rfl, .inl rfl⟩
  clear h hx
  by_cases h1 : q < 1
  · have e1 : lookT ⟨xc, xs', xa⟩ q = 3 := by unfold lookT; rw [if_pos (.inl h1)]
    have e2 : sayT ⟨xc, xs', xa⟩ q = [] := by unfold sayT; rw [e1]; rfl
    rw [e1, e2]
    clear e1 e2
    go_enter Tryz.func65, Tryz.ntmps65
    go_wp2_with (go_at_call 102; refine hla.mono ?_; rintro _ w2 ⟨rfl, m2⟩)
    all_goals go_ret2
    all_goals exact ⟨_, w.heap.size, rfl, nilB _, m2.alloc _, Nat.le_refl _⟩
  · by_cases h2 : q < xs'
    · have e1 : lookT ⟨xc, xs', xa⟩ q = 3 := by unfold lookT; rw [if_pos (.inr h2)]
      have e2 : sayT ⟨xc, xs', xa⟩ q = [] := by unfold sayT; rw [e1]; rfl
      rw [e1, e2]
      clear e1 e2
      go_enter Tryz.func65, Tryz.ntmps65
      go_wp2_with (go_at_call 102; refine hla.mono ?_; rintro _ w2 ⟨rfl, m2⟩)
      all_goals go_ret2
      all_goals exact ⟨_, w.heap.size, rfl, nilB _, m2.alloc _, Nat.le_refl _⟩
    · by_cases h3 : q = xs'
      · have e1 : lookT ⟨xc, xs', xa⟩ q = 2 := by unfold lookT; rw [if_neg (by rintro (h | h); exact h1 h; exact h2 h), if_pos h3]
        have e2 : sayT ⟨xc, xs', xa⟩ q = zbs xa := by unfold sayT; rw [e1]; rfl
        rw [e1, e2]
        clear e1 e2 nilB
        subst h3
        go_enter Tryz.func65, Tryz.ntmps65
        go_wp2_with (go_at_call 102; refine hla.mono ?_; rintro _ w2 ⟨rfl, m2⟩; obtain ⟨g3, cap3, w3, hrun3, hB3, m3, hg3⟩ := zbytes_run (w2.alloc (.cells #[.int .i64 xc, .int .i64 q, .string xa] 173)) xa)
        all_goals go_ret2
        all_goals exact ⟨_, g3, rfl, hB3, (m2.alloc _).then m3, by have := m2.size; simp at hg3; omega⟩
      · have e1 : lookT ⟨xc, xs', xa⟩ q = 1 := by unfold lookT; rw [if_neg (by rintro (h | h); exact h1 h; exact h2 h), if_neg h3]
        have e2 : sayT ⟨xc, xs', xa⟩ q = [] := by unfold sayT; rw [e1]; rfl
        rw [e1, e2]
        clear e1 e2
        go_enter Tryz.func65, Tryz.ntmps65
        go_wp2_with (go_at_call 102; refine hla.mono ?_; rintro _ w2 ⟨rfl, m2⟩)
        all_goals go_ret2
        all_goals exact ⟨_, w.heap.size, rfl, nilB _, m2.alloc _, Nat.le_refl _⟩

end Go.Proofs.YtilbbnmhnacnlaaGreat
