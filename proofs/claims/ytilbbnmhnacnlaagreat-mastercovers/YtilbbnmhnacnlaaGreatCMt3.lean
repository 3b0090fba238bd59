/- ours -/
import Derived.Test.YtilbbnmhnacnlaaGreatCB29
namespace Go.Proofs.YtilbbnmhnacnlaaGreat
open Go.RowKit Go.Shelf
attribute [local go_sem] Oper.semAt_some

def OwnMs (B : Nat) (w : World) (v : Value) (ms : List (List Ptb)) : Prop := (∃ us, w.ownsRow 0 51 1 v us.length us ∧ us.length = ms.length ∧ (∀ u ∈ us, u.oneCell' = true) ∧ ∀ (k : Nat) m, ms[k]? = some m → ∃ u, us[k]? = some u ∧ OwnT w u m ∧ ∀ k, u.ownBlock = some k → B ≤ k) ∧ ∀ k, v.ownBlock = some k → B ≤ k
theorem OwnMs.nil (B : Nat) (w : World) : OwnMs B w (.slice none 0 0) [] := ⟨⟨[], World.ownsRow_nil _ _ _ _, rfl, by simp, by simp⟩, by simp [Value.ownBlock]⟩
theorem OwnMs.open {B : Nat} {w : World} {v : Value} {ms : List (List Ptb)} (h : OwnMs B w v ms) : ∃ ad n cap, v = .slice ad n cap ∧ Hid (n = ms.length) := by
  obtain ⟨⟨us, h1, h2, _⟩, _⟩ := h
  rcases h1.2 with ⟨rfl, h0⟩ | ⟨g', cap, cur, rfl, _⟩
  · exact ⟨_, _, _, rfl, by unfold Hid; omega⟩
  · exact ⟨_, _, _, rfl, h2⟩
theorem OwnMs.ms {B : Nat} {w : World} {v : Value} {ms : List (List Ptb)} (h : OwnMs B w v ms) : MsAt B w v ms := by
  obtain ⟨⟨us, h1, h2, h3, h4⟩, hf⟩ := h
  rcases h1.2 with ⟨rfl, h0⟩ | ⟨g, cap, cur, rfl, hb, hgg, k1, k2, k3, k4⟩
  · have : ms = [] := List.eq_nil_of_length_eq_zero (by omega)
    subst this
    exact ⟨none, 0, 0, rfl, rfl, Nat.le_refl _, fun _ => rfl, by simp⟩
  · refine ⟨_, _, cap, rfl, h2, k1, fun h => by simp at h, fun k m hm => ?_⟩
    obtain ⟨u, e1, e2, e3⟩ := h4 k m hm
    obtain ⟨gu, q1, q2⟩ := e2.ex e3
    refine ⟨g, 0, u, gu, rfl, hf g rfl, ?_, q1, q2⟩
    have hlt := (List.getElem?_eq_some_iff.1 e1).1
    rw [← k4, List.getElem?_take, if_pos (by omega)] at e1
    simp only [World.cell?, hgg, Nat.zero_add]
    simpa using e1
theorem OwnT.blk {w : World} {v : Value} {xs : List Ptb} (h : OwnT w v xs) {k : Nat} (hk : v.ownBlock = some k) : ∃ cur, w.heap[k]? = some (.cells cur 54 (0, 0)) := by
  rcases h.2 with ⟨rfl, _⟩ | ⟨g, cap, cur, rfl, hb, hgg, _⟩
  · simp [Value.ownBlock] at hk
  · simp [Value.ownBlock] at hk
    subst hk
    exact ⟨cur, hgg⟩
theorem OwnT.kept {W W' : World} {row : Option Nat} {v : Value} {xs : List Ptb} (h : OwnT W v xs) (hg : W.grownBy W' row) (hrow : ∀ r, row = some r → ∃ o : Obj, W.heap[r]? = some o ∧ o.isCells = false) : OwnT W' v xs := by
  refine World.ownsRow.kept h hg ?_
  rcases h.2 with ⟨rfl, _⟩ | ⟨g, cap, cur, rfl, _, hgb, _⟩
  · exact .inl rfl
  · refine .inr fun e' => ?_
    obtain ⟨o, ho, hc⟩ := hrow g (by simpa [Value.ownBlock] using e'.symm)
    rw [hgb] at ho; cases ho; cases hc
theorem ownMs_own {β : Type} (B P : Nat) (t : TypeId) (f : β → List (List Ptb)) : _root_.Go.Own (fun s W => ∃ v, Boxed W P t v ∧ OwnMs B W v (f s)) := by
  rintro s X Y row ⟨v, hv, ⟨us, hr, h2, h3, h4⟩, hf⟩ hg hrow
  refine ⟨v, hv.kept hg (fun e' => ?_), ⟨us, hr.kept hg ?_, h2, h3, fun k m hm => ?_⟩, hf⟩
  · obtain ⟨o, ho, hc⟩ := hrow P e'.symm
    rw [show X.heap[P]? = _ from hv] at ho; cases ho; cases hc
  · rcases hr.2 with ⟨rfl, _⟩ | ⟨g, cap, cur, rfl, _, hgb, _⟩
    · exact .inl rfl
    · refine .inr fun e' => ?_
      obtain ⟨o, ho, hc⟩ := hrow g (by simpa [Value.ownBlock] using e'.symm)
      rw [hgb] at ho; cases ho; cases hc
  · obtain ⟨u, e1, e2, e3⟩ := h4 k m hm
    exact ⟨u, e1, e2.kept hg hrow, e3⟩

theorem ms_info : (Tryz.prog.info? 51).map (fun i => (i.zero, i.size, i.bytes)) = some (some (.slice none 0 0), 1, 24) := by kernel_rfl
theorem ms_grow {B P : Nat} {W wC : World} {v u : Value} {ms : List (List Ptb)} {m : List Ptb} (hv : Boxed W P 102 v) (hO : OwnMs B W v ms) (hl : ms.length ≤ 1000) (hBW : B ≤ W.heap.size) (mC : Moves [] W wC) (hu : OwnT wC u m) (hgu : Fresh W u) :
    ∃ v' w2, (Builtin.append_ #[102, 102] 102 #[v, .slice (some ⟨wC.heap.size, 0, none⟩) 1 1]).run Tryz.prog (wC.alloc (.cells #[u] 51)) = .ok v' w2 ∧ (∃ ad n cap, v' = .slice ad n cap) ∧ Boxed w2 P 102 v ∧ Boxed (w2.setCell ⟨P, 0, none⟩ v') P 102 v' ∧ OwnMs B (w2.setCell ⟨P, 0, none⟩ v') v' (ms ++ [m]) ∧ Moves (P :: v.ownBlock.toList) W (w2.setCell ⟨P, 0, none⟩ v') ∧ ∀ k, v.ownBlock = some k → ∃ c t fz, W.heap[k]? = some (.cells c t fz) := by
  obtain ⟨⟨us, hr, h2, h3, h4⟩, hf⟩ := hO
  obtain ⟨i0, hi, hz0, hz1, hz2⟩ := info_parts ms_info
  have mA : Moves [] W (wC.alloc (.cells #[u] 51)) := mC.alloc _
  have hu1 : u.oneCell' = true := by obtain ⟨_, _, _, rfl, _⟩ := hu.open; rfl
  have hr2 : (wC.alloc (.cells #[u] 51)).ownsRow 0 51 1 v us.length us := by
    refine ⟨hr.1, ?_⟩
    rcases hr.2 with hn | ⟨g, cap, cur, rfl, hb, hgg, rest⟩
    · exact .inl hn
    · exact .inr ⟨g, cap, cur, rfl, hb, mA.at hgg (by simp), rest⟩
  have hsrc : ∀ j x, [u][j]? = some x → (wC.alloc (.cells #[u] 51)).cell? ((⟨wC.heap.size, 0, none⟩ : Addr).add j) = some x := by
    intro j x hj
    rw [add_at]
    simp only [World.cell?, heap_alloc_new, Nat.zero_add]
    simpa using hj
  obtain ⟨v', w2, hrun, k2, k3, _, k5⟩ := run_append_own_at (P := Tryz.prog) (wC.alloc (.cells #[u] 51)) 0 102 102 51 i0 (.slice none 0 0) 1 24 Tryz.underlying102 hi hz0 hz1 hz2 rfl (by decide) v us.length us hr2 ⟨wC.heap.size, 0, none⟩ 1 1 [u] rfl hsrc (by simpa using hu1) (by unfold maxLen; omega) (by omega) (by simp)
  have hblk : ∀ k, v.ownBlock = some k → ∃ c t fz, W.heap[k]? = some (.cells c t fz) := by
    intro k hk
    rcases hr.2 with ⟨rfl, _⟩ | ⟨g, cap, cur, rfl, hb, hgg, rest⟩
    · simp [Value.ownBlock] at hk
    · simp [Value.ownBlock] at hk
      subst hk
      exact ⟨_, _, _, hgg⟩
  have hneP : some P ≠ v.ownBlock := hv.not_row (by decide) hr
  have m1 : Moves v.ownBlock.toList (wC.alloc (.cells #[u] 51)) w2 := (Moves.refl _ _).grown k3 (fun k hk => .inl (by rw [hk]; simp))
  have M1 : Moves v.ownBlock.toList W w2 := (mA.mono (by simp)).then m1
  have hP : P ∉ v.ownBlock.toList := fun hm => hneP (Option.mem_toList.1 hm).symm
  have hv2 : Boxed w2 P 102 v := M1.at hv hP
  have hneP2 : some P ≠ v'.ownBlock := hv2.not_row (by decide) k2
  have ms1 := moves_set w2 P 0 v'
  have hf' : ∀ k, v'.ownBlock = some k → B ≤ k := by
    intro k hk
    rcases k5 with e | e
    · rw [e] at hk; exact hf k hk
    · rw [e] at hk
      simp at hk
      have := mC.size
      omega
  refine ⟨v', w2, hrun, ?_, hv2, hv2.set v', ⟨⟨us ++ [u], ?_, by simp [h2], ?_, ?_⟩, hf'⟩, (M1.mono (by simp +contextual)).then (ms1.mono (by simp)), hblk⟩
  · rcases k2.2 with ⟨rfl, _⟩ | ⟨g', cap, cur, rfl, _⟩
    · exact ⟨_, _, _, rfl⟩
    · exact ⟨_, _, _, rfl⟩
  · have : (us ++ [u]).length = us.length + 1 := by simp
    rw [this]
    refine ⟨k2.1, ?_⟩
    rcases k2.2 with hn | ⟨g, cap, cur, rfl, hb, hgg, rest⟩
    · exact .inl hn
    · exact .inr ⟨g, cap, cur, rfl, hb, ms1.at hgg (by simp [Value.ownBlock] at hneP2; simp; omega), rest⟩
  · intro x hx
    rcases List.mem_append.1 hx with hx | hx
    · exact h3 x hx
    · simp at hx; subst hx; exact hu1
  · have ap : ∀ {X : World} {u' : Value} {q : List Ptb}, OwnT X u' q → Moves v.ownBlock.toList X w2 → X.heap[P]? = some (.cells #[v] 102 (0, 0)) → (∀ k, v.ownBlock = some k → ∃ c, X.heap[k]? = some (.cells c 51 (0, 0))) → OwnT (w2.setCell ⟨P, 0, none⟩ v') u' q := by
      intro X u' q hq mX hPX hvX
      refine (hq.moves mX ?_).moves ms1 ?_
      · intro k hk hm
        obtain ⟨cur, hc⟩ := hq.blk hk
        obtain ⟨c, hc2⟩ := hvX k (Option.mem_toList.1 hm)
        rw [hc] at hc2
        simp at hc2
      · intro k hk hm
        obtain ⟨cur, hc⟩ := hq.blk hk
        simp at hm
        subst hm
        rw [hc] at hPX
        simp at hPX
    have hvW : ∀ k, v.ownBlock = some k → ∃ c, W.heap[k]? = some (.cells c 51 (0, 0)) := by
      intro k hk
      rcases hr.2 with ⟨rfl, _⟩ | ⟨g, cap, cur, rfl, hb, hgg, rest⟩
      · simp [Value.ownBlock] at hk
      · simp [Value.ownBlock] at hk
        subst hk
        exact ⟨_, hgg⟩
    intro k q hq
    by_cases hk : k < ms.length
    · rw [List.getElem?_append_left hk] at hq
      obtain ⟨u', e1, e2, e3⟩ := h4 k q hq
      exact ⟨u', by rw [List.getElem?_append_left (by omega)]; exact e1, ap e2 M1 hv hvW, e3⟩
    · rw [List.getElem?_append_right (by omega)] at hq
      have hk0 : k - ms.length = 0 := by
        have := (List.getElem?_eq_some_iff.1 hq).1
        simp at this
        omega
      rw [hk0] at hq
      simp at hq
      subst hq
      refine ⟨u, by rw [List.getElem?_append_right (by omega), h2, hk0]; rfl, ?_, fun k hk => by have := hgu k hk; omega⟩
      have mC2 : Moves v.ownBlock.toList wC w2 := (((Moves.refl [] wC).alloc _).mono (by simp)).then m1
      exact ap hu mC2 (mC.at hv (by simp)) (fun k hk => by obtain ⟨c, hc⟩ := hvW k hk; exact ⟨c, mC.at hc (by simp)⟩)

theorem ms_op {F : Fence} {n : Nat} {o : Oper} {a : Act} {K : Act → World → Prop} {Q : Exit → Act → World → Prop} {w : World} (s x : Operand)
    (ho : o.op = .call { callee := .builtin .append, args := #[s, x], argTypes := #[102, 102] }) (v u : Value) (hs : a.eval s = v) (hx : a.eval x = u) {v' : Value} {w' : World}
    (hr : (Builtin.append_ #[102, 102] o.type #[v, u]).run Tryz.prog w = .ok v' w') (hF : ∀ f, F.fn f) (hl : ∃ l, F.round = some l) (h : K (a.put o.dst v') w') : o.wpIn F n Tryz.prog a w K Q := by
  obtain ⟨l, hl⟩ := hl
  refine ⟨fun f _ => hF f, ?_⟩
  have e : (o.semAt F.round a.eval).run Tryz.prog w = .ok (.value v') w' := by
    rw [hl]
    rw [Oper.semAt_some l _ _ (by rw [ho]; simp)]
    unfold execOp
    simp only [ho, resolve, invoke, builtin, Sem.run_bind, Sem.run_pure, Result.andThen_ok, List.map_toArray, List.map_cons, List.map_nil, hs, hx, hr]
  rw [e]
  exact h

theorem MsAt.weak {B B' : Nat} {w : World} {v : Value} {ms : List (List Ptb)} (h : MsAt B w v ms) (hb : B' ≤ B) : MsAt B' w v ms := by
  obtain ⟨ad, n, cap, h1, h2, h3, h4, h5⟩ := h
  refine ⟨ad, n, cap, h1, h2, h3, h4, fun k x hx => ?_⟩
  obtain ⟨g, off, u, gu, e1, e2, e3, e4, e5⟩ := h5 k x hx
  exact ⟨g, off, u, gu, e1, by omega, e3, e4, by omega⟩
theorem MsAt.putD {B D : Nat} {w : World} {v : Value} {ms : List (List Ptb)} (h : MsAt B w v ms) {o o' : Obj} (hD : w.heap[D]? = some o) (ho : o.isCells = false := by rfl) : MsAt B (w.putObj D o') v ms := by
  obtain ⟨ad, n, cap, h1, h2, h3, h4, h5⟩ := h
  have hrow : ∀ r, some D = some r → ∃ o : Obj, w.heap[r]? = some o ∧ o.isCells = false := fun r e => by cases e; exact ⟨o, hD, ho⟩
  refine ⟨ad, n, cap, h1, h2, h3, h4, fun k x hx => ?_⟩
  obtain ⟨g, off, u, gu, e1, e2, e3, ⟨ad', n', cap', q1, q2, q3, q4, q5⟩, e5⟩ := h5 k x hx
  refine ⟨g, off, u, gu, e1, e2, cell_kept e3 (grownBy_putObj' w D o') hrow, ⟨ad', n', cap', q1, q2, q3, q4, fun j y hy => ?_⟩, e5⟩
  obtain ⟨off', r1, r2, r3, r4, r5⟩ := q5 j y hy
  exact ⟨off', r1, cell_kept r2 (grownBy_putObj' w D o') hrow, cell_kept r3 (grownBy_putObj' w D o') hrow, cell_kept r4 (grownBy_putObj' w D o') hrow, cell_kept r5 (grownBy_putObj' w D o') hrow⟩

def kth4 (xs : List Ptb) (k : Kth xs.length) : List Ptb := (xs.drop (k.1 * 4)).take 4
theorem kths_fours (xs : List Ptb) : (kths xs.length ((xs.length + 3) / 4)).map (kth4 xs) = fours xs := by
  have h : ∀ n, n ≤ (xs.length + 3) / 4 → (kths xs.length n).map (kth4 xs) = (fours xs).take n := by
    intro n
    induction n with
    | zero => intro _; rfl
    | succ n ih =>
      intro hn
      have hlt : n * 4 < xs.length := by omega
      rw [kths_succ hlt, List.map_append, ih (by omega), List.take_add_one, fours_get, if_pos hlt]
      rfl
  rw [h _ (Nat.le_refl _), List.take_of_length_le (by rw [fours_len]; omega)]
theorem kth_at {w : World} {b off n cap : Nat} {xs : List Ptb} (h : TbL w b (.slice (some ⟨b, off, none⟩) n cap) xs) (k : Kth xs.length) : TbL w b (kthV b off xs.length k) (kth4 xs k) := by
  refine ⟨_, _, _, rfl, ?_, Nat.le_refl _, fun h => by simp at h, ?_⟩
  · unfold kth4; simp
  · exact (h.len.2.2.2.dropN (k.1 * 4)).first 4
theorem kth4_len (xs : List Ptb) (k : Kth xs.length) : (kth4 xs k).length ≤ 1000 := by unfold kth4; simp; omega
theorem Moves.keeps {S : List Nat} {W W' : World} (m : Moves S W W') (hS : ∀ k ∈ S, ∃ c t fz, W.heap[k]? = some (.cells c t fz)) : KeepsOthers W W' :=
  ⟨m.size, fun k o hk ho => m.at hk (fun hm => by obtain ⟨c, t, fz, hc⟩ := hS k hm; rw [hc] at hk; cases hk; cases ho)⟩

set_option maxRecDepth 100000 in
set_option maxHeartbeats 4000000 in
theorem mtInMetas_w (w : World) (g : Nat) (v : Value) (xs : List Ptb) (h : TbL w g v xs) (hl : xs.length ≤ 1000) (hne : xs ≠ []) :
    Calls Tryz.prog 44 #[v] w fun e w' => ∃ v', e = .returned v' ∧ MsAt w.heap.size w' v' (fours xs) ∧ Moves [] w w' := by
  obtain ⟨ad, n, cap, rfl, hn0, hcap, hnil, hat⟩ := h
  obtain ⟨x0, hx0⟩ : ∃ x, xs[0]? = some x := by
    cases xs with
    | nil => exact absurd rfl hne
    | cons x t => exact ⟨x, rfl⟩
  obtain ⟨off, rfl, _⟩ := hat 0 x0 hx0
  subst hn0
  have hT : TbL w g (.slice (some ⟨g, off, none⟩) xs.length cap) xs := ⟨_, _, _, rfl, rfl, hcap, hnil, hat⟩
  obtain ⟨ln, hln⟩ : ∃ ln, Hid (xs.length = ln) := ⟨_, rfl⟩
  refine (callsIn_wide (n := 6)).1 ?_
  refine callsIn_of_wp_marks Tryz.func44 rfl trivial ?_ rfl
  simp only [Tryz.ntmps44, List.size_toArray, List.length_cons, List.length_nil, Nat.reduceAdd, Nat.reduceSub, Array.replicate_succ, Array.replicate_zero, List.push_toArray, List.append_toArray, List.nil_append, List.cons_append]
  gi_wp2_with (refine ⟨trivial, ?_⟩; gi_at_call 79; refine (callsIn_wide.2 (mtChunk_w _ _ _ _)).mono ?_; rintro e w' ⟨rfl, rfl⟩)
  obtain ⟨W1, hW1⟩ : ∃ W1, ((w.alloc (.cells #[.slice none 0 0] 102)).alloc (.cells #[.slice (some ⟨g, off, none⟩) xs.length cap] 51)).alloc (.cells #[.int .i64 4] 3) = W1 := ⟨_, rfl⟩
  have hsz : W1.heap.size = w.heap.size + 3 := by rw [← hW1]; simp
  have b0 : Boxed W1 w.heap.size 102 (.slice none 0 0) := by rw [← hW1]; exact ((Boxed.new w _ _).alloc _).alloc _
  have b1 : W1.cell? ⟨w.heap.size + 1, 0, none⟩ = some (.slice (some ⟨g, off, none⟩) xs.length cap) := by
    have := ((Boxed.new (w.alloc (.cells #[.slice none 0 0] 102)) 51 (.slice (some ⟨g, off, none⟩) xs.length cap)).alloc (.cells #[.int .i64 4] 3)).cell
    rw [hW1] at this
    rwa [World.size_alloc] at this
  have b2 : W1.cell? ⟨w.heap.size + 1 + 1, 0, none⟩ = some (.int .i64 4) := by
    have := (Boxed.new ((w.alloc (.cells #[.slice none 0 0] 102)).alloc (.cells #[.slice (some ⟨g, off, none⟩) xs.length cap] 51)) 3 (.int .i64 4)).cell
    rw [hW1] at this
    rwa [World.size_alloc, World.size_alloc] at this
  have hB0 : Below w.heap.size w W1 := by rw [← hW1]; exact (((Below.refl _ w).alloc (Nat.le_refl _) _).alloc (by simp) _).alloc (by simp; omega) _
  rw [hW1]
  have hseq : SeqStopsK Fence.wide (6 - 1) Tryz.prog 116 #[.pointer (some ⟨w.heap.size + 1, 0, none⟩), .pointer (some ⟨w.heap.size + 1 + 1, 0, none⟩)] (fun k : Kth xs.length => #[kthV g off xs.length k]) (KpT (w.heap.size + 3) w.heap.size) (fun ys => ys = kths xs.length ((xs.length + 3) / 4)) (fun _ => True) xs.length W1 := by
    intro l J Jx W hW hJ hJx hY h0
    exact chunk1_in Fence.wide (6 - 1) trivial rfl (by omega) l (w.heap.size + 1) (w.heap.size + 1 + 1) (w.heap.size + 3) w.heap.size g off xs.length cap hl hcap J Jx (fun s A hA => hJ s A A.drew none hA ⟨rfl, rfl, rfl, Nat.le_refl _, fun _ _ _ => rfl⟩ (by simp)) hY W (by omega) (by omega) (by omega) (by omega) ((hW.cell (p := ⟨w.heap.size + 1, 0, none⟩) (by simp; omega)).trans b1) ((hW.cell (p := ⟨w.heap.size + 1 + 1, 0, none⟩) (by simp; omega)).trans b2) h0
  refine wpIn_rangeFunc_ownG rfl (by omega) (gf := 116) (lb := #[.pointer (some ⟨w.heap.size + 1, 0, none⟩), .pointer (some ⟨w.heap.size + 1 + 1, 0, none⟩)]) rfl trivial (enters_of Tryz.func116 (by kernel_rfl) rfl)
    hseq (fun h k => KpT.trans h k) (fun W l o o' hl' _ _ _ => ⟨by simp, fun k hk _ => World.putObj_heap_other (by omega)⟩) (Below.refl _ _) (fun _ => rfl)
    (fun pre W => (∃ v, Boxed W w.heap.size 102 v ∧ OwnMs (w.heap.size + 3) W v (pre.map (kth4 xs))) ∧ Below w.heap.size w W ∧ w.heap.size + 3 ≤ W.heap.size)
    (fun _ _ _ => False)
    (OwnFrom.and (_root_.Go.Own.from (ownMs_own (w.heap.size + 3) w.heap.size 102 (fun (pre : List (Kth xs.length)) => pre.map (kth4 xs))) _) (OwnFrom.and (ownFrom_below (Nat.le_refl _) (by omega)) (fun _ _ _ _ hs hg _ => Nat.le_trans hs hg.size)))
    (fun _ _ _ _ _ hs _ _ => hs)
    ⟨⟨_, b0, OwnMs.nil _ _⟩, hB0, by omega⟩
    (fun k => { tmps := #[.slice (some ⟨g, off, none⟩) xs.length cap, undef, .slice none 0 0, .pointer (some ⟨w.heap.size, 0, none⟩), kthV g off xs.length k, .slice (some ⟨g, off, none⟩) xs.length cap, .func (.func 116) #[] #[.pointer (some ⟨w.heap.size + 1, 0, none⟩), .pointer (some ⟨w.heap.size + 1 + 1, 0, none⟩)], kthV g off xs.length k, undef, undef, undef, undef, undef, undef], defers := [] }) ?assign ?body ?done ?stop
  case assign =>
    intro l x W K hK
    gi_wp2
    exact hK
  case body =>
    rintro l pre x W ⟨⟨v, hv, hO⟩, hB, hS⟩ hlt
    have hc := hv.cell
    have hf := hv.frozen
    have hmx : Tryz.prog.follows .mixedOrders = true := by kernel_rfl
    have hlen : (pre.map (kth4 xs)).length ≤ 1000 := by simp; omega
    obtain ⟨ad2, n2, cap2, rfl, hn2⟩ := hO.open
    have mW : Moves [] w W := ⟨hB.os, hB.tape, hB.output, hB.size, fun k hk _ => hB.block k hk⟩
    have hTk := kth_at (hT.moves mW (by simp)) x
    have hcl := mtClone_w W.drew g (kthV g off xs.length x) (kth4 xs x) hTk (kth4_len xs x)
    have hfin : ∀ {w2 : World} {v' : Value}, Boxed (w2.setCell ⟨w.heap.size, 0, none⟩ v') w.heap.size 102 v' → OwnMs (w.heap.size + 3) (w2.setCell ⟨w.heap.size, 0, none⟩ v') v' (pre.map (kth4 xs) ++ [kth4 xs x]) → Moves (w.heap.size :: (Value.slice ad2 n2 cap2).ownBlock.toList) W (w2.setCell ⟨w.heap.size, 0, none⟩ v') → (∀ k, (Value.slice ad2 n2 cap2).ownBlock = some k → ∃ c t fz, W.heap[k]? = some (.cells c t fz)) →
        KeepsFrom W1.heap.size W (w2.setCell ⟨w.heap.size, 0, none⟩ v') ∧ KpT (w.heap.size + 3) w.heap.size W (w2.setCell ⟨w.heap.size, 0, none⟩ v') ∧ (∃ v, Boxed (w2.setCell ⟨w.heap.size, 0, none⟩ v') w.heap.size 102 v ∧ OwnMs (w.heap.size + 3) (w2.setCell ⟨w.heap.size, 0, none⟩ v') v ((pre ++ [x]).map (kth4 xs))) ∧ Below w.heap.size w (w2.setCell ⟨w.heap.size, 0, none⟩ v') ∧ w.heap.size + 3 ≤ (w2.setCell ⟨w.heap.size, 0, none⟩ v').heap.size := by
      intro w2 v' k4 k5 k6 k7
      have hown : ∀ k, (Value.slice ad2 n2 cap2).ownBlock = some k → w.heap.size + 3 ≤ k := hO.2
      refine ⟨(k6.keeps ?_).from _, ⟨k6.size, fun k h1 h2 => k6.block k (by omega) ?_⟩, ⟨v', k4, by rw [List.map_append]; exact k5⟩, ?_, by have := k6.size; omega⟩
      · intro k hk
        rcases List.mem_cons.1 hk with rfl | hk
        · exact ⟨_, _, _, hv⟩
        · exact k7 k (Option.mem_toList.1 hk)
      · intro hm
        rcases List.mem_cons.1 hm with e | hm
        · exact h2 e
        · have := hown k (Option.mem_toList.1 hm)
          omega
      · refine hB.trans (k6.below ?_ hB.size)
        intro k hk
        rcases List.mem_cons.1 hk with rfl | hk
        · exact Nat.le_refl _
        · have := hown k (Option.mem_toList.1 hk)
          omega
    gi_wp2
    refine wpIn_region_any hmx ?_
    change wpAnyIn _ _ _ _ _ _ _ _ _ (World.drew _)
    refine wpAnyIn_ready (rs := [0, 1]) (by kernel_rfl) (by simp) ?_
    refine AllReadyIn.cons rfl (fun K hK => ?_) (AllReadyIn.cons rfl (fun K hK => ?_) AllReadyIn.nil)
    · go_simp
      refine hK _ _ ?_
      clear hK K
      refine wpAnyIn_ready (rs := [1]) (by kernel_rfl) (by simp) ?_
      refine AllReadyIn.cons rfl (fun K hK => ?_) AllReadyIn.nil
      go_simp
      refine hK _ _ ?_
      clear hK K
      refine wpAnyIn_ready (rs := [2]) (by kernel_rfl) (by simp) ?_
      refine AllReadyIn.cons rfl (fun K hK => ?_) AllReadyIn.nil
      go_simp
      gi_wp2_with (refine ⟨trivial, ?_⟩; gi_at_call 80; refine (CallsIn.inRound l (callsIn_wide.2 hcl)).mono ?_; rintro e wC ⟨u, rfl, hu, hfu, mC⟩; obtain ⟨v', w2, hrun, ⟨ad3, n3, cap3, rfl⟩, k3, k4, k5, k6, k7⟩ := ms_grow hv hO hlen hS ((Moves.refl [] W).drew.then mC) hu (show Fresh W u from hfu); obtain ⟨adu, nu, capu, rfl, hnu⟩ := hu.open; have hcC := (show Boxed wC w.heap.size 102 _ from mC.at hv (by simp)).cell; have hcA := (Boxed.alloc (show Boxed wC w.heap.size 102 _ from mC.at hv (by simp)) (.cells #[.slice adu nu capu] 51)).cell; have hc2 := k3.cell; have hf2 := k3.frozen)
      refine wpAnyIn_ready (rs := [3]) (by kernel_rfl) (by simp) ?_
      refine AllReadyIn.cons rfl (fun K hK => ?_) AllReadyIn.nil
      go_simp
      refine hK _ _ ?_
      clear hK K
      refine wpAnyIn_ready (rs := [4]) (by kernel_rfl) (by simp) ?_
      refine AllReadyIn.cons rfl (fun K hK => ?_) AllReadyIn.nil
      refine ms_op (.tmp 8) (.tmp 11) rfl _ _ rfl rfl hrun (fun _ => trivial) ⟨l, rfl⟩ ?_
      refine hK _ _ ?_
      clear hK K
      refine wpAnyIn_ready (rs := [5]) (by kernel_rfl) (by simp) ?_
      refine AllReadyIn.cons rfl (fun K hK => ?_) AllReadyIn.nil
      go_simp
      refine hK _ _ ?_
      clear hK K
      refine wpAnyIn_done (by kernel_rfl) ?_ _
      exact hfin k4 k5 k6 k7
    · go_simp
      refine hK _ _ ?_
      clear hK K
      refine wpAnyIn_ready (rs := [0, 2]) (by kernel_rfl) (by simp) ?_
      refine AllReadyIn.cons rfl (fun K hK => ?_) (AllReadyIn.cons rfl (fun K hK => ?_) AllReadyIn.nil)
      · go_simp
        refine hK _ _ ?_
        clear hK K
        refine wpAnyIn_ready (rs := [2]) (by kernel_rfl) (by simp) ?_
        refine AllReadyIn.cons rfl (fun K hK => ?_) AllReadyIn.nil
        go_simp
        gi_wp2_with (refine ⟨trivial, ?_⟩; gi_at_call 80; refine (CallsIn.inRound l (callsIn_wide.2 hcl)).mono ?_; rintro e wC ⟨u, rfl, hu, hfu, mC⟩; obtain ⟨v', w2, hrun, ⟨ad3, n3, cap3, rfl⟩, k3, k4, k5, k6, k7⟩ := ms_grow hv hO hlen hS ((Moves.refl [] W).drew.then mC) hu (show Fresh W u from hfu); obtain ⟨adu, nu, capu, rfl, hnu⟩ := hu.open; have hcC := (show Boxed wC w.heap.size 102 _ from mC.at hv (by simp)).cell; have hcA := (Boxed.alloc (show Boxed wC w.heap.size 102 _ from mC.at hv (by simp)) (.cells #[.slice adu nu capu] 51)).cell; have hc2 := k3.cell; have hf2 := k3.frozen)
        refine wpAnyIn_ready (rs := [3]) (by kernel_rfl) (by simp) ?_
        refine AllReadyIn.cons rfl (fun K hK => ?_) AllReadyIn.nil
        go_simp
        refine hK _ _ ?_
        clear hK K
        refine wpAnyIn_ready (rs := [4]) (by kernel_rfl) (by simp) ?_
        refine AllReadyIn.cons rfl (fun K hK => ?_) AllReadyIn.nil
        refine ms_op (.tmp 8) (.tmp 11) rfl _ _ rfl rfl hrun (fun _ => trivial) ⟨l, rfl⟩ ?_
        refine hK _ _ ?_
        clear hK K
        refine wpAnyIn_ready (rs := [5]) (by kernel_rfl) (by simp) ?_
        refine AllReadyIn.cons rfl (fun K hK => ?_) AllReadyIn.nil
        go_simp
        refine hK _ _ ?_
        clear hK K
        refine wpAnyIn_done (by kernel_rfl) ?_ _
        exact hfin k4 k5 k6 k7
      · go_simp
        gi_wp2_with (refine ⟨trivial, ?_⟩; gi_at_call 80; refine (CallsIn.inRound l (callsIn_wide.2 hcl)).mono ?_; rintro e wC ⟨u, rfl, hu, hfu, mC⟩; obtain ⟨v', w2, hrun, ⟨ad3, n3, cap3, rfl⟩, k3, k4, k5, k6, k7⟩ := ms_grow hv hO hlen hS ((Moves.refl [] W).drew.then mC) hu (show Fresh W u from hfu); obtain ⟨adu, nu, capu, rfl, hnu⟩ := hu.open; have hcC := (show Boxed wC w.heap.size 102 _ from mC.at hv (by simp)).cell; have hcA := (Boxed.alloc (show Boxed wC w.heap.size 102 _ from mC.at hv (by simp)) (.cells #[.slice adu nu capu] 51)).cell; have hc2 := k3.cell; have hf2 := k3.frozen)
        refine wpAnyIn_ready (rs := [0, 3]) (by kernel_rfl) (by simp) ?_
        refine AllReadyIn.cons rfl (fun K hK => ?_) (AllReadyIn.cons rfl (fun K hK => ?_) AllReadyIn.nil)
        · go_simp
          refine hK _ _ ?_
          clear hK K
          refine wpAnyIn_ready (rs := [3]) (by kernel_rfl) (by simp) ?_
          refine AllReadyIn.cons rfl (fun K hK => ?_) AllReadyIn.nil
          go_simp
          refine hK _ _ ?_
          clear hK K
          refine wpAnyIn_ready (rs := [4]) (by kernel_rfl) (by simp) ?_
          refine AllReadyIn.cons rfl (fun K hK => ?_) AllReadyIn.nil
          refine ms_op (.tmp 8) (.tmp 11) rfl _ _ rfl rfl hrun (fun _ => trivial) ⟨l, rfl⟩ ?_
          refine hK _ _ ?_
          clear hK K
          refine wpAnyIn_ready (rs := [5]) (by kernel_rfl) (by simp) ?_
          refine AllReadyIn.cons rfl (fun K hK => ?_) AllReadyIn.nil
          go_simp
          refine hK _ _ ?_
          clear hK K
          refine wpAnyIn_done (by kernel_rfl) ?_ _
          exact hfin k4 k5 k6 k7
        · go_simp
          refine hK _ _ ?_
          clear hK K
          refine wpAnyIn_ready (rs := [0]) (by kernel_rfl) (by simp) ?_
          refine AllReadyIn.cons rfl (fun K hK => ?_) AllReadyIn.nil
          go_simp
          refine hK _ _ ?_
          clear hK K
          refine wpAnyIn_ready (rs := [4]) (by kernel_rfl) (by simp) ?_
          refine AllReadyIn.cons rfl (fun K hK => ?_) AllReadyIn.nil
          refine ms_op (.tmp 8) (.tmp 11) rfl _ _ rfl rfl hrun (fun _ => trivial) ⟨l, rfl⟩ ?_
          refine hK _ _ ?_
          clear hK K
          refine wpAnyIn_ready (rs := [5]) (by kernel_rfl) (by simp) ?_
          refine AllReadyIn.cons rfl (fun K hK => ?_) AllReadyIn.nil
          go_simp
          refine hK _ _ ?_
          clear hK K
          refine wpAnyIn_done (by kernel_rfl) ?_ _
          exact hfin k4 k5 k6 k7
  case done =>
    rintro D ys W hD rfl ⟨⟨v, hv, hO⟩, hB, hS⟩ hK
    have hc := hv.cell
    gi_wp2
    refine ⟨by simp, .inl ⟨_, _, rfl, run_takeDeferred hK, ?_⟩⟩
    have hO' := hO.ms
    rw [kths_fours] at hO'
    have hBD : Below w.heap.size w (W.putObj D (.deferred none)) := hB.trans (belowK_b (w := w) (Nat.le_refl _) W D _ _ (by omega) hK rfl rfl)
    refine ⟨_, results_tmp rfl _ _ _, v, rfl, (hO'.putD hK).weak (by omega), ⟨hBD.os, hBD.tape, hBD.output, hBD.size, fun k hk _ => hBD.block k hk⟩⟩
  case stop =>
    rintro D c pre W _ _ h _
    exact h.elim
end Go.Proofs.YtilbbnmhnacnlaaGreat
