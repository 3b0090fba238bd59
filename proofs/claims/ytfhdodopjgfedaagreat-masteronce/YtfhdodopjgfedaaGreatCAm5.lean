/-
  cmd's DecodeAnswer of any bytes.
-/
import Derived.Test.YtfhdodopjgfedaaGreatCAm4
namespace Go.Proofs.YtfhdodopjgfedaaGreat
open Go.RowKit

/-- The blocks that an answer lies in. -/
def TA (t : TypeId) : Prop := t = 5 ∨ t = 146 ∨ t = 144 ∨ t = 99
theorem AnsC.stay {w w' : World} (st : Stay TA w w') {c : List Value} {p : Pans} (h : AnsC w c p) : AnsC w' c p := by
  obtain ⟨ar, nr, cr, sa, ns, cs, g, e, h1, h2, h3, h4⟩ := h
  obtain ⟨k1, k2⟩ := h2.stay st (.inl rfl) h3
  exact ⟨ar, nr, cr, sa, ns, cs, g, e, h1.stay st (.inl rfl) (.inr (.inl rfl)) (.inr (.inr (.inl rfl))) (.inr (.inr (.inr rfl))), k1, k2, h4⟩
theorem stayA {w w' : World} {b : Nat} {c : Array Value} {t : TypeId} {fz : Nat × Nat} (m : Moves [b] w w') (hb : w.heap[b]? = some (.cells c t fz)) (ht : ¬ TA t) : Stay TA w w' := by
  refine Stay.ofMovesS m (fun b2 hb2 c2 t2 fz2 hc h2 => ?_)
  simp at hb2
  subst hb2
  rw [hb] at hc
  simp at hc
  exact ht (hc.2.1 ▸ h2)
theorem isB_inA {w : World} {g : Nat} {v : Value} {bs : List Nat} (h : IsB w g v bs) (hp : 0 < w.heap.size) : ∃ g', g' < w.heap.size ∧ IsB w g' v bs := by
  by_cases hb : bs = []
  · subst hb
    obtain ⟨ad, n, cap, h1, h2, h3, h4, _⟩ := h
    exact ⟨0, hp, ad, n, cap, h1, h2, h3, h4, .inl rfl⟩
  · exact ⟨g, h.lt hb, h⟩
theorem notA : ¬ TA 48 := by unfold TA; decide
theorem notR : ¬ TA 201 := by unfold TA; decide

/-- All of the bytes are an answer. -/
def dWhole (bs : List Nat) : Option Pans := match dAns bs with
  | some (p, []) => some p
  | _ => none
theorem dWhole_none {bs : List Nat} (h : dAns bs = none) : dWhole bs = none := by unfold dWhole; rw [h]
theorem dWhole_yes {bs : List Nat} {p : Pans} {r : List Nat} (h : dAns bs = some (p, r)) (hr : r = []) : dWhole bs = some p := by unfold dWhole; rw [h, hr]
theorem dWhole_no {bs : List Nat} {p : Pans} {r : List Nat} (h : dAns bs = some (p, r)) (hr : r ≠ []) : dWhole bs = none := by
  unfold dWhole
  rw [h]
  cases r with
  | nil => exact absurd rfl hr
  | cons a t => rfl

set_option maxRecDepth 100000 in
theorem cdec1_w (N p g qa : Nat) (bs : List Nat) (w : World) (h : RdIs w p g bs false) (ho : OctN N bs) (hg : g < w.heap.size) (ha : w.heap[qa]? = some (.cells #[.int .i64 0, .slice none 0 0, .string ⟨#[]⟩, .string ⟨#[]⟩, .int .i64 0, .int .i64 0, .int .i64 0, .int .i64 0, .int .i64 0, .string ⟨#[]⟩, .slice none 0 0] 48 (0, 0))) (hpa : qa ≠ p) (hga : g ≠ qa) :
    Calls Tryz.prog 104 #[.pointer (some ⟨p, 0, none⟩), .pointer (some ⟨qa, 0, none⟩)] w fun e w' =>
      (∃ P rest c, dAns bs = some (P, rest) ∧ e = .returned (.tuple #[]) ∧ RdIs w' p g rest false ∧ w'.heap[qa]? = some (.cells c 48 (0, 0)) ∧ AnsC w' c.toList P ∧ Moves [p, qa] w w') ∨ (dAns bs = none ∧ e = .panicked (stop p) ∧ ∃ bs', RdIs w' p g bs' true ∧ Moves [p] w w') := by
  have hT := ctakeA_w N p g bs w h ho hg
  cases hd : dAns bs with
  | none =>
    rw [hd] at hT
    go_enter Tryz.func104, Tryz.ntmps104
    go_wp2_with fail
    refine hT.mono ?_
    rintro _ w2 ⟨rfl, ⟨bs', hr2⟩, m2⟩
    exact ⟨rfl, .inr ⟨trivial, rfl, bs', hr2, m2⟩⟩
  | some z =>
    obtain ⟨P, rest⟩ := z
    rw [hd] at hT
    go_enter Tryz.func104, Tryz.ntmps104
    go_wp2_with fail
    refine hT.mono ?_
    rintro _ w2 ⟨c, rfl, hA, hr2, m2⟩
    have a2 := m2.at ha (by simpa using hpa)
    have HA : Hid (AnsC w2 c P) := hA
    obtain ⟨ar, nr, cr, sa, ns, cs, g2, rfl, -⟩ := hA
    have so := stored11 a2 (.int .i64 P.code) (.slice ar nr cr) (.string P.lo) (.string P.hi) (.int .i64 P.grp) (.int .i64 P.gen) (.int .i64 P.old) (.int .i64 P.to) (.int .i64 P.act) (.string P.at') (.slice sa ns cs)
    have HS := so.1
    have HM := so.2
    have HA2 := HA.out.stay (stayA so.2 a2 notA)
    have hr3 := hr2.moves so.2 (by simpa using Ne.symm hpa) (by simpa using hga)
    obtain ⟨q0, q1, q2, q3, q4, q5, q6, q7, q8, q9, q10⟩ := eleven_cells a2
    have qfz := eleven_fz a2
    clear so
    go_wp2_with fail
    go_end0
    exact .inl ⟨P, rest, _, rfl, rfl, hr3, HS, HA2, (m2.mono (by simp)).then (HM.mono (by simp))⟩

set_option maxRecDepth 100000 in
theorem cread_w (N g qa : Nat) (v : Value) (bs : List Nat) (w : World) (hv : IsB w g v bs) (ho : OctN N bs) (hg : g < w.heap.size) (ha : w.heap[qa]? = some (.cells #[.int .i64 0, .slice none 0 0, .string ⟨#[]⟩, .string ⟨#[]⟩, .int .i64 0, .int .i64 0, .int .i64 0, .int .i64 0, .int .i64 0, .string ⟨#[]⟩, .slice none 0 0] 48 (0, 0))) (hga : g ≠ qa) :
    Calls Tryz.prog 103 #[v, .func (.func 104) #[] #[.pointer (some ⟨qa, 0, none⟩)]] w fun e w' =>
      (∃ P rest c, dAns bs = some (P, rest) ∧ e = .returned (.bool ((rest.length : Int) == 0)) ∧ w'.heap[qa]? = some (.cells c 48 (0, 0)) ∧ AnsC w' c.toList P ∧ Moves [qa] w w') ∨ (dAns bs = none ∧ e = .returned (.bool false) ∧ Moves [] w w') := by
  have la := lt_of_block ha
  refine (read_any 104 #[.pointer (some ⟨qa, 0, none⟩)] v g bs w hv (by omega) (fun rest w2 => ∃ P c, dAns bs = some (P, rest) ∧ (∃ c, w2.heap[w.heap.size]? = some (.cells c 201 (0, 0))) ∧ w2.heap[qa]? = some (.cells c 48 (0, 0)) ∧ AnsC w2 c.toList P ∧ Moves [qa] w w2) (fun _ w2 => dAns bs = none ∧ Moves [] w w2) (fun _ _ => rfl) ?_).mono ?_
  · intro w1 hbg hm
    have hlt1 : w.heap.size < w1.heap.size := hbg.1.ltp
    refine (cdec1_w N w.heap.size g qa bs w1 hbg.1 ho (Nat.lt_of_lt_of_le hg hm.size) (hm.at ha (by simp)) (by omega) hga).mono ?_
    rintro _ w2 (⟨P, rest, c, hd, rfl, hr, hb, hA, m⟩ | ⟨hd, rfl, bs', hr, m⟩)
    · refine .inl ⟨rfl, rest, ⟨hr, m.at hbg.2 (by simp; omega)⟩, P, c, hd, hr.block, hb, hA, ?_⟩
      exact (hm.mono (by simp)).trans m (fun x hx => by
          simp at hx
          rcases hx with rfl | rfl
          · exact .inr (Nat.le_refl _)
          · exact .inl (by simp))
    · exact .inr ⟨rfl, bs', ⟨hr, m.at hbg.2 (by simp)⟩, hd, hm.trans m (fun x hx => .inr (by simp at hx; omega))⟩
  · rintro _ w' (⟨rest, rfl, w2, ⟨P, c, hd, ⟨c2, hc⟩, hb, hA, m⟩, m2⟩ | ⟨rfl, bs', w2, ⟨hd, m⟩, m2⟩)
    · exact .inl ⟨P, rest, c, hd, rfl, m2.at hb (by simp; omega), hA.stay (stayA m2 hc notR), m.trans m2 (fun x hx => .inr (by simp at hx; omega))⟩
    · exact .inr ⟨hd, rfl, m.trans m2 (fun x hx => .inr (by simp at hx; omega))⟩

theorem ret_ans1 {fn : Func} {p u : Tmp} (h : fn.results = #[.cell p 48, .tmp u]) (tmps : Array Value) (w : World) (g : Nat) (x0 x1 x2 x3 x4 x5 x6 x7 x8 x9 x10 : Value) (hp : tmps.getD p undef = .pointer (some ⟨g, 0, none⟩)) (hg : w.heap[g]? = some (.cells #[x0, x1, x2, x3, x4, x5, x6, x7, x8, x9, x10] 48 (0, 0))) :
    (results fn tmps).run Tryz.prog w = .ok (.tuple #[.agg #[x0, x1, x2, x3, x4, x5, x6, x7, x8, x9, x10], tmps.getD u undef]) w := by
  have hl := run_loadVar_row (P := Tryz.prog) w g 48 48 _ (0, 0) _ hg Tryz.underlying48 rfl Tryz.size48
  rw [results_cell_tmp h, hp]
  simp only [asAddr, Sem.run_pure, Result.andThen, hl]

/-- What DecodeAnswer answers. -/
def DecA (w0 : World) (o : Option Pans) (e : Ending) (w' : World) : Prop := match o with
  | some p => ∃ c, e = .returned (.tuple #[.agg c.toArray, .int .i64 0]) ∧ AnsC w' c p ∧ Moves [] w0 w'
  | none => e = .returned (.tuple #[.agg #[.int .i64 0, .slice none 0 0, .string ⟨#[]⟩, .string ⟨#[]⟩, .int .i64 0, .int .i64 0, .int .i64 0, .int .i64 0, .int .i64 0, .string ⟨#[]⟩, .slice none 0 0], .int .i64 12]) ∧ Moves [] w0 w'

set_option maxRecDepth 100000 in
set_option maxHeartbeats 4000000 in
theorem cdecA_w (N : Nat) (v : Value) (g : Nat) (bs : List Nat) (w : World) (hv0 : IsB w g v bs) (ho : OctN N bs) (hpos : 0 < w.heap.size) :
    Calls Tryz.prog 66 #[v] w fun e w' => DecA w (dWhole bs) e w' := by
  obtain ⟨ad, len, cap, rfl, _⟩ := id hv0
  obtain ⟨g1, hg1, hv1⟩ := isB_inA hv0 hpos
  have n0 : Moves [] w (w.alloc (.cells #[.int .i64 0, .slice none 0 0, .string ⟨#[]⟩, .string ⟨#[]⟩, .int .i64 0, .int .i64 0, .int .i64 0, .int .i64 0, .int .i64 0, .string ⟨#[]⟩, .slice none 0 0] 48)) := (Moves.refl _ _).alloc _
  have b0 := heap_alloc_new w (.cells #[.int .i64 0, .slice none 0 0, .string ⟨#[]⟩, .string ⟨#[]⟩, .int .i64 0, .int .i64 0, .int .i64 0, .int .i64 0, .int .i64 0, .string ⟨#[]⟩, .slice none 0 0] 48)
  obtain ⟨R, hR⟩ : ∃ R, w.heap.size = R := ⟨_, rfl⟩
  rw [hR] at b0
  have n1 : Moves [] (w.alloc (.cells #[.int .i64 0, .slice none 0 0, .string ⟨#[]⟩, .string ⟨#[]⟩, .int .i64 0, .int .i64 0, .int .i64 0, .int .i64 0, .int .i64 0, .string ⟨#[]⟩, .slice none 0 0] 48)) ((w.alloc (.cells #[.int .i64 0, .slice none 0 0, .string ⟨#[]⟩, .string ⟨#[]⟩, .int .i64 0, .int .i64 0, .int .i64 0, .int .i64 0, .int .i64 0, .string ⟨#[]⟩, .slice none 0 0] 48)).alloc (.cells #[.int .i64 0, .slice none 0 0, .string ⟨#[]⟩, .string ⟨#[]⟩, .int .i64 0, .int .i64 0, .int .i64 0, .int .i64 0, .int .i64 0, .string ⟨#[]⟩, .slice none 0 0] 48)) := (Moves.refl _ _).alloc _
  have c0 := heap_alloc_new (w.alloc (.cells #[.int .i64 0, .slice none 0 0, .string ⟨#[]⟩, .string ⟨#[]⟩, .int .i64 0, .int .i64 0, .int .i64 0, .int .i64 0, .int .i64 0, .string ⟨#[]⟩, .slice none 0 0] 48)) (.cells #[.int .i64 0, .slice none 0 0, .string ⟨#[]⟩, .string ⟨#[]⟩, .int .i64 0, .int .i64 0, .int .i64 0, .int .i64 0, .int .i64 0, .string ⟨#[]⟩, .slice none 0 0] 48)
  have hsz : (w.alloc (.cells #[.int .i64 0, .slice none 0 0, .string ⟨#[]⟩, .string ⟨#[]⟩, .int .i64 0, .int .i64 0, .int .i64 0, .int .i64 0, .int .i64 0, .string ⟨#[]⟩, .slice none 0 0] 48)).heap.size = R + 1 := by rw [← hR]; simp
  rw [hsz] at c0
  have b1 := n1.at b0 (by simp)
  have hv2 := hv1.moves (n0.then n1) (by simp)
  have n01 := n0.then n1
  go_enter Tryz.func66, Tryz.ntmps66
  go_wp2_with fail
  try rw [hsz]
  generalize ((w.alloc (.cells #[.int .i64 0, .slice none 0 0, .string ⟨#[]⟩, .string ⟨#[]⟩, .int .i64 0, .int .i64 0, .int .i64 0, .int .i64 0, .int .i64 0, .string ⟨#[]⟩, .slice none 0 0] 48)).alloc (.cells #[.int .i64 0, .slice none 0 0, .string ⟨#[]⟩, .string ⟨#[]⟩, .int .i64 0, .int .i64 0, .int .i64 0, .int .i64 0, .int .i64 0, .string ⟨#[]⟩, .slice none 0 0] 48)) = W1 at *
  clear n0 n1 b0 hsz hv1
  have l1 := n01.size
  refine (cread_w N g1 (R + 1) _ bs W1 hv2 ho (by omega) c0 (by omega)).mono ?_
  rintro _ w2 (⟨P, rest, c, hd, rfl, hb, hA, m2⟩ | ⟨hd, rfl, m2⟩)
  · have b2 := m2.at b1 (by simp)
    have HA : Hid (AnsC w2 c.toList P) := hA
    obtain ⟨ar, nr, cr, sa, ns, cs, g2, hc, -⟩ := hA
    obtain ⟨c⟩ := c
    obtain rfl : c = _ := hc
    obtain ⟨q0, q1, q2, q3, q4, q5, q6, q7, q8, q9, q10⟩ := eleven_cells hb
    obtain ⟨z0, z1, z2, z3, z4, z5, z6, z7, z8, z9, z10⟩ := eleven_cells b2
    have zfz := eleven_fz b2
    have n02 : Hid (Moves [] w w2) := n01.trans m2 (fun x hx => .inr (by simp at hx; omega))
    have HD : Hid (dAns bs = some (P, rest)) := hd
    clear hd hv2 hv0 c0 b1 m2 n01
    cases rest with
    | nil =>
      have HW : Hid (dWhole bs = some P) := dWhole_yes HD.out rfl
      go_wp2_with fail
      have so := stored11 b2 (.int .i64 P.code) (.slice ar nr cr) (.string P.lo) (.string P.hi) (.int .i64 P.grp) (.int .i64 P.gen) (.int .i64 P.old) (.int .i64 P.to) (.int .i64 P.act) (.string P.at') (.slice sa ns cs)
      have HA2 := HA.out.stay (stayA so.2 b2 notA)
      refine bodyPost_ret (ret_ans1 rfl _ _ _ _ _ _ _ _ _ _ _ _ _ _ rfl so.1) rfl ?_
      show DecA w (dWhole bs) _ _
      rw [HW.out]
      exact ⟨_, rfl, HA2, n02.out.trans so.2 (fun x hx => .inr (by simp at hx; omega))⟩
    | cons r1 rs =>
      have HW : Hid (dWhole bs = none) := dWhole_no HD.out (by simp)
      go_wp2_with fail
      have so := stored11 b2 (.int .i64 0) (.slice none 0 0) (.string ⟨#[]⟩) (.string ⟨#[]⟩) (.int .i64 0) (.int .i64 0) (.int .i64 0) (.int .i64 0) (.int .i64 0) (.string ⟨#[]⟩) (.slice none 0 0)
      refine bodyPost_ret (ret_ans1 rfl _ _ _ _ _ _ _ _ _ _ _ _ _ _ rfl so.1) rfl ?_
      show DecA w (dWhole bs) _ _
      rw [HW.out]
      exact ⟨rfl, n02.out.trans so.2 (fun x hx => .inr (by simp at hx; omega))⟩
  · have b2 := m2.at b1 (by simp)
    obtain ⟨z0, z1, z2, z3, z4, z5, z6, z7, z8, z9, z10⟩ := eleven_cells b2
    have zfz := eleven_fz b2
    have n02 : Hid (Moves [] w w2) := n01.then m2
    have HW : Hid (dWhole bs = none) := dWhole_none hd
    go_wp2_with fail
    have so := stored11 b2 (.int .i64 0) (.slice none 0 0) (.string ⟨#[]⟩) (.string ⟨#[]⟩) (.int .i64 0) (.int .i64 0) (.int .i64 0) (.int .i64 0) (.int .i64 0) (.string ⟨#[]⟩) (.slice none 0 0)
    refine bodyPost_ret (ret_ans1 rfl _ _ _ _ _ _ _ _ _ _ _ _ _ _ rfl so.1) rfl ?_
    show DecA w (dWhole bs) _ _
    rw [HW.out]
    exact ⟨rfl, n02.out.trans so.2 (fun x hx => .inr (by simp at hx; omega))⟩
end Go.Proofs.YtfhdodopjgfedaaGreat
