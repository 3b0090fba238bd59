/- ours -/
import Derived.Test.YtilbbnmhnacnlaaGreatCAm4
import Derived.Test.YtilbbnmhnacnlaaGreatCB22
import Derived.Test.YtilbbnmhnacnlaaGreatCB11
import Derived.Deep.WholeRow
import Derived.Deep.MidRow
/-
  cmd's DecodeAnswer of any bytes.
-/
namespace Go.Proofs.YtilbbnmhnacnlaaGreat
open Go.RowKit

def TA (t : TypeId) : Prop := t = 5 ∨ t = 146 ∨ t = 144 ∨ t = 99
theorem AnsC.stay {w w' : World} (st : Stay TA w w') {c : List Value} {p : Pans} (h : AnsC w c p) : AnsC w' c p := by
  obtain ⟨ar, nr, cr, sa, ns, cs, g, e, h1, h2, h3, h4⟩ := h
  obtain ⟨k1, k2⟩ := h2.stay st (.inl rfl) h3
  exact ⟨ar, nr, cr, sa, ns, cs, g, e, h1.stay st (.inl rfl) (.inr (.inl rfl)) (.inr (.inr (.inl rfl))) (.inr (.inr (.inr rfl))), k1, k2, h4⟩
theorem stayA {w w' : World} {b : Nat} {c : Array Value} {t : TypeId} {fz : Nat × Nat} (m : Moves [b] w w') (hb : w.heap[b]? = some (.cells c t fz)) (ht : ¬ TA t) : Stay TA w w' := by
  refine Stay.ofMovesS m (fun b2 hb2 c2 t2 fz2 hc h2 => ?_)
  simp at hb2
  subst hb2
  rw [hb] at hc
  simp at hc
  exact ht (hc.2.1 ▸ h2)
theorem isB_inA {w : World} {g : Nat} {v : Value} {bs : List Nat} (h : IsB w g v bs) (hp : 0 < w.heap.size) : ∃ g', g' < w.heap.size ∧ IsB w g' v bs := by
  by_cases hb : bs = []
  · subst hb
    obtain ⟨ad, n, cap, h1, h2, h3, h4, _⟩ := h
    exact ⟨0, hp, ad, n, cap, h1, h2, h3, h4, .inl rfl⟩
  · exact ⟨g, h.lt hb, h⟩
theorem notA : ¬ TA 48 := by unfold TA; decide
theorem notR : ¬ TA 201 := by unfold TA; decide

def dWhole (bs : List Nat) : Option Pans := match dAns bs with
  | some (p, []) => some p
  | _ => none
theorem dWhole_none {bs : List Nat} (h : dAns bs = none) : dWhole bs = none := by unfold dWhole; rw [h]
theorem dWhole_yes {bs : List Nat} {p : Pans} {r : List Nat} (h : dAns bs = some (p, r)) (hr : r = []) : dWhole bs = some p := by unfold dWhole; rw [h, hr]
theorem dWhole_no {bs : List Nat} {p : Pans} {r : List Nat} (h : dAns bs = some (p, r)) (hr : r ≠ []) : dWhole bs = none := by
  unfold dWhole
  rw [h]
  cases r with
  | nil => exact absurd rfl hr
  | cons a t => rfl

set_option maxRecDepth 100000 in
theorem cdec1_w (N p g qa : Nat) (bs : List Nat) (w : World) (h : RdIs w p g bs false) (ho : OctN N bs) (hg : g < w.heap.size) (ha : w.heap[qa]? = some (.cells #[.int .i64 0, .slice none 0 0, .string ⟨#[]⟩, .string ⟨#[]⟩, .int .i64 0, .int .i64 0, .int .i64 0, .int .i64 0, .int .i64 0, .string ⟨#[]⟩, .slice none 0 0] 48 (0, 0))) (hpa : qa ≠ p) (hga : g ≠ qa) :
    Calls Tryz.prog 104 #[.pointer (some ⟨p, 0, none⟩), .pointer (some ⟨qa, 0, none⟩)] w fun e w' =>
      (∃ P rest c, dAns bs = some (P, rest) ∧ e = .returned (.tuple #[]) ∧ RdIs w' p g rest false ∧ w'.heap[qa]? = some (.cells c 48 (0, 0)) ∧ AnsC w' c.toList P ∧ Moves [p, qa] w w') ∨ (dAns bs = none ∧ e = .panicked (stop p) ∧ ∃ bs', RdIs w' p g bs' true ∧ Moves [p] w w') := by
  have hT := ctakeA_w N p g bs w h ho hg
  cases hd : dAns bs with
  | none =>
    rw [hd] at hT
    go_enter Tryz.func104, Tryz.ntmps104
    go_wp2_with fail
    refine hT.mono ?_
    rintro _ w2 ⟨rfl, ⟨bs', hr2⟩, m2⟩
    exact ⟨rfl, .inr ⟨trivial, rfl, bs', hr2, m2⟩⟩
  | some z =>
    obtain ⟨P, rest⟩ := z
    rw [hd] at hT
    go_enter Tryz.func104, Tryz.ntmps104
    go_wp2_with fail
    refine hT.mono ?_
    rintro _ w2 ⟨c, rfl, hA, hr2, m2⟩
    have a2 := m2.at ha (by simpa using hpa)
    have HA : Hid (AnsC w2 c P) := hA
    obtain ⟨ar, nr, cr, sa, ns, cs, g2, rfl, -⟩ := hA
    have so := stored11 a2 (.int .i64 P.code) (.slice ar nr cr) (.string P.lo) (.string P.hi) (.int .i64 P.grp) (.int .i64 P.gen) (.int .i64 P.old) (.int .i64 P.to) (.int .i64 P.act) (.string P.at') (.slice sa ns cs)
    have HS := so.1
    have HM := so.2
    have HA2 := HA.out.stay (stayA so.2 a2 notA)
    have hr3 := hr2.moves so.2 (by simpa using Ne.symm hpa) (by simpa using hga)
    obtain ⟨q0, q1, q2, q3, q4, q5, q6, q7, q8, q9, q10⟩ := eleven_cells a2
    have qfz := eleven_fz a2
    clear so
    go_wp2_with fail
    go_end0
    exact .inl ⟨P, rest, _, rfl, rfl, hr3, HS, HA2, (m2.mono (by simp)).then (HM.mono (by simp))⟩

set_option maxRecDepth 100000 in
theorem cread_w (N g qa : Nat) (v : Value) (bs : List Nat) (w : World) (hv : IsB w g v bs) (ho : OctN N bs) (hg : g < w.heap.size) (ha : w.heap[qa]? = some (.cells #[.int .i64 0, .slice none 0 0, .string ⟨#[]⟩, .string ⟨#[]⟩, .int .i64 0, .int .i64 0, .int .i64 0, .int .i64 0, .int .i64 0, .string ⟨#[]⟩, .slice none 0 0] 48 (0, 0))) (hga : g ≠ qa) :
    Calls Tryz.prog 103 #[v, .func (.func 104) #[] #[.pointer (some ⟨qa, 0, none⟩)]] w fun e w' =>
      (∃ P rest c, dAns bs = some (P, rest) ∧ e = .returned (.bool ((rest.length : Int) == 0)) ∧ w'.heap[qa]? = some (.cells c 48 (0, 0)) ∧ AnsC w' c.toList P ∧ Moves [qa] w w') ∨ (dAns bs = none ∧ e = .returned (.bool false) ∧ Moves [] w w') := by
  have la := lt_of_block ha
  refine (read_any 104 #[.pointer (some ⟨qa, 0, none⟩)] v g bs w hv (by omega) (fun rest w2 => ∃ P c, dAns bs = some (P, rest) ∧ (∃ c, w2.heap[w.heap.size]? = some (.cells c 201 (0, 0))) ∧ w2.heap[qa]? = some (.cells c 48 (0, 0)) ∧ AnsC w2 c.toList P ∧ Moves [qa] w w2) (fun _ w2 => dAns bs = none ∧ Moves [] w w2) (fun _ _ => rfl) ?_).mono ?_
  · intro w1 hbg hm
    have hlt1 : w.heap.size < w1.heap.size := hbg.1.ltp
    refine (cdec1_w N w.heap.size g qa bs w1 hbg.1 ho (Nat.lt_of_lt_of_le hg hm.size) (hm.at ha (by simp)) (by omega) hga).mono ?_
    rintro _ w2 (⟨P, rest, c, hd, rfl, hr, hb, hA, m⟩ | ⟨hd, rfl, bs', hr, m⟩)
    · refine .inl ⟨rfl, rest, ⟨hr, m.at hbg.2 (by simp; omega)⟩, P, c, hd, hr.block, hb, hA, ?_⟩
      exact (hm.mono (by simp)).trans m (fun x hx => by
          simp at hx
          rcases hx with rfl | rfl
          · exact .inr (Nat.le_refl _)
          · exact .inl (by simp))
    · exact .inr ⟨rfl, bs', ⟨hr, m.at hbg.2 (by simp)⟩, hd, hm.trans m (fun x hx => .inr (by simp at hx; omega))⟩
  · rintro _ w' (⟨rest, rfl, w2, ⟨P, c, hd, ⟨c2, hc⟩, hb, hA, m⟩, m2⟩ | ⟨rfl, bs', w2, ⟨hd, m⟩, m2⟩)
    · exact .inl ⟨P, rest, c, hd, rfl, m2.at hb (by simp; omega), hA.stay (stayA m2 hc notR), m.trans m2 (fun x hx => .inr (by simp at hx; omega))⟩
    · exact .inr ⟨hd, rfl, m.trans m2 (fun x hx => .inr (by simp at hx; omega))⟩

theorem ret_ans1 {fn : Func} {p u : Tmp} (h : fn.results = #[.cell p 48, .tmp u]) (tmps : Array Value) (w : World) (g : Nat) (x0 x1 x2 x3 x4 x5 x6 x7 x8 x9 x10 : Value) (hp : tmps.getD p undef = .pointer (some ⟨g, 0, none⟩)) (hg : w.heap[g]? = some (.cells #[x0, x1, x2, x3, x4, x5, x6, x7, x8, x9, x10] 48 (0, 0))) :
    (results fn tmps).run Tryz.prog w = .ok (.tuple #[.agg #[x0, x1, x2, x3, x4, x5, x6, x7, x8, x9, x10], tmps.getD u undef]) w := by
  have hl := run_loadVar_row (P := Tryz.prog) w g 48 48 _ (0, 0) _ hg Tryz.underlying48 rfl Tryz.size48
  rw [results_cell_tmp h, hp]
  simp only [asAddr, Sem.run_pure, Result.andThen, hl]

def DecA (w0 : World) (o : Option Pans) (e : Ending) (w' : World) : Prop := match o with
  | some p => ∃ c, e = .returned (.tuple #[.agg c.toArray, .int .i64 0]) ∧ AnsC w' c p ∧ Moves [] w0 w'
  | none => e = .returned (.tuple #[.agg #[.int .i64 0, .slice none 0 0, .string ⟨#[]⟩, .string ⟨#[]⟩, .int .i64 0, .int .i64 0, .int .i64 0, .int .i64 0, .int .i64 0, .string ⟨#[]⟩, .slice none 0 0], .int .i64 12]) ∧ Moves [] w0 w'

set_option maxRecDepth 100000 in
set_option maxHeartbeats 4000000 in
theorem cdecA_w (N : Nat) (v : Value) (g : Nat) (bs : List Nat) (w : World) (hv0 : IsB w g v bs) (ho : OctN N bs) (hpos : 0 < w.heap.size) :
    Calls Tryz.prog 66 #[v] w fun e w' => DecA w (dWhole bs) e w' := by
  obtain ⟨ad, len, cap, rfl, _⟩ := id hv0
  obtain ⟨g1, hg1, hv1⟩ := isB_inA hv0 hpos
  have n0 : Moves [] w (w.alloc (.cells #[.int .i64 0, .slice none 0 0, .string ⟨#[]⟩, .string ⟨#[]⟩, .int .i64 0, .int .i64 0, .int .i64 0, .int .i64 0, .int .i64 0, .string ⟨#[]⟩, .slice none 0 0] 48)) := (Moves.refl _ _).alloc _
  have b0 := heap_alloc_new w (.cells #[.int .i64 0, .slice none 0 0, .string ⟨#[]⟩, .string ⟨#[]⟩, .int .i64 0, .int .i64 0, .int .i64 0, .int .i64 0, .int .i64 0, .string ⟨#[]⟩, .slice none 0 0] 48)
  obtain ⟨R, hR⟩ : ∃ R, w.heap.size = R := ⟨_, rfl⟩
  rw [hR] at b0
  have n1 : Moves [] (w.alloc (.cells #[.int .i64 0, .slice none 0 0, .string ⟨#[]⟩, .string ⟨#[]⟩, .int .i64 0, .int .i64 0, .int .i64 0, .int .i64 0, .int .i64 0, .string ⟨#[]⟩, .slice none 0 0] 48)) ((w.alloc (.cells #[.int .i64 0, .slice none 0 0, .string ⟨#[]⟩, .string ⟨#[]⟩, .int .i64 0, .int .i64 0, .int .i64 0, .int .i64 0, .int .i64 0, .string ⟨#[]⟩, .slice none 0 0] 48)).alloc (.cells #[.int .i64 0, .slice none 0 0, .string ⟨#[]⟩, .string ⟨#[]⟩, .int .i64 0, .int .i64 0, .int .i64 0, .int .i64 0, .int .i64 0, .string ⟨#[]⟩, .slice none 0 0] 48)) := (Moves.refl _ _).alloc _
  have c0 := heap_alloc_new (w.alloc (.cells #[.int .i64 0, .slice none 0 0, .string ⟨#[]⟩, .string ⟨#[]⟩, .int .i64 0, .int .i64 0, .int .i64 0, .int .i64 0, .int .i64 0, .string ⟨#[]⟩, .slice none 0 0] 48)) (.cells #[.int .i64 0, .slice none 0 0, .string ⟨#[]⟩, .string ⟨#[]⟩, .int .i64 0, .int .i64 0, .int .i64 0, .int .i64 0, .int .i64 0, .string ⟨#[]⟩, .slice none 0 0] 48)
  have hsz : (w.alloc (.cells #[.int .i64 0, .slice none 0 0, .string ⟨#[]⟩, .string ⟨#[]⟩, .int .i64 0, .int .i64 0, .int .i64 0, .int .i64 0, .int .i64 0, .string ⟨#[]⟩, .slice none 0 0] 48)).heap.size = R + 1 := by rw [← hR]; simp
  rw [hsz] at c0
  have b1 := n1.at b0 (by simp)
  have hv2 := hv1.moves (n0.then n1) (by simp)
  have n01 := n0.then n1
  go_enter Tryz.func66, Tryz.ntmps66
  go_wp2_with fail
  try rw [hsz]
  generalize ((w.alloc (.cells #[.int .i64 0, .slice none 0 0, .string ⟨#[]⟩, .string ⟨#[]⟩, .int .i64 0, .int .i64 0, .int .i64 0, .int .i64 0, .int .i64 0, .string ⟨#[]⟩, .slice none 0 0] 48)).alloc (.cells #[.int .i64 0, .slice none 0 0, .string ⟨#[]⟩, .string ⟨#[]⟩, .int .i64 0, .int .i64 0, .int .i64 0, .int .i64 0, .int .i64 0, .string ⟨#[]⟩, .slice none 0 0] 48)) = W1 at *
  clear n0 n1 b0 hsz hv1
  have l1 := n01.size
  refine (cread_w N g1 (R + 1) _ bs W1 hv2 ho (by omega) c0 (by omega)).mono ?_
  rintro _ w2 (⟨P, rest, c, hd, rfl, hb, hA, m2⟩ | ⟨hd, rfl, m2⟩)
  · have b2 := m2.at b1 (by simp)
    have HA : Hid (AnsC w2 c.toList P) := hA
    obtain ⟨ar, nr, cr, sa, ns, cs, g2, hc, -⟩ := hA
    obtain ⟨c⟩ := c
    obtain rfl : c = _ := hc
    obtain ⟨q0, q1, q2, q3, q4, q5, q6, q7, q8, q9, q10⟩ := eleven_cells hb
    obtain ⟨z0, z1, z2, z3, z4, z5, z6, z7, z8, z9, z10⟩ := eleven_cells b2
    have zfz := eleven_fz b2
    have n02 : Hid (Moves [] w w2) := n01.trans m2 (fun x hx => .inr (by simp at hx; omega))
    have HD : Hid (dAns bs = some (P, rest)) := hd
    clear hd hv2 hv0 c0 b1 m2 n01
    cases rest with
    | nil =>
      have HW : Hid (dWhole bs = some P) := dWhole_yes HD.out rfl
      go_wp2_with fail
      have so := stored11 b2 (.int .i64 P.code) (.slice ar nr cr) (.string P.lo) (.string P.hi) (.int .i64 P.grp) (.int .i64 P.gen) (.int .i64 P.old) (.int .i64 P.to) (.int .i64 P.act) (.string P.at') (.slice sa ns cs)
      have HA2 := HA.out.stay (stayA so.2 b2 notA)
      refine bodyPost_ret (ret_ans1 rfl _ _ _ _ _ _ _ _ _ _ _ _ _ _ rfl so.1) rfl ?_
      show DecA w (dWhole bs) _ _
      rw [HW.out]
      exact ⟨_, rfl, HA2, n02.out.trans so.2 (fun x hx => .inr (by simp at hx; omega))⟩
    | cons r1 rs =>
      have HW : Hid (dWhole bs = none) := dWhole_no HD.out (by simp)
      go_wp2_with fail
      have so := stored11 b2 (.int .i64 0) (.slice none 0 0) (.string ⟨#[]⟩) (.string ⟨#[]⟩) (.int .i64 0) (.int .i64 0) (.int .i64 0) (.int .i64 0) (.int .i64 0) (.string ⟨#[]⟩) (.slice none 0 0)
      refine bodyPost_ret (ret_ans1 rfl _ _ _ _ _ _ _ _ _ _ _ _ _ _ rfl so.1) rfl ?_
      show DecA w (dWhole bs) _ _
      rw [HW.out]
      exact ⟨rfl, n02.out.trans so.2 (fun x hx => .inr (by simp at hx; omega))⟩
  · have b2 := m2.at b1 (by simp)
    obtain ⟨z0, z1, z2, z3, z4, z5, z6, z7, z8, z9, z10⟩ := eleven_cells b2
    have zfz := eleven_fz b2
    have n02 : Hid (Moves [] w w2) := n01.then m2
    have HW : Hid (dWhole bs = none) := dWhole_none hd
    go_wp2_with fail
    have so := stored11 b2 (.int .i64 0) (.slice none 0 0) (.string ⟨#[]⟩) (.string ⟨#[]⟩) (.int .i64 0) (.int .i64 0) (.int .i64 0) (.int .i64 0) (.int .i64 0) (.string ⟨#[]⟩) (.slice none 0 0)
    refine bodyPost_ret (ret_ans1 rfl _ _ _ _ _ _ _ _ _ _ _ _ _ _ rfl so.1) rfl ?_
    show DecA w (dWhole bs) _ _
    rw [HW.out]
    exact ⟨rfl, n02.out.trans so.2 (fun x hx => .inr (by simp at hx; omega))⟩
end Go.Proofs.YtilbbnmhnacnlaaGreat
/-
  What was written of an answer is read as itself; beginnings of it are not read.
-/
namespace Go.Proofs.YtilbbnmhnacnlaaGreat
open Go.RowKit

theorem dText_enc {most : Nat} (hm : most ≤ 1048576) (tx r : List Nat) (h : tx.length ≤ most) : dText most (be 4 tx.length ++ (tx ++ r)) = some (tx, r) := by
  obtain ⟨e1, e2, e3⟩ := take_of (bs := be 4 tx.length ++ (tx ++ r)) rfl (be_length 4 _)
  have hv : val (be 4 tx.length) = tx.length := val_be (by omega)
  have hok : textB (be 4 tx.length ++ (tx ++ r)) most = true := by
    unfold textB
    rw [e1, e2, hv]
    simp only [Bool.and_eq_true, decide_eq_true_eq, List.length_append]
    rw [be_length]
    omega
  unfold dText
  rw [if_pos hok, e1, e2, hv]
  simp
theorem dText_str (s : ByteArray) (r : List Nat) (h : s.size ≤ 16) : dText 16 (be 4 s.size ++ (zbs s ++ r)) = some (zbs s, r) := by
  have e : (zbs s).length = s.size := by rw [← sbs_zbs]; exact sbs_length s
  have q := dText_enc (most := 16) (by omega) (zbs s) r (by rw [e]; exact h)
  rw [e] at q
  exact q
theorem iter_enc {α : Type} {f : List Nat → Option (α × List Nat)} (enc : α → List Nat) (can : α → α) : ∀ (n : Nat) (xs : List α) (_ : xs.length = n) (_ : ∀ x ∈ xs, ∀ r, f (enc x ++ r) = some (can x, r)) (r : List Nat), iter f n ((xs.map enc).flatten ++ r) = some (xs.map can, r)
  | 0, xs, hn, _, r => by
    obtain rfl := List.eq_nil_of_length_eq_zero hn
    rfl
  | n + 1, xs, hn, h, r => by
    obtain ⟨ys, y, rfl⟩ : ∃ ys y, xs = ys ++ [y] := by
      have hne : xs ≠ [] := by intro e; rw [e] at hn; simp at hn
      exact ⟨xs.dropLast, xs.getLast hne, (List.dropLast_concat_getLast hne).symm⟩
    have hl : ys.length = n := by simpa using hn
    have q := iter_enc (f := f) enc can n ys hl (fun x hx => h x (by simp [hx])) (enc y ++ r)
    have e : ((ys ++ [y]).map enc).flatten ++ r = (ys.map enc).flatten ++ (enc y ++ r) := by simp
    rw [e, List.map_append]
    exact iter_step q (h y (by simp) r)
theorem dVal_enc {p : Pv} (h : pvr p = true) (hf : Pl.Fits p.n) (r : List Nat) : dVal (penc p ++ r) = some (pcanon p, r) := by
  have hv : (p.kind = 1 ∧ p.bs.length ≤ 16) ∨ p.kind = 2 := by
    unfold pvr vright Pv.vm at h
    simpa using h
  rcases hv with ⟨hk, hl⟩ | hk
  · have ek : kd p.kind = 1 := by rw [hk]; rfl
    have ep : penc p = [1] ++ be 4 p.bs.length ++ p.bs := venc_text (A := p.vm (.slice none 0 0) 0) ek
    have ec : pcanon p = ⟨1, p.bs, 0⟩ := by unfold pcanon; rw [ek]; rfl
    have e0 : penc p ++ r = [1] ++ (be 4 p.bs.length ++ (p.bs ++ r)) := by rw [ep]; simp
    obtain ⟨e1, e2, e3⟩ := take_of (bs := penc p ++ r) e0 (n := 1) rfl
    have hd := dText_enc (most := 16) (by omega) p.bs r hl
    obtain ⟨q1, q2, q3⟩ := dText_yes hd
    unfold dVal
    have c1 : (decide (1 ≤ (penc p ++ r).length) && decide (val ((penc p ++ r).take 1) = 1) && textB ((penc p ++ r).drop 1) 16) = true := by
      rw [e1, e2, textB_iff.2 q1]
      simp only [Bool.and_eq_true, decide_eq_true_eq]
      exact ⟨⟨e3, rfl⟩, trivial⟩
    rw [if_pos c1, e2, q2, q3, ec]
  · have ek : kd p.kind = 2 := by rw [hk]; rfl
    have ep : penc p = [2] ++ be 8 (Pl.canon p.n) := venc_num (A := p.vm (.slice none 0 0) 0) ek
    have ec : pcanon p = ⟨2, [], Pl.canon p.n⟩ := by unfold pcanon; rw [ek]; rfl
    have e0 : penc p ++ r = [2] ++ (be 8 (Pl.canon p.n) ++ r) := by rw [ep]; simp
    obtain ⟨e1, e2, e3⟩ := take_of (bs := penc p ++ r) e0 (n := 1) rfl
    obtain ⟨f1, f2, f3⟩ := take_of (bs := be 8 (Pl.canon p.n) ++ r) rfl (be_length 8 _)
    have hv8 : val (be 8 (Pl.canon p.n)) = Pl.canon p.n := val_be (Pl.canon_fits_lt hf)
    unfold dVal
    have c1 : ¬ (decide (1 ≤ (penc p ++ r).length) && decide (val ((penc p ++ r).take 1) = 1) && textB ((penc p ++ r).drop 1) 16) = true := by
      rw [e1]
      have : val [2] = 2 := rfl
      rw [this]
      simp
    have c2 : (decide (1 ≤ (penc p ++ r).length) && decide (val ((penc p ++ r).take 1) = 2) && (decide (8 ≤ ((penc p ++ r).drop 1).length) && decide (Pl.canon (val (((penc p ++ r).drop 1).take 8)) = val (((penc p ++ r).drop 1).take 8)))) = true := by
      rw [e1, e2, f1, hv8, Pl.canon_canon]
      simp only [Bool.and_eq_true, decide_eq_true_eq]
      exact ⟨⟨e3, rfl⟩, f3, trivial⟩
    rw [if_neg c1, if_pos c2, e2, f1, f2, hv8, ec]
theorem dVer_enc {x : Pver} (ht : ptime x.t = true) (h : pvr x.v = true) (hf : Pl.Fits x.v.n) (r : List Nat) : dVer tAny (pencV x ++ r) = some (pcanonV x, r) := by
  have h0 : 0 ≤ x.t ∧ x.t ≤ 1099511627776 := by unfold ptime at ht; simpa using ht
  obtain ⟨e1, e2, e3⟩ := take_of (bs := pencV x ++ r) (hd := be 8 x.t.toNat) (rest := penc x.v ++ r) (by unfold pencV; simp) (be_length 8 _)
  have hv : val (be 8 x.t.toNat) = x.t.toNat := val_be (by omega)
  rw [dVer_of (T := tAny) e3 rfl (by rw [e2]; exact dVal_enc h hf r), e1, hv]
  have : wrap64 (x.t.toNat : Int) = x.t := by
    rw [Int.toNat_of_nonneg h0.1]
    unfold wrap64
    omega
  rw [this]
  rfl
def FitR (R : List Pcol) : Prop := ∀ c ∈ R, ∀ y ∈ c.l, Pl.Fits y.v.n ∧ ∀ z ∈ y.v.bs, z < 256
theorem dCol_enc {c : Pcol} (hn : pname c.name = true) (hl : prightV c.l = true) (hf : ∀ y ∈ c.l, Pl.Fits y.v.n) (r : List Nat) : dCol tAny (pencC c ++ r) = some (pcanonC c, r) := by
  have h2 : c.l.length ≤ 2 := by
    by_cases h : 1 ≤ c.l.length ∧ c.l.length ≤ 2
    · exact h.2
    · rw [prightV_len h] at hl; simp at hl
  have h1 : c.name.size ≤ 16 := by unfold pname at hn; simp at hn; exact hn.2
  have e0 : pencC c ++ r = be 4 c.name.size ++ (zbs c.name ++ ([c.l.length] ++ (pencVs c.l ++ r))) := by unfold pencC; rw [sbs_zbs]; simp
  obtain ⟨e1, e2, e3⟩ := take_of (bs := [c.l.length] ++ (pencVs c.l ++ r)) rfl (n := 1) rfl
  have hv : val [c.l.length] = c.l.length := by simp [val]
  have q := dCol_of (T := tAny) (bs := pencC c ++ r) (by rw [e0]; exact dText_str c.name _ h1) e3 (by
    rw [e1, e2, hv]
    exact iter_enc pencV pcanonV _ c.l rfl (fun x hx r => dVer_enc (prightV_time hl x hx).1 (prightV_time hl x hx).2 (hf x hx) r) r)
  rw [q, zbs_back]
  rfl
theorem dGood_enc {R : List Pcol} (h : pright R = true) (hf : FitR R) (r : List Nat) : dGood tAny (pencR R ++ r) = some (R.map pcanonC, r) := by
  have e0 : pencR R ++ r = [R.length] ++ (pencCs R ++ r) := by unfold pencR; simp
  obtain ⟨e1, e2, e3⟩ := take_of (bs := pencR R ++ r) e0 (n := 1) rfl
  have hv : val [R.length] = R.length := by simp [val]
  refine dGood_of ?_ (pright_canon h)
  unfold dRow
  rw [if_pos e3, e1, e2, hv]
  exact iter_enc pencC pcanonC _ R rfl (fun x hx r => dCol_enc (pright_at h hx).1 (pright_at h hx).2 (fun y hy => (hf x hx y hy).1) r) r
def canN (x : Pnam) : Pnam := ⟨x.name, x.r.map pcanonC⟩
theorem dNam_enc {x : Pnam} (h : rRow x = true) (hf : FitR x.r) (r : List Nat) : dNam (encN x ++ r) = some (canN x, r) := by
  unfold rRow at h
  simp only [Bool.and_eq_true] at h
  have h1 : x.name.size ≤ 16 := by have := h.1; unfold pname at this; simp at this; exact this.2
  have e0 : encN x ++ r = be 4 x.name.size ++ (zbs x.name ++ (pencR x.r ++ r)) := by unfold encN; rw [sbs_zbs]; simp
  rw [e0, dNam_of (dText_str x.name _ h1) (dGood_enc h.2 hf r), zbs_back]
  rfl
theorem dNams_enc {xs : List Pnam} (h : ∀ x ∈ xs, rRow x = true) (hf : ∀ x ∈ xs, FitR x.r) (r : List Nat) : iter dNam xs.length (encNs xs ++ r) = some (xs.map canN, r) :=
  iter_enc encN canN _ xs rfl (fun x hx r => dNam_enc (h x hx) (hf x hx) r) r
theorem dSpan_enc {lo hi : ByteArray} (h : spR ⟨lo, hi⟩ = true) (h1 : lo.size ≤ 16) (h2 : hi.size ≤ 16) (r : List Nat) : dSpan (encX lo ++ (encX hi ++ r)) = some (⟨lo, hi⟩, r) := by
  have e0 : encX lo ++ (encX hi ++ r) = be 4 lo.size ++ (zbs lo ++ (be 4 hi.size ++ (zbs hi ++ r))) := by unfold encX; simp
  rw [e0]
  unfold dSpan
  rw [pbn_some (dText_str lo _ h1), pbn_some (dText_str hi _ h2)]
  simp only [zbs_back]
  rw [if_pos h]
def canA (p : Pans) : Pans := { p with rows := p.rows.map canN }
theorem rRow_can {x : Pnam} (h : rRow x = true) : rRow (canN x) = true := by
  unfold rRow at h ⊢
  simp only [Bool.and_eq_true] at h ⊢
  exact ⟨h.1, pright_canon h.2⟩
theorem rAns_can {p : Pans} (h : rAns p = true) : rAns (canA p) = true := by
  rw [rAns_iff] at h ⊢
  obtain ⟨h1, h2, h3⟩ := h
  refine ⟨h1, ?_, h3⟩
  unfold rRows at h2 ⊢
  simp only [Bool.and_eq_true, decide_eq_true_eq, List.all_eq_true] at h2 ⊢
  refine ⟨by simpa [canA] using h2.1, ?_⟩
  intro y hy
  simp only [canA, List.mem_map] at hy
  obtain ⟨x, hx, rfl⟩ := hy
  exact rRow_can (h2.2 x hx)
theorem spR_size {lo hi : ByteArray} (h : spR ⟨lo, hi⟩ = true) : lo.size ≤ 16 ∧ hi.size ≤ 16 := by
  unfold spR spE at h
  simp at h
  exact h.1
theorem dAns_enc {p : Pans} (h : rAns p = true) (hf : ∀ x ∈ p.rows, FitR x.r) (r : List Nat) : dAns (encA p ++ r) = some (canA p, r) := by
  have hc := rAns_can h
  obtain ⟨h1, h2, h3, h4, h5, h6, h7, h8, h9, h10⟩ := rAns_iff.1 h
  rw [wi_iff] at h1 h4 h5 h6 h7 h8
  obtain ⟨l1, l2⟩ := spR_size h3
  unfold rRows at h2
  simp only [Bool.and_eq_true, decide_eq_true_eq, List.all_eq_true] at h2
  have h9' : p.at'.size ≤ 16 := by unfold rPlace at h9; simpa using h9
  have e0 : encA p ++ r = [p.code.toNat] ++ ([p.rows.length] ++ (encNs p.rows ++ (encX p.lo ++ (encX p.hi ++ ([p.grp.toNat] ++ ([p.to.toNat] ++ ([p.act.toNat] ++ (be 4 p.gen.toNat ++ (be 4 p.old.toNat ++ (be 4 p.at'.size ++ (zbs p.at' ++ (be 4 p.st.length ++ (p.st ++ r))))))))))))) := by unfold encA encX; simp
  rw [e0]
  unfold dAns
  rw [pbn_some (dNum_one _ _), pbn_some (dNum_one _ _), pbn_some (dNams_enc h2.2 hf _), pbn_some (dSpan_enc h3 l1 l2 _), pbn_some (dNum_one _ _), pbn_some (dNum_one _ _), pbn_some (dNum_one _ _), pbn_some (dNum_be (by omega) _), pbn_some (dNum_be (by omega) _), pbn_some (dText_str p.at' _ h9'), pbn_some (dText_enc (Nat.le_refl _) p.st r h10)]
  simp only [zbs_back]
  rw [Int.toNat_of_nonneg h1.1, Int.toNat_of_nonneg h4.1, Int.toNat_of_nonneg h5.1, Int.toNat_of_nonneg h6.1, Int.toNat_of_nonneg h7.1, Int.toNat_of_nonneg h8.1]
  exact if_pos hc
theorem dWhole_enc {p : Pans} (h : rAns p = true) (hf : ∀ x ∈ p.rows, FitR x.r) : dWhole (encA p) = some (canA p) := by
  have q := dAns_enc h hf []
  rw [List.append_nil] at q
  exact dWhole_yes q rfl
end Go.Proofs.YtilbbnmhnacnlaaGreat
/-
  A Reader, and boxes of the call's own beside it.
-/
namespace Go.Proofs.YtilbbnmhnacnlaaGreat
open Go.RowKit

end Go.Proofs.YtilbbnmhnacnlaaGreat
/-
  change.Take of any bytes.
-/
namespace Go.Proofs.YtilbbnmhnacnlaaGreat
open Go.RowKit

def pz : Pv := ⟨0, [], 0⟩
end Go.Proofs.YtilbbnmhnacnlaaGreat
/-
  change.TakeCond of any bytes.
-/
namespace Go.Proofs.YtilbbnmhnacnlaaGreat
open Go.RowKit

structure Pcd where
  has : Bool
  want : Bool
  col : ByteArray
  v : Pv
def cdz : Pcd := ⟨false, false, ⟨#[]⟩, pz⟩
end Go.Proofs.YtilbbnmhnacnlaaGreat
/-
  Commands as plain data, how they lie in memory; may they be asked: cmd's Right and what it asks.
-/
namespace Go.Proofs.YtilbbnmhnacnlaaGreat
open Go.RowKit

structure Pop where
  kind : Int
  row : ByteArray
  hi : ByteArray
  cd : Pcd
  l : List Pchg
  most : Int
structure Pcmd where
  kind : Int
  op : Pop
  lo : ByteArray
  hi : ByteArray
  gen : Int
  at' : ByteArray
  to : Int
  act : Int
  st : List Nat
theorem Tryz.size39 : (Tryz.prog.info? 39).map (·.size) = some 19 := by kernel_rfl
theorem wpList_loadCmd {ops : Array Oper} {rest : List Oper} {op : Oper} {a : Act} {w : World} {Q : Exit → Act → World → Prop} (hgd : op.guard = none) (x : Operand) (ho : op.op = .load 39 x) (b : Nat) (hx : a.eval x = .pointer (some ⟨b, 0, none⟩)) (cs : Array Value) {t : TypeId} {fz : Nat × Nat} (hg : w.heap[b]? = some (.cells cs t fz)) (hn : cs.size = 19)
    (h : wpList Tryz.prog ops Q rest (a.put op.dst (.agg cs)) w) : wpList Tryz.prog ops Q (op :: rest) a w :=
  wpList_plain hgd fun _ hK => by
    have := run_loadVar_row (P := Tryz.prog) w b t 39 cs fz _ hg Tryz.underlying39 rfl (by rw [hn]; exact Tryz.size39)
    unfold Oper.wp execOp
    simp only [ho, hx, Instr.loadAt, Instr.sureAddr, Sem.run_bind, Sem.run_pure, Result.andThen_ok, this]
    exact hK _ _ h
theorem c19 {w : World} {p : Nat} {x0 x1 x2 x3 x4 x5 x6 x7 x8 x9 x10 x11 x12 x13 x14 x15 x16 x17 x18 : Value} {t : TypeId} (h : w.heap[p]? = some (.cells #[x0, x1, x2, x3, x4, x5, x6, x7, x8, x9, x10, x11, x12, x13, x14, x15, x16, x17, x18] t (0, 0))) : w.cell? ⟨p, 0, none⟩ = some x0 ∧ w.cell? ⟨p, 1, none⟩ = some x1 ∧ w.cell? ⟨p, 2, none⟩ = some x2 ∧ w.cell? ⟨p, 3, none⟩ = some x3 ∧ w.cell? ⟨p, 4, none⟩ = some x4 ∧ w.cell? ⟨p, 5, none⟩ = some x5 ∧ w.cell? ⟨p, 6, none⟩ = some x6 ∧ w.cell? ⟨p, 7, none⟩ = some x7 ∧ w.cell? ⟨p, 8, none⟩ = some x8 ∧ w.cell? ⟨p, 9, none⟩ = some x9 ∧ w.cell? ⟨p, 10, none⟩ = some x10 ∧ w.cell? ⟨p, 11, none⟩ = some x11 ∧ w.cell? ⟨p, 12, none⟩ = some x12 ∧ w.cell? ⟨p, 13, none⟩ = some x13 ∧ w.cell? ⟨p, 14, none⟩ = some x14 ∧ w.cell? ⟨p, 15, none⟩ = some x15 ∧ w.cell? ⟨p, 16, none⟩ = some x16 ∧ w.cell? ⟨p, 17, none⟩ = some x17 ∧ w.cell? ⟨p, 18, none⟩ = some x18 := by
  simp [World.cell?, h]
def rCd (c : Pcd) : Bool := !c.has || (pname c.col && (!c.want || pvr c.v))
def rCh (c : Pchg) : Bool := decide (cRight c = 0)
def rChs (l : List Pchg) : Bool := wi (l.length : Int) 1 8 && l.all rCh
def rOp (o : Pop) : Bool := if o.kind = 1 then pname o.row else if o.kind = 2 then (pname o.row && rCd o.cd) && rChs o.l else if o.kind = 3 then spR ⟨o.row, o.hi⟩ && wi o.most 1 16 else false
def rTab (p : Pcmd) : Bool := spR ⟨p.lo, p.hi⟩ && wi p.gen 1 1073741824
def rPlan (p : Pcmd) : Bool := decide (p.act = 0) || ((wi p.act 1 3 && rPlace p.at') && wi p.to 0 255)
def rPub (p : Pcmd) : Bool := wi p.gen 1 1073741824 && (decide (p.to = 0) || decide (p.to = -1))
def rCmd (p : Pcmd) : Bool := if p.kind = 1 then rOp p.op else if p.kind = 2 ∨ p.kind = 4 then rTab p else if p.kind = 3 then rTab p && decide (p.st.length ≤ 1048576) else if p.kind = 5 ∨ p.kind = 6 then rTab p && spC ⟨p.lo, p.hi⟩ p.at' else if p.kind = 7 then rPlace p.at' else if p.kind = 8 then rPlan p else if p.kind = 9 then rPub p else decide (p.kind = 10)

set_option maxRecDepth 100000 in
theorem crightGen_w (n : Int) (w : World) : Calls Tryz.prog 98 #[.int .i64 n] w fun e w' => e = .returned (.bool (wi n 1 1073741824)) ∧ w = w' := by
  have hq := cwithin_w n 1 1073741824 w
  obtain ⟨b, hb⟩ : ∃ b, wi n 1 1073741824 = b := ⟨_, rfl⟩
  rw [hb] at hq ⊢
  go_enter Tryz.func98, Tryz.ntmps98
  go_wp2_with fail
  refine hq.mono ?_
  rintro _ _ ⟨rfl, rfl⟩
  go_wp2_with fail
  go_ret
  exact ⟨rfl, rfl⟩
end Go.Proofs.YtilbbnmhnacnlaaGreat
