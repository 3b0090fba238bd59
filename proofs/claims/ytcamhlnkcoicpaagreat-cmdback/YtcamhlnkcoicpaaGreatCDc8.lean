/-
  cmd.Decode of any bytes.
-/
import Derived.Test.YtcamhlnkcoicpaaGreatCTk8
import Derived.Test.YtcamhlnkcoicpaaGreatCB22
namespace Go.Proofs.YtcamhlnkcoicpaaGreat
open Go.RowKit

/-- All of the bytes are a command. -/
def dWholeM (bs : List Nat) : Option Pcmd := match dCmd bs with
  | some (p, []) => some p
  | _ => none
theorem dWholeM_none {bs : List Nat} (h : dCmd bs = none) : dWholeM bs = none := by unfold dWholeM; rw [h]
theorem dWholeM_yes {bs : List Nat} {p : Pcmd} {r : List Nat} (h : dCmd bs = some (p, r)) (hr : r = []) : dWholeM bs = some p := by unfold dWholeM; rw [h, hr]
theorem dWholeM_no {bs : List Nat} {p : Pcmd} {r : List Nat} (h : dCmd bs = some (p, r)) (hr : r ≠ []) : dWholeM bs = none := by
  unfold dWholeM
  rw [h]
  cases r with
  | nil => exact absurd rfl hr
  | cons a t => rfl
theorem CmdD.elder {W W' w : World} {c : List Value} {p : Pcmd} (h : CmdD W' w c p) (hle : W.heap.size ≤ W'.heap.size) : CmdD W w c p := by
  obtain ⟨ca, cn, cc, la, ln, lc, sa, sn, sc, gs, e, k1, k2, k3, k4, k5⟩ := h
  exact ⟨ca, cn, cc, la, ln, lc, sa, sn, sc, gs, e, k1, k2.elder hle, k3, k4, k5⟩
theorem CmdD.size {W w : World} {c : List Value} {p : Pcmd} (h : CmdD W w c p) : c.length = 19 := by
  obtain ⟨ca, cn, cc, la, ln, lc, sa, sn, sc, gs, rfl, _⟩ := h
  rfl
theorem CmdD.oneCells {W w : World} {c : List Value} {p : Pcmd} (h : CmdD W w c p) : c.toArray.all (·.oneCell') = true := by
  obtain ⟨ca, cn, cc, la, ln, lc, sa, sn, sc, gs, rfl, _⟩ := h
  simp [Value.oneCell']

set_option maxRecDepth 100000 in
set_option maxHeartbeats 4000000 in
theorem mdec1_w (N p g qa : Nat) (bs : List Nat) (w : World) (h : RdIs w p g bs false) (ho : OctN N bs) (hg : g < w.heap.size) (old : Array Value) (hos : old.size = 19) (ha : w.heap[qa]? = some (.cells old 36 (0, 0))) (hpa : qa ≠ p) (hga : g ≠ qa) :
    Calls Tryz.prog 57 #[.pointer (some ⟨p, 0, none⟩), .pointer (some ⟨qa, 0, none⟩)] w fun e w' =>
      (∃ P rest c, dCmd bs = some (P, rest) ∧ e = .returned (.tuple #[]) ∧ RdIs w' p g rest false ∧ w'.heap[qa]? = some (.cells c 36 (0, 0)) ∧ CmdD w w' c.toList P ∧ Moves [p, qa] w w') ∨ (dCmd bs = none ∧ e = .panicked (stop p) ∧ ∃ bs', RdIs w' p g bs' true ∧ Moves [p] w w') := by
  have hT := ctake_w N p g bs w h ho hg
  cases hd : dCmd bs with
  | none =>
    rw [hd] at hT
    go_enter Tryz.func57, Tryz.ntmps57
    go_wp2_with fail
    refine hT.mono ?_
    rintro _ w2 ⟨rfl, ⟨bs', hr2⟩, m2⟩
    exact ⟨rfl, .inr ⟨trivial, rfl, bs', hr2, m2⟩⟩
  | some z =>
    obtain ⟨P, rest⟩ := z
    rw [hd] at hT
    go_enter Tryz.func57, Tryz.ntmps57
    go_wp2_with fail
    refine hT.mono ?_
    rintro _ w2 ⟨c, rfl, hA, hr2, m2⟩
    have a2 := m2.at ha (by simpa using hpa)
    have HA : Hid (CmdD w w2 c P) := hA
    have hsz : c.toArray.size = 19 := by simpa using hA.size
    have hone := hA.oneCells
    clear hA hT
    go_wp2_with (with_reducible refine stopStore _ _ rfl ?_)
    unfold Hid
    refine wpList_storeCmd rfl _ _ rfl qa c.toArray rfl rfl a2 hsz hos hone ?_
    intro w3 hb3 m3
    have hD3 := HA.out.box m3 a2 (by decide) (by decide)
    have hr3 := hr2.moves m3 (by simpa using Ne.symm hpa) (by simpa using hga)
    go_wp2_with fail
    go_end0
    exact ⟨P, rest, ⟨rfl, rfl⟩, rfl, hr3, _, hb3, by simpa using hD3, (m2.mono (by simp)).then (m3.mono (by simp))⟩

set_option maxRecDepth 100000 in
theorem mread_w (N g qa : Nat) (v : Value) (bs : List Nat) (w : World) (hv : IsB w g v bs) (ho : OctN N bs) (hg : g < w.heap.size) (old : Array Value) (hos : old.size = 19) (ha : w.heap[qa]? = some (.cells old 36 (0, 0))) (hga : g ≠ qa) :
    Calls Tryz.prog 56 #[v, .func (.func 57) #[] #[.pointer (some ⟨qa, 0, none⟩)]] w fun e w' =>
      (∃ P rest c, dCmd bs = some (P, rest) ∧ e = .returned (.bool ((rest.length : Int) == 0)) ∧ w'.heap[qa]? = some (.cells c 36 (0, 0)) ∧ CmdD w w' c.toList P ∧ Moves [qa] w w') ∨ (dCmd bs = none ∧ e = .returned (.bool false) ∧ Moves [] w w') := by
  have la := lt_of_block ha
  refine (read_any 57 #[.pointer (some ⟨qa, 0, none⟩)] v g bs w hv (by omega) (fun rest w2 => ∃ P c, dCmd bs = some (P, rest) ∧ (∃ c, w2.heap[w.heap.size]? = some (.cells c 149 (0, 0))) ∧ w2.heap[qa]? = some (.cells c 36 (0, 0)) ∧ CmdD w w2 c.toList P ∧ Moves [qa] w w2) (fun _ w2 => dCmd bs = none ∧ Moves [] w w2) (fun _ _ => rfl) ?_).mono ?_
  · intro w1 hbg hm
    have hlt1 : w.heap.size < w1.heap.size := hbg.1.ltp
    refine (mdec1_w N w.heap.size g qa bs w1 hbg.1 ho (Nat.lt_of_lt_of_le hg hm.size) old hos (hm.at ha (by simp)) (by omega) hga).mono ?_
    rintro _ w2 (⟨P, rest, c, hd, rfl, hr, hb, hA, m⟩ | ⟨hd, rfl, bs', hr, m⟩)
    · refine .inl ⟨rfl, rest, ⟨hr, m.at hbg.2 (by simp; omega)⟩, P, c, hd, hr.block, hb, hA.elder hm.size, ?_⟩
      exact (hm.mono (by simp)).trans m (fun x hx => by
          simp at hx
          rcases hx with rfl | rfl
          · exact .inr (Nat.le_refl _)
          · exact .inl (by simp))
    · exact .inr ⟨rfl, bs', ⟨hr, m.at hbg.2 (by simp)⟩, hd, hm.trans m (fun x hx => .inr (by simp at hx; omega))⟩
  · rintro _ w' (⟨rest, rfl, w2, ⟨P, c, hd, ⟨c2, hc⟩, hb, hA, m⟩, m2⟩ | ⟨rfl, bs', w2, ⟨hd, m⟩, m2⟩)
    · exact .inl ⟨P, rest, c, hd, rfl, m2.at hb (by simp; omega), hA.box m2 hc (by decide) (by decide), m.trans m2 (fun x hx => .inr (by simp at hx; omega))⟩
    · exact .inr ⟨hd, rfl, m.trans m2 (fun x hx => .inr (by simp at hx; omega))⟩

theorem ret_cmd1 {fn : Func} {p u : Tmp} (h : fn.results = #[.cell p 36, .tmp u]) (tmps : Array Value) (w : World) (g : Nat) (cs : Array Value) (hn : cs.size = 19) (hp : tmps.getD p undef = .pointer (some ⟨g, 0, none⟩)) (hg : w.heap[g]? = some (.cells cs 36 (0, 0))) :
    (results fn tmps).run Tryz.prog w = .ok (.tuple #[.agg cs, tmps.getD u undef]) w := by
  have hl := run_loadVar_row (P := Tryz.prog) w g 36 36 _ (0, 0) _ hg Tryz.underlying36 rfl (by rw [hn]; exact Tryz.size36)
  rw [results_cell_tmp h, hp]
  simp only [asAddr, Sem.run_pure, Result.andThen, hl]

/-- What Decode answers. -/
def DecM (w0 : World) (o : Option Pcmd) (e : Ending) (w' : World) : Prop := match o with
  | some p => ∃ c, e = .returned (.tuple #[.agg c.toArray, .int .i64 0]) ∧ CmdD w0 w' c p ∧ Moves [] w0 w'
  | none => e = .returned (.tuple #[.agg #[.int .i64 0, .int .i64 0, .string ⟨#[]⟩, .string ⟨#[]⟩, .bool false, .bool false, .string ⟨#[]⟩, .int .i64 0, .slice none 0 0, .float .f64 0, .slice none 0 0, .int .i64 0, .string ⟨#[]⟩, .string ⟨#[]⟩, .int .i64 0, .string ⟨#[]⟩, .int .i64 0, .int .i64 0, .slice none 0 0], .int .i64 12]) ∧ Moves [] w0 w'

set_option maxRecDepth 100000 in
set_option maxHeartbeats 4000000 in
theorem cdecM_w (N : Nat) (v : Value) (g : Nat) (bs : List Nat) (w : World) (hv0 : IsB w g v bs) (ho : OctN N bs) (hpos : 0 < w.heap.size) :
    Calls Tryz.prog 17 #[v] w fun e w' => DecM w (dWholeM bs) e w' := by
  obtain ⟨ad, len, cap, rfl, _⟩ := id hv0
  obtain ⟨g1, hg1, hv1⟩ := isB_inA hv0 hpos
  have n0 : Moves [] w (w.alloc (.cells #[.int .i64 0, .int .i64 0, .string ⟨#[]⟩, .string ⟨#[]⟩, .bool false, .bool false, .string ⟨#[]⟩, .int .i64 0, .slice none 0 0, .float .f64 0, .slice none 0 0, .int .i64 0, .string ⟨#[]⟩, .string ⟨#[]⟩, .int .i64 0, .string ⟨#[]⟩, .int .i64 0, .int .i64 0, .slice none 0 0] 36)) := (Moves.refl _ _).alloc _
  have b0 := heap_alloc_new w (.cells #[.int .i64 0, .int .i64 0, .string ⟨#[]⟩, .string ⟨#[]⟩, .bool false, .bool false, .string ⟨#[]⟩, .int .i64 0, .slice none 0 0, .float .f64 0, .slice none 0 0, .int .i64 0, .string ⟨#[]⟩, .string ⟨#[]⟩, .int .i64 0, .string ⟨#[]⟩, .int .i64 0, .int .i64 0, .slice none 0 0] 36)
  obtain ⟨R, hR⟩ : ∃ R, w.heap.size = R := ⟨_, rfl⟩
  rw [hR] at b0
  have n1 : Moves [] (w.alloc (.cells #[.int .i64 0, .int .i64 0, .string ⟨#[]⟩, .string ⟨#[]⟩, .bool false, .bool false, .string ⟨#[]⟩, .int .i64 0, .slice none 0 0, .float .f64 0, .slice none 0 0, .int .i64 0, .string ⟨#[]⟩, .string ⟨#[]⟩, .int .i64 0, .string ⟨#[]⟩, .int .i64 0, .int .i64 0, .slice none 0 0] 36)) ((w.alloc (.cells #[.int .i64 0, .int .i64 0, .string ⟨#[]⟩, .string ⟨#[]⟩, .bool false, .bool false, .string ⟨#[]⟩, .int .i64 0, .slice none 0 0, .float .f64 0, .slice none 0 0, .int .i64 0, .string ⟨#[]⟩, .string ⟨#[]⟩, .int .i64 0, .string ⟨#[]⟩, .int .i64 0, .int .i64 0, .slice none 0 0] 36)).alloc (.cells #[.int .i64 0, .int .i64 0, .string ⟨#[]⟩, .string ⟨#[]⟩, .bool false, .bool false, .string ⟨#[]⟩, .int .i64 0, .slice none 0 0, .float .f64 0, .slice none 0 0, .int .i64 0, .string ⟨#[]⟩, .string ⟨#[]⟩, .int .i64 0, .string ⟨#[]⟩, .int .i64 0, .int .i64 0, .slice none 0 0] 36)) := (Moves.refl _ _).alloc _
  have c0 := heap_alloc_new (w.alloc (.cells #[.int .i64 0, .int .i64 0, .string ⟨#[]⟩, .string ⟨#[]⟩, .bool false, .bool false, .string ⟨#[]⟩, .int .i64 0, .slice none 0 0, .float .f64 0, .slice none 0 0, .int .i64 0, .string ⟨#[]⟩, .string ⟨#[]⟩, .int .i64 0, .string ⟨#[]⟩, .int .i64 0, .int .i64 0, .slice none 0 0] 36)) (.cells #[.int .i64 0, .int .i64 0, .string ⟨#[]⟩, .string ⟨#[]⟩, .bool false, .bool false, .string ⟨#[]⟩, .int .i64 0, .slice none 0 0, .float .f64 0, .slice none 0 0, .int .i64 0, .string ⟨#[]⟩, .string ⟨#[]⟩, .int .i64 0, .string ⟨#[]⟩, .int .i64 0, .int .i64 0, .slice none 0 0] 36)
  have hsz : (w.alloc (.cells #[.int .i64 0, .int .i64 0, .string ⟨#[]⟩, .string ⟨#[]⟩, .bool false, .bool false, .string ⟨#[]⟩, .int .i64 0, .slice none 0 0, .float .f64 0, .slice none 0 0, .int .i64 0, .string ⟨#[]⟩, .string ⟨#[]⟩, .int .i64 0, .string ⟨#[]⟩, .int .i64 0, .int .i64 0, .slice none 0 0] 36)).heap.size = R + 1 := by rw [← hR]; simp
  rw [hsz] at c0
  have b1 := n1.at b0 (by simp)
  have hv2 := hv1.moves (n0.then n1) (by simp)
  have n01 := n0.then n1
  go_enter Tryz.func17, Tryz.ntmps17
  go_wp2_with fail
  try rw [hsz]
  generalize ((w.alloc (.cells #[.int .i64 0, .int .i64 0, .string ⟨#[]⟩, .string ⟨#[]⟩, .bool false, .bool false, .string ⟨#[]⟩, .int .i64 0, .slice none 0 0, .float .f64 0, .slice none 0 0, .int .i64 0, .string ⟨#[]⟩, .string ⟨#[]⟩, .int .i64 0, .string ⟨#[]⟩, .int .i64 0, .int .i64 0, .slice none 0 0] 36)).alloc (.cells #[.int .i64 0, .int .i64 0, .string ⟨#[]⟩, .string ⟨#[]⟩, .bool false, .bool false, .string ⟨#[]⟩, .int .i64 0, .slice none 0 0, .float .f64 0, .slice none 0 0, .int .i64 0, .string ⟨#[]⟩, .string ⟨#[]⟩, .int .i64 0, .string ⟨#[]⟩, .int .i64 0, .int .i64 0, .slice none 0 0] 36)) = W1 at *
  clear n0 n1 b0 hsz hv1
  have l1 := n01.size
  refine (mread_w N g1 (R + 1) _ bs W1 hv2 ho (by omega) _ rfl c0 (by omega)).mono ?_
  rintro _ w2 (⟨P, rest, c, hd, rfl, hb, hA, m2⟩ | ⟨hd, rfl, m2⟩)
  · have b2 := m2.at b1 (by simp)
    have HA : Hid (CmdD W1 w2 c.toList P) := hA
    have hcs : c.size = 19 := by simpa using hA.size
    have hone : c.all (·.oneCell') = true := by simpa using hA.oneCells
    have n02 : Hid (Moves [] w w2) := n01.trans m2 (fun x hx => .inr (by simp at hx; omega))
    have HD : Hid (dCmd bs = some (P, rest)) := hd
    have HN : Hid (w.heap.size ≤ W1.heap.size) := n01.size
    have HB : Hid _ := hb
    have HB2 : Hid _ := b2
    clear hd hv2 hv0 c0 b1 m2 n01 hA hb b2
    cases rest with
    | nil =>
      have HW : Hid (dWholeM bs = some P) := dWholeM_yes HD.out rfl
      go_wp2_with (with_reducible refine stopLoad _ rfl ?_)
      unfold Hid
      refine wpList_loadCmd rfl _ rfl (R + 1) rfl c HB.out hcs ?_
      go_wp2_with (with_reducible refine stopStore _ _ rfl ?_)
      unfold Hid
      refine wpList_storeCmd rfl _ _ rfl R c rfl rfl HB2.out hcs rfl hone ?_
      intro w3 hb3 m3
      go_wp2_with fail
      refine bodyPost_ret (ret_cmd1 rfl _ _ R c hcs rfl hb3) rfl ?_
      show DecM w (dWholeM bs) _ _
      rw [HW.out]
      exact ⟨c.toList, by simp, (HA.out.elder HN.out).box m3 HB2.out (by decide) (by decide), n02.out.trans m3 (fun x hx => .inr (by simp at hx; omega))⟩
    | cons r1 rs =>
      have HW : Hid (dWholeM bs = none) := dWholeM_no HD.out (by simp)
      go_wp2_with (with_reducible refine stopStore _ _ rfl ?_)
      unfold Hid
      refine wpList_storeCmd rfl _ _ rfl R #[.int .i64 0, .int .i64 0, .string ⟨#[]⟩, .string ⟨#[]⟩, .bool false, .bool false, .string ⟨#[]⟩, .int .i64 0, .slice none 0 0, .float .f64 0, .slice none 0 0, .int .i64 0, .string ⟨#[]⟩, .string ⟨#[]⟩, .int .i64 0, .string ⟨#[]⟩, .int .i64 0, .int .i64 0, .slice none 0 0] rfl rfl HB2.out rfl rfl (by simp [Value.oneCell']) ?_
      intro w3 hb3 m3
      go_wp2_with fail
      refine bodyPost_ret (ret_cmd1 rfl _ _ R _ rfl rfl hb3) rfl ?_
      show DecM w (dWholeM bs) _ _
      rw [HW.out]
      exact ⟨rfl, n02.out.trans m3 (fun x hx => .inr (by simp at hx; omega))⟩
  · have b2 := m2.at b1 (by simp)
    have n02 : Hid (Moves [] w w2) := n01.then m2
    have HW : Hid (dWholeM bs = none) := dWholeM_none hd
    have HB2 : Hid _ := b2
    clear hd hv2 hv0 c0 b1 m2 n01 b2
    go_wp2_with (with_reducible refine stopStore _ _ rfl ?_)
    unfold Hid
    refine wpList_storeCmd rfl _ _ rfl R #[.int .i64 0, .int .i64 0, .string ⟨#[]⟩, .string ⟨#[]⟩, .bool false, .bool false, .string ⟨#[]⟩, .int .i64 0, .slice none 0 0, .float .f64 0, .slice none 0 0, .int .i64 0, .string ⟨#[]⟩, .string ⟨#[]⟩, .int .i64 0, .string ⟨#[]⟩, .int .i64 0, .int .i64 0, .slice none 0 0] rfl rfl HB2.out rfl rfl (by simp [Value.oneCell']) ?_
    intro w3 hb3 m3
    go_wp2_with fail
    refine bodyPost_ret (ret_cmd1 rfl _ _ R _ rfl rfl hb3) rfl ?_
    show DecM w (dWholeM bs) _ _
    rw [HW.out]
    exact ⟨rfl, n02.out.trans m3 (fun x hx => .inr (by simp at hx; omega))⟩
end Go.Proofs.YtcamhlnkcoicpaaGreat
