/- ours -/
import Derived.Test.YtilbbnmhnacnlaaGreatCB18
import Derived.Test.YtilbbnmhnacnlaaGreatCB13
import Derived.Test.YtilbbnmhnacnlaaGreatCB10
import Derived.ChangeShapes
import Derived.Test.YtilbbnmhnacnlaaGreatCB14
import Derived.OrdersHeld
/-
  row.Write, and that nothing is written but the Writer.
-/
namespace Go.Proofs.YtilbbnmhnacnlaaGreat
open Go.RowKit

structure WrS2 (W w0 : World) (a0 : Option Nat) (w : World) (p : Nat) (a : Option Nat) (bs : List Nat) : Prop where
  s : WrS W w p a bs
  t : Wrote w0 p a0 w a bs
theorem WrS2.start {W w : World} {p : Nat} {a : Option Nat} {bs : List Nat} (h : WrS W w p a bs) : WrS2 W w a w p a bs := ⟨h, Wrote.refl h.wr⟩
theorem WrS2.wr {W w0 w : World} {p : Nat} {a0 a : Option Nat} {bs : List Nat} (h : WrS2 W w0 a0 w p a bs) : Wr w p a bs := h.s.wr
theorem WrS2.moves {W w0 w : World} {p : Nat} {a0 a : Option Nat} {bs : List Nat} (h : WrS2 W w0 a0 w p a bs) : Moves [] W w := h.s.moves
theorem WrS2.after {W w0 w w' : World} {p : Nat} {a0 a : Option Nat} {bs : List Nat} (h : WrS2 W w0 a0 w p a bs) (m : Moves [] w w') : WrS2 W w0 a0 w' p a bs :=
  ⟨h.s.after m, ⟨h.t.1.moves m (by simp) (by simp), h.t.2.1.then (m.mono (by simp)), h.t.2.2⟩⟩
theorem WrS2.wrote {W w0 w w' : World} {p : Nat} {a0 a a' : Option Nat} {bs cs : List Nat} (h : WrS2 W w0 a0 w p a bs) (k : Wrote w p a w' a' cs) : WrS2 W w0 a0 w' p a' cs := ⟨h.s.wrote k, h.t.step k⟩

set_option maxRecDepth 100000 in
set_option maxHeartbeats 4000000 in
theorem writeColumn_f (W w : World) (p : Nat) (a : Option Nat) (bs : List Nat) (x : Pcol) (a2 : Option Addr) (n2 c2 : Nat) (hV : VersAt W (.slice a2 n2 c2) x.l) (hn : n2 = x.l.length) (hS : WrS W w p a bs) (hb : bs.length ≤ 1000000) (hnm : pname x.name = true) (hr : prightV x.l = true) :
    Calls Tryz.prog 201 #[.pointer (some ⟨p, 0, none⟩), .agg #[.string x.name, .slice a2 n2 c2]] w fun e w' => e = .returned (.tuple #[]) ∧ ∃ a', WrS W w' p a' (bs ++ pencC x) ∧ Wrote w p a w' a' (bs ++ pencC x) := by
  replace hS := WrS2.start hS
  have hl2 := prightV_two hr
  have HRV : Hid (∀ y ∈ x.l, ptime y.t = true ∧ pvr y.v = true) := prightV_time hr
  have HN : Hid (n2 = x.l.length) := hn
  have HV : Hid (VersAt W (.slice a2 n2 c2) x.l) := hV
  have hn2 : n2 ≤ 2 := by omega
  have hn2' : (n2 : Int) < 256 := by omega
  have hsz : x.name.size ≤ 16 := by unfold pname at hnm; simp only [Bool.and_eq_true, decide_eq_true_eq] at hnm; exact hnm.2
  have hsl : (sbs x.name).length = x.name.size := sbs_length _
  have m1 : Moves [] w (w.alloc (.cells #[.string x.name, .slice a2 n2 c2] 144)) := (Moves.refl _ _).alloc _
  have b1 := heap_alloc_new w (.cells #[.string x.name, .slice a2 n2 c2] 144)
  have hS1 := hS.after m1
  have hnew : w.heap.size ∉ p :: a.toList := hS.wr.new
  obtain ⟨cap, w2, hrun, hB, _, m2⟩ := strBytes_new (w.alloc (.cells #[.string x.name, .slice a2 n2 c2] 144)) x.name
  have hnew1 : (w.alloc (.cells #[.string x.name, .slice a2 n2 c2] 144)).heap.size ∉ p :: a.toList := hS1.wr.new
  have b2 := m2.at b1 (by simp)
  have hS2 := hS1.after m2
  have hb1 : bs.length + 2000000 ≤ 1099511627776 := by omega
  have hl1 : (sbs x.name).length ≤ 1048576 := by omega
  have hb2 : (bs ++ be 4 (sbs x.name).length ++ sbs x.name).length + 1 ≤ 1099511627776 := by simp only [List.length_append, be_length]; omega
  obtain ⟨E, hE⟩ : ∃ E, Hid (bs ++ be 4 (sbs x.name).length ++ sbs x.name = E) := ⟨_, rfl⟩
  obtain ⟨E2, hE2⟩ : ∃ E2, Hid (E ++ [n2] = E2) := ⟨_, rfl⟩
  have hEl : E2.length ≤ 1000025 := by rw [← hE2.out, ← hE.out]; simp only [List.length_append, be_length, List.length_singleton]; omega
  rw [hE.out] at hb2
  have hfin : Hid (bs ++ pencC x = E2 ++ pencVs x.l) := by
    show bs ++ pencC x = E2 ++ pencVs x.l
    rw [← hE2.out, ← hE.out, HN.out, hsl]
    unfold pencC
    simp
  clear hS1 m1 hS hn hV hsl hr hnm
  generalize (w.alloc (.cells #[.string x.name, .slice a2 n2 c2] 144)).heap.size = g1 at *
  go_enter Tryz.func201, Tryz.ntmps201
  go_wp2_with (first | (go_at_call 181; refine (wtext_any _ a bs (sbs x.name) g1 _ _ hS2.wr hb1 hB hl1 hnew1).mono ?_; rintro _ w3 ⟨rfl, a3, hw3⟩; rw [hE.out] at hw3; have hS3 := hS2.wrote hw3; have b3 := hw3.2.1.at b2 hnew; obtain ⟨c0, c1⟩ := pair_cells b3; have hnew3 : w.heap.size ∉ p :: a3.toList := (by rcases hw3.2.2 with e | ⟨k, e, hk⟩; (rw [e]; exact hnew); (rw [e]; simp; refine ⟨fun h => hnew (by simp [h]), ?_⟩; have := lt_of_block b2; omega))) | (go_at_call 180; refine (wbyte_w _ a3 E n2 _ (by omega) _ hS3.wr hb2).mono ?_; rintro _ w4 ⟨rfl, a4, hw4⟩; rw [hE2.out] at hw4; have hS4 := hS3.wrote hw4; have b4 := hw4.2.1.at b3 hnew3; obtain ⟨d0, d1⟩ := pair_cells b4))
  clear hS2 hB hw3 hS3 hw4 b1 b2 b3 b4 c0 c1 d0 d1 hrun m2
  go_loopw [20] (fun i wr => ∃ (j : Nat) (a' : Option Nat), j ≤ n2 ∧ i = .int .i64 (j : Nat) ∧ WrS2 W w a wr p a' (E2 ++ pencVs (x.l.take j))) (fun i _ => n2 - (intOf i).toNat)
  case atStart => exact ⟨0, a4, Nat.zero_le _, rfl, by simpa [pencVs] using hS4⟩
  case round =>
    obtain ⟨j, a5, hj, rfl, hS5⟩ := hrel
    clear hS4
    by_cases hlt : j < n2
    · have hj3 : (j : Int) < n2 := by omega
      obtain ⟨y, hy⟩ : ∃ y, x.l[j]? = some y := ⟨_, List.getElem?_eq_getElem (by have := HN.out; omega)⟩
      obtain ⟨g5, off5, a6, n6, c6, rfl, y0, y1, y2, y3, hVC⟩ := HV.out.at hy
      have z0 := hS5.moves.cell y0
      have z1 := hS5.moves.cell y1
      have z2 := hS5.moves.cell y2
      have z3 := hS5.moves.cell y3
      have HVA : Hid (VA W [.int .i64 y.v.kind, .slice a6 n6 c6, .float .f64 y.v.n] y.v) := hVC.va
      have hrt := HRV.out y (List.mem_of_getElem? hy)
      have htm : 0 ≤ y.t ∧ y.t ≤ 1099511627776 := by have := hrt.1; unfold ptime at this; simpa using this
      have HT : Hid (y.t = (y.t.toNat : Int)) := by show y.t = (y.t.toNat : Int); omega
      have hlen : (pencVs (x.l.take j)).length ≤ 58 := by
        have h1 := pencVs_len (l := x.l.take j) (fun z hz => (HRV.out z (List.mem_of_mem_take hz)).2)
        rw [List.length_take] at h1
        omega
      obtain ⟨D, hD⟩ : ∃ D, E2 ++ pencVs (x.l.take j) = D := ⟨_, rfl⟩
      have hDl : D.length + 8 ≤ 1099511627776 := by rw [← hD, List.length_append]; omega
      have hDl2 : (D ++ be 8 y.t.toNat).length ≤ 1000000000 := by rw [← hD]; simp only [List.length_append, be_length]; omega
      have HD : Hid (E2 ++ pencVs (x.l.take (j + 1)) = D ++ be 8 y.t.toNat ++ penc y.v) := by
        show E2 ++ pencVs (x.l.take (j + 1)) = _
        rw [pencVs_step hy, ← hD]
        unfold pencV
        simp
      rw [hD] at hS5
      have mb : Moves [] wr (wr.alloc (.cells #[.int .i64 y.t, .int .i64 y.v.kind, .slice a6 n6 c6, .float .f64 y.v.n] 146)) := (Moves.refl _ _).alloc _
      have hS6 := hS5.after mb
      have q6 := heap_alloc_new wr (.cells #[.int .i64 y.t, .int .i64 y.v.kind, .slice a6 n6 c6, .float .f64 y.v.n] 146)
      have hnq := hS5.wr.new
      clear hVC y0 y1 y2 y3 hrt hlen hD hS5 hy
      go_wp2_with (first | (go_at_call 212; refine (wlong_w _ a5 D y.t.toNat _ (by first | omega | (rw [IntKind.wrap_u64]; omega)) _ hS6.wr hDl).mono ?_; rintro _ w7 ⟨rfl, a7, hw7⟩; have hS7 := hS6.wrote hw7; have q7 := hw7.2.1.at q6 hnq; obtain ⟨k0, k1, k2, k3⟩ := quad_cells q7) | (go_at_call 213; refine (putS_w W _ _ a7 _ _ _ _ _ _ y.v HVA.out hS7.s hDl2).mono ?_; rintro _ w8 ⟨rfl, a8, hw8⟩; have hS8 := hS7.wrote hw8))
      go_roundw
      case rel => exact ⟨j + 1, a8, by omega, by go_num, by rw [HD.out]; exact hS8⟩
      case measure => simp [intOf]; omega
    · have hj3 : ¬ (j : Int) < n2 := by omega
      obtain rfl : j = n2 := by omega
      have hfull : x.l.take j = x.l := by rw [HN.out, List.take_length]
      rw [hfull] at hS5
      go_wp2_with fail
      go_end0
      exact ⟨rfl, a5, by rw [hfin.out]; exact ⟨hS5.s, hS5.t⟩⟩

set_option maxRecDepth 100000 in
set_option maxHeartbeats 4000000 in
theorem rowWrite_f (W w : World) (p : Nat) (a : Option Nat) (bs : List Nat) (v : Value) (R : List Pcol) (h : RowAt W v R) (hS : WrS W w p a bs) (hb : bs.length ≤ 900000) :
    Calls Tryz.prog 182 #[.pointer (some ⟨p, 0, none⟩), v] w fun e w' => e = .returned (.tuple #[]) ∧ ∃ a', WrS W w' p a' (bs ++ pencR (pasked R)) ∧ Wrote w p a w' a' (bs ++ pencR (pasked R)) := by
  replace hS := WrS2.start hS
  have h0 := h
  obtain ⟨lv, rfl, hl⟩ := h
  obtain ⟨ad, cap, rfl, hc⟩ := hl.slice
  obtain ⟨Z, hZ⟩ : ∃ Z, Hid (pasked R = Z) := ⟨_, rfl⟩
  have HG : Hid (∀ c ∈ Z, pname c.name = true ∧ prightV c.l = true) := by
    unfold Hid
    rw [← hZ.out]
    exact fun c hc => pright_at (pasked_right R) hc
  have hask := fun w1 (m1 : Moves [] W w1) => asked_w W w1 _ R h0 m1
  rw [hZ.out] at hask ⊢
  have hZ4 : Z.length ≤ 4 := by rw [← hZ.out]; exact pasked_len R
  have hS1 := hS.after ((Moves.refl [] w).alloc (.cells #[.slice ad R.length cap] 97))
  have hpe : ∀ w1 : World, (binOp .eql 208 (.pointer (some ⟨p, 0, none⟩)) (.pointer none)).run Tryz.prog w1 = .ok (.bool false) w1 := by intro w1; kernel_rfl
  have hb1 : bs.length + 1 ≤ 1099511627776 := by omega
  have hz256 : (Z.length : Int) < 256 := by omega
  obtain ⟨nz, hnz⟩ : ∃ nz, Hid (Z.length = nz) := ⟨_, rfl⟩
  rw [hnz.out] at hask hZ4 hz256
  obtain ⟨E, hE⟩ : ∃ E, Hid (bs ++ [nz] = E) := ⟨_, rfl⟩
  have hEl : E.length ≤ 900001 := by rw [← hE.out, List.length_append, List.length_singleton]; omega
  have hfin : Hid (bs ++ pencR Z = E ++ pencCs Z) := by
    show bs ++ pencR Z = _
    rw [← hE.out]
    unfold pencR
    rw [hnz.out]
    simp
  clear h0 hl hS
  go_enter Tryz.func182, Tryz.ntmps182
  go_wp2_with (first | (go_at_call 200; refine (hask _ hS1.moves).mono ?_; rintro _ w2 ⟨ad2, cap2, rfl, hA, m2⟩; have hS2 := hS1.after m2; have HA : Hid (ColsAt W (.slice ad2 nz cap2) Z) := hA; have hcap := hA.slice; clear hA) | (go_at_call 180; refine (wbyte_w _ a bs nz _ (by omega) _ hS2.wr hb1).mono ?_; rintro _ w3 ⟨rfl, a3, hw3⟩; rw [hE.out] at hw3; have hS3 := hS2.wrote hw3))
  clear hask hS2 hw3 hS1 m2 hcap
  go_loopw [19] (fun i wr => ∃ (j : Nat) (a' : Option Nat), j ≤ nz ∧ i = .int .i64 (j : Nat) ∧ WrS2 W w a wr p a' (E ++ pencCs (Z.take j))) (fun i _ => nz - (intOf i).toNat)
  case atStart => exact ⟨0, a3, Nat.zero_le _, rfl, by simpa [pencCs] using hS3⟩
  case round =>
    obtain ⟨j, a5, hj, rfl, hS5⟩ := hrel
    clear hS3
    by_cases hlt : j < nz
    · have hj3 : (j : Int) < nz := by omega
      obtain ⟨y, hy⟩ : ∃ y, Z[j]? = some y := ⟨_, List.getElem?_eq_getElem (by have := hnz.out; omega)⟩
      obtain ⟨g5, off5, a6, n6, c6, rfl, y0, y1, hn6, _, hV6⟩ := HA.out.at hy
      have z0 := hS5.moves.cell y0
      have z1 := hS5.moves.cell y1
      have hgy := HG.out y (List.mem_of_getElem? hy)
      have HV6 : Hid (VersAt W (.slice a6 n6 c6) y.l) := hV6
      have Hn6 : Hid (n6 = y.l.length) := hn6
      have hlen : (pencCs (Z.take j)).length ≤ 316 := by
        have h1 := pencCs_len (R := Z.take j) (fun z hz => HG.out z (List.mem_of_mem_take hz))
        rw [List.length_take] at h1
        omega
      obtain ⟨D, hD⟩ : ∃ D, E ++ pencCs (Z.take j) = D := ⟨_, rfl⟩
      have hDl : D.length ≤ 1000000 := by rw [← hD, List.length_append]; omega
      have HD : Hid (E ++ pencCs (Z.take (j + 1)) = D ++ pencC y) := by
        show E ++ pencCs (Z.take (j + 1)) = _
        rw [pencCs_step hy, ← hD]
        simp
      rw [hD] at hS5
      have hS6 := hS5.after ((Moves.refl [] wr).alloc (.cells #[.string y.name, .slice a6 n6 c6] 144))
      clear hV6 y0 y1 hlen hD hS5 hy hn6
      go_wp2_with (go_at_call 201; refine (writeColumn_f W _ _ a5 D y _ _ _ HV6.out Hn6.out hS6.s hDl hgy.1 hgy.2).mono ?_; rintro _ w7 ⟨rfl, a7, hS7s, hS7t⟩; have hS7 := hS6.wrote hS7t)
      go_roundw
      case rel => exact ⟨j + 1, a7, by omega, by go_num, by rw [HD.out]; exact hS7⟩
      case measure => simp [intOf]; omega
    · have hj3 : ¬ (j : Int) < nz := by omega
      obtain rfl : j = nz := by omega
      have hfull : Z.take j = Z := by rw [← hnz.out, List.take_length]
      rw [hfull] at hS5
      go_wp2_with fail
      go_end0
      exact ⟨rfl, a5, by rw [hfin.out]; exact ⟨hS5.s, hS5.t⟩⟩
end Go.Proofs.YtilbbnmhnacnlaaGreat
/-
  Arguments opened: integers, lists of integers, lists of values as they are drawn, of calls.
-/
namespace Go.Proofs.YtilbbnmhnacnlaaGreat
open Go.RowKit
open Go.ChangeShapes Go.WideShapes

end Go.Proofs.YtilbbnmhnacnlaaGreat
/-
  RowTimes' walk.
-/
namespace Go.Proofs.YtilbbnmhnacnlaaGreat
open Go.RowKit

end Go.Proofs.YtilbbnmhnacnlaaGreat
/-
  RowNewest's walk.
-/
namespace Go.Proofs.YtilbbnmhnacnlaaGreat
open Go.RowKit

end Go.Proofs.YtilbbnmhnacnlaaGreat
/-
  The document's own Name, and its Right of a value that lies in a row.
-/
namespace Go.Proofs.YtilbbnmhnacnlaaGreat
open Go.RowKit

end Go.Proofs.YtilbbnmhnacnlaaGreat
/-
  The document's own Right of rows: for every row the call tells whether it may be, and writes nothing that was there.
-/
namespace Go.Proofs.YtilbbnmhnacnlaaGreat
open Go.RowKit

end Go.Proofs.YtilbbnmhnacnlaaGreat
/-
  The document's own Right of rows: of a row that may be the call tells so, and writes nothing that was there.
-/
namespace Go.Proofs.YtilbbnmhnacnlaaGreat
open Go.RowKit

end Go.Proofs.YtilbbnmhnacnlaaGreat
/-
  The document's own Copy of rows: of a row that may be the call returns a row of its own, what the chapter says, and writes nothing that was there.
-/
namespace Go.Proofs.YtilbbnmhnacnlaaGreat
open Go.RowKit

end Go.Proofs.YtilbbnmhnacnlaaGreat
/-
  The document's own Write of rows: of a row that may be the call returns the bytes that it was handed and the row's behind them, in a row of its own, and writes nothing that was there.
-/
namespace Go.Proofs.YtilbbnmhnacnlaaGreat
open Go.RowKit

theorem own_append_wp {o : Oper} {a : Act} {K : Act → World → Prop} {Q : Exit → Act → World → Prop} {w : World} (s x : Operand)
    (ho : o.op = .call { callee := .builtin .append, args := #[s, x], argTypes := #[27, 27] })
    (v xv : Value) (bs cs : List Nat) (g : Nat) (hs : a.eval s = v) (hx : a.eval x = xv)
    (hv : Own w v bs) (hc : IsB w g xv cs) (hb : bs.length + cs.length ≤ 1099511627776)
    (h : ∀ v' w', Own w' v' (bs ++ cs) → Moves v.ownBlock.toList w w' → Lain w v v' → K (a.put o.dst v') w') : o.wp Tryz.prog a w K Q := by
  obtain ⟨i0, hi, hz0, hz1, hz2⟩ := info_parts Tryz.info5
  obtain ⟨ad, n, cap, rfl, rfl, hle, hnil, hhas⟩ := hc
  have fin : ∀ v' w', w'.ownsRow 0 5 1 v' (bs.length + cs.length) (u8s bs ++ u8s cs) → w.grownBy w' v.ownBlock → Lain w v v' → K (a.put o.dst v') w' := by
    intro v' w' h1 h2 h3
    refine h v' w' ?_ ((Moves.refl _ _).grown h2 (fun k hk => .inl (by rw [hk]; simp))) h3
    unfold Own
    rw [u8s_append, List.length_append]
    exact h1
  cases ad with
  | none =>
    obtain rfl : cap = 0 := hnil rfl
    have h0 : cs.length = 0 := by omega
    obtain rfl : cs = [] := List.eq_nil_of_length_eq_zero h0
    have hrun := run_append_owned_none (P := Tryz.prog) (w := w) 0 27 o.type 5 i0 1 Tryz.underlying27 hi v bs.length (u8s bs) hv
    unfold Oper.wp
    simp [execOp, ho, resolve, invoke, builtin, hs, hx, hrun, Result.andThen]
    exact fin v w (by simpa [u8s, Own] using hv) (World.grownBy.refl _ _) (.inl rfl)
  | some y =>
    obtain ⟨v', w', hr, g1, g2, _, g4⟩ := run_append_own_at (P := Tryz.prog) w 0 27 o.type 5 i0 (.int .u8 0) 1 1 Tryz.underlying27 hi hz0 hz1 hz2 rfl (by omega) v bs.length (u8s bs) hv y cs.length cap (u8s cs) (by simp [u8s]) (by
      intro j u hj
      obtain ⟨b, hjb, rfl⟩ := u8s_get hj
      rcases hhas with rfl | ⟨off, hy, hcell⟩
      · simp at hjb
      · simp only [Option.some.injEq] at hy
        subst hy
        have := hcell j b hjb
        have e : (⟨g, off, none⟩ : Addr).add j = ⟨g, off + j, none⟩ := by unfold Addr.add; split <;> simp_all
        rw [e]; exact this) (u8s_one cs) (by unfold maxLen; omega) (by omega) (Nat.zero_le _)
    unfold Oper.wp execOp
    simp only [ho, resolve, invoke, builtin, Sem.run_bind, Sem.run_pure, Result.andThen_ok, List.map_toArray, List.map_cons, List.map_nil, hs, hx, hr]
    exact fin v' w' g1 g2 g4
end Go.Proofs.YtilbbnmhnacnlaaGreat
/-
  The document's own find: the place of a column, or where it would be.
-/
namespace Go.Proofs.YtilbbnmhnacnlaaGreat
open Go.RowKit

end Go.Proofs.YtilbbnmhnacnlaaGreat
/-
  A drawn region whose last operation waits for all the others: the others in any order, then it. Plain laws, no program in sight.
-/
namespace Go.Proofs.YtilbbnmhnacnlaaGreat
open Go.RowKit

def peel_ok (pre : Array Oper) (o : Oper) : Bool :=
  follows_ok (pre.push o) && (List.range pre.size).all (fun i => ((pre[i]?).map fun x => match x.guard with | none => true | some (j, _) => decide (j < pre.size)).getD false) && (List.range pre.size).all (fun k => o.after.any fun e => Region.binds .any e && decide (e.on = k))

def PeelQ (P : Program) (ops : Array Oper) (n : Nat) (Q : Exit → Act → World → Prop) : Exit → Act → World → Prop
  | .normal, a, w => wpOp P ops Q n (fun a w => Q .normal a w) a w
  | e, a, w => Q e a w

theorem get_push_lt {α : Type} {l : Array α} {x : α} {i : Nat} (h : i < l.size) : (l.push x)[i]? = l[i]? := by
  rw [Array.getElem?_push]
  simp [Nat.ne_of_lt h]
theorem getD_push_lt {l : Array Bool} {b d : Bool} {i : Nat} (h : i < l.size) : (l.push b).getD i d = l.getD i d := by
  rw [Array.getD_eq_getD_getElem?, Array.getD_eq_getD_getElem?, get_push_lt h]

theorem set_push {l : Array Bool} {b x : Bool} {i : Nat} (h : i < l.size) : (l.push b).setIfInBounds i x = (l.setIfInBounds i x).push b := by
  obtain ⟨l⟩ := l
  simp only [List.push_toArray, List.setIfInBounds_toArray]
  rw [List.set_append_left _ _ (by simpa using h)]

theorem wpOp_peel {P : Program} {pre : Array Oper} {o : Oper} {Q : Exit → Act → World → Prop} {i n : Nat} {K K' : Act → World → Prop} {a : Act} {w : World} (hok : peel_ok pre o = true) (hi : i < pre.size) (hK : ∀ a w, K a w → K' a w)
    (h : wpOp P pre (PeelQ P (pre.push o) n Q) i K a w) : wpOp P (pre.push o) Q i K' a w := by
  obtain ⟨x, hx⟩ : ∃ x, pre[i]? = some x := ⟨_, Array.getElem?_eq_getElem hi⟩
  have hx' : (pre.push o)[i]? = some x := by rw [get_push_lt hi]; exact hx
  unfold peel_ok at hok
  simp only [Bool.and_eq_true, List.all_eq_true] at hok
  have hg := hok.1.2 i (List.mem_range.2 hi)
  rw [hx] at hg
  simp only [Option.map_some, Option.getD_some] at hg
  have hw : Region.wanted x (yielded (pre.push o) a.tmps) = Region.wanted x (yielded pre a.tmps) := by
    unfold Region.wanted
    cases hq : x.guard with
    | none => rfl
    | some jw =>
      obtain ⟨j, want⟩ := jw
      rw [hq] at hg
      have hj : j < pre.size := of_decide_eq_true hg
      simp only [yielded, get_push_lt hj]
  unfold wpOp at h ⊢
  simp only [hx] at h
  simp only [hx', hw]
  split
  · rename_i hwt
    rw [if_pos hwt] at h
    rcases h with h | ⟨h1, ⟨a', w', h2⟩⟩
    · left
      refine Oper.wp_mono hK ?_
      unfold Oper.wp at h ⊢
      generalize (execOp a.eval x).run P w = r at h ⊢
      cases r with
      | ok n w' => cases n <;> exact h
      | halt x w' => cases x <;> exact h
    · exact .inr ⟨h1, a', w', h2⟩
  · rename_i hwt
    rw [if_neg hwt] at h
    exact hK _ _ h

theorem ready_peel {pre : Array Oper} {o : Oper} {l : Array Bool} {i : Nat} (hl : l.size = pre.size) (hok : peel_ok pre o = true) (hi : i < pre.size) (h : i ∈ Region.ready .any (pre.push o) (l.push false)) : i ∈ Region.ready .any pre l := by
  obtain ⟨h1, x, h2, h3⟩ := mem_ready.1 h
  rw [get_push_lt hi] at h2
  rw [getD_push_lt (by omega)] at h1
  refine mem_ready.2 ⟨h1, x, h2, fun e he hb => ?_⟩
  have h4 := h3 e he hb
  unfold peel_ok at hok
  simp only [Bool.and_eq_true] at hok
  have hf := List.all_eq_true.1 hok.1.1 i (List.mem_range.2 (by simp; omega))
  rw [get_push_lt hi, h2] at hf
  simp only [Option.map_some, Option.getD_some] at hf
  have h5 := of_decide_eq_true (by have h2 := Array.all_eq_true_iff_forall_mem.1 hf e he; rwa [hb, Bool.not_true, Bool.false_or] at h2)
  rw [getD_push_lt (by omega)] at h4
  exact h4
theorem ready_last {pre : Array Oper} {o : Oper} {l : Array Bool} (hl : l.size = pre.size) (hok : peel_ok pre o = true) (h : pre.size ∈ Region.ready .any (pre.push o) (l.push false)) : ∀ k, k < pre.size → l[k]? = some true := by
  intro k hk
  obtain ⟨_, x, h2, h3⟩ := mem_ready.1 h
  rw [Array.getElem?_push] at h2
  simp at h2
  subst h2
  unfold peel_ok at hok
  simp only [Bool.and_eq_true] at hok
  have h4 := List.all_eq_true.1 hok.2 k (List.mem_range.2 hk)
  obtain ⟨e, he, hb⟩ := Array.any_eq_true'.1 h4
  simp only [Bool.and_eq_true, decide_eq_true_eq] at hb
  have h5 := h3 e he hb.1
  rw [hb.2, getD_push_lt (by omega), Array.getD_eq_getD_getElem?] at h5
  have hlt : k < l.size := by omega
  rw [Array.getElem?_eq_getElem hlt] at h5 ⊢
  simpa using h5
theorem ready_none {ops : Array Oper} {l : Array Bool} (h : ∀ k, k < ops.size → l[k]? = some true) : Region.ready .any ops l = [] := by
  cases hq : Region.ready .any ops l with
  | nil => rfl
  | cons i t =>
    have hi : i ∈ Region.ready .any ops l := by rw [hq]; simp
    have h1 := ready_un hi
    obtain ⟨_, x, h2, _⟩ := mem_ready.1 hi
    have hlt := (Array.getElem?_eq_some_iff.1 h2).1
    rw [h i hlt] at h1
    simp at h1

theorem wpAny_peel {P : Program} {pre : Array Oper} {o : Oper} {Q : Exit → Act → World → Prop} {S : World → Prop} (hok : peel_ok pre o = true) :
    ∀ (fuel : Nat) (l : Array Bool) (a : Act) (w : World), l.size = pre.size → wpAnyH P .any pre (PeelQ P (pre.push o) pre.size Q) S fuel l a w → wpAny P .any (pre.push o) Q (fuel + 1) (l.push false) a w := by
  have hf : follows_ok (pre.push o) = true := by
    unfold peel_ok at hok
    simp only [Bool.and_eq_true] at hok
    exact hok.1.1
  have last : ∀ (fuel : Nat) (l : Array Bool) (a : Act) (w : World), l.size = pre.size → (∀ k, k < pre.size → l[k]? = some true) → wpOp P (pre.push o) Q pre.size (fun a w => Q .normal a w) a w → wpOp P (pre.push o) Q pre.size (wpAny P .any (pre.push o) Q fuel ((l.push false).setIfInBounds pre.size true)) a w := by
    intro fuel l a w hl hall h
    refine wpOp_mono (fun a' w' hQ => ?_) h
    have hn : Region.ready .any (pre.push o) ((l.push false).setIfInBounds pre.size true) = [] := by
      refine ready_none (fun k hk => ?_)
      by_cases e : pre.size = k
      · subst e
        rw [Array.getElem?_setIfInBounds_self_of_lt (by simp; omega)]
      · rw [Array.getElem?_setIfInBounds_ne e, get_push_lt (by simp at hk; omega)]
        exact hall k (by simp at hk; omega)
    cases fuel with
    | zero => exact ⟨hn, hQ⟩
    | succ f => exact ⟨fun _ => hQ, fun i hi => by rw [hn] at hi; simp at hi⟩
  have nonempty : ∀ l : Array Bool, l.size = pre.size → Region.ready .any (pre.push o) (l.push false) ≠ [] := by
    intro l hl h
    have := all_up hf (by simp [hl]) h pre.size (by simp)
    unfold up at this
    rw [Array.getElem?_push] at this
    simp [hl] at this
  intro fuel
  induction fuel with
  | zero =>
    intro l a w hl h
    refine ⟨fun h0 => absurd h0 (nonempty l hl), fun i hi => ?_⟩
    obtain ⟨h1, h2⟩ := h
    have hin : i < pre.size + 1 := by
      obtain ⟨_, x, hx, _⟩ := mem_ready.1 hi
      have := (Array.getElem?_eq_some_iff.1 hx).1
      simpa using this
    by_cases e : i = pre.size
    · subst e
      exact last 0 l a w hl (ready_last hl hok hi) h2
    · have := ready_peel hl hok (by omega) hi
      rw [h1] at this
      simp at this
  | succ f ih =>
    intro l a w hl h
    refine ⟨fun h0 => absurd h0 (nonempty l hl), fun i hi => ?_⟩
    obtain ⟨h1, h2⟩ := h
    have hin : i < pre.size + 1 := by
      obtain ⟨_, x, hx, _⟩ := mem_ready.1 hi
      have := (Array.getElem?_eq_some_iff.1 hx).1
      simpa using this
    by_cases e : i = pre.size
    · subst e
      exact last (f + 1) l a w hl (ready_last hl hok hi) (h1 (ready_none (ready_last hl hok hi)))
    · have hlt : i < pre.size := by omega
      have h3 := h2 i (ready_peel hl hok hlt hi)
      refine wpOp_peel hok hlt (fun a' w' hK => ?_) h3
      have := ih (l.setIfInBounds i true) a' w' (by simpa using hl) hK.2
      rw [set_push (by omega)]
      exact this

theorem region_peel {P : Program} {ops pre : Array Oper} {o : Oper} {Q : Exit → Act → World → Prop} {S : World → Prop} {id : Nat} {a : Act} {w : World} (hm : P.follows .mixedOrders = true) (he : ops = pre.push o) (hok : peel_ok pre o = true)
    (h0 : S w.drew) (h : S w.drew → wpAnyH P .any pre (PeelQ P ops pre.size Q) S pre.size (Array.replicate pre.size false) a w.drew) : (Code.region id ops true).wp P Q a w := by
  subst he
  refine wp_region_any hm ?_
  have := wpAny_peel hok pre.size (Array.replicate pre.size false) a w.drew (by simp) (h h0)
  have e : Array.replicate (pre.push o).size false = (Array.replicate pre.size false).push false := by
    rw [Array.size_push, Array.replicate_succ]
  rw [e, Array.size_push]
  exact this
end Go.Proofs.YtilbbnmhnacnlaaGreat
/-
  The document's own Put of a row that may be: the call returns what its words come to, and writes nothing that was there.
-/
namespace Go.Proofs.YtilbbnmhnacnlaaGreat
open Go.RowKit

end Go.Proofs.YtilbbnmhnacnlaaGreat
