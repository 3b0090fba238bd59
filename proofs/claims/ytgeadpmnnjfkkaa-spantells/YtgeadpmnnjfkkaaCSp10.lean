/-
  law7's two and made.
-/
import Derived.Test.YtgeadpmnnjfkkaaCSp9
namespace Go.Proofs.Ytgeadpmnnjfkkaa
open Go.RowKit

set_option maxRecDepth 100000 in
set_option maxHeartbeats 8000000 in
theorem two7_w (la ha lb hb t : ByteArray) (w : World) : Calls Try.prog 9 #[.agg #[.string la, .string ha], .agg #[.string lb, .string hb], .string t] w fun e w' => e = .returned (.bool true) ∧ Moves [] w w' := by
  obtain ⟨x1, hx1⟩ : ∃ x, (spS1 ⟨la, ha⟩ t).lo = x := ⟨_, rfl⟩
  obtain ⟨x2, hx2⟩ : ∃ x, (spS1 ⟨la, ha⟩ t).hi = x := ⟨_, rfl⟩
  obtain ⟨y1, hy1⟩ : ∃ x, (spS2 ⟨la, ha⟩ t).lo = x := ⟨_, rfl⟩
  obtain ⟨y2, hy2⟩ : ∃ x, (spS2 ⟨la, ha⟩ t).hi = x := ⟨_, rfl⟩
  obtain ⟨ok, hok⟩ : ∃ x, spC ⟨la, ha⟩ t = x := ⟨_, rfl⟩
  obtain ⟨z1, hz1⟩ : ∃ x, (spJn ⟨la, ha⟩ ⟨lb, hb⟩).lo = x := ⟨_, rfl⟩
  obtain ⟨z2, hz2⟩ : ∃ x, (spJn ⟨la, ha⟩ ⟨lb, hb⟩).hi = x := ⟨_, rfl⟩
  obtain ⟨fine, hfine⟩ : ∃ x, spJ ⟨la, ha⟩ ⟨lb, hb⟩ = x := ⟨_, rfl⟩
  have hs1 : ∀ w, Calls Try.prog 16 #[.agg #[.string la, .string ha], .string t] w fun e w' => e = .returned (.tuple #[.agg #[.string x1, .string x2], .agg #[.string y1, .string y2], .bool ok]) ∧ Moves [] w w' := by
    intro w; have := spSplit_w la ha t w; rwa [hx1, hx2, hy1, hy2, hok] at this
  have hs2 : ∀ w, Calls Try.prog 29 #[.agg #[.string la, .string ha], .string t] w fun e w' => e = .returned (.tuple #[.agg #[.string x1, .string x2], .agg #[.string y1, .string y2], .bool ok]) ∧ Moves [] w w' := by
    intro w; have := rfSplit7_w la ha t w; rwa [hx1, hx2, hy1, hy2, hok] at this
  have hj1 : ∀ w, Calls Try.prog 17 #[.agg #[.string la, .string ha], .agg #[.string lb, .string hb]] w fun e w' => e = .returned (.tuple #[.agg #[.string z1, .string z2], .bool fine]) ∧ Moves [] w w' := by
    intro w; have := spJoin_w la ha lb hb w; rwa [hz1, hz2, hfine] at this
  have hj2 : ∀ w, Calls Try.prog 30 #[.agg #[.string la, .string ha], .agg #[.string lb, .string hb]] w fun e w' => e = .returned (.tuple #[.agg #[.string z1, .string z2], .bool fine]) ∧ Moves [] w w' := by
    intro w; have := rfJoin7_w la ha lb hb w; rwa [hz1, hz2, hfine] at this
  obtain ⟨r, hr⟩ : ∃ x, spR ⟨la, ha⟩ = x := ⟨_, rfl⟩
  obtain ⟨h, hh⟩ : ∃ x, spH ⟨la, ha⟩ t = x := ⟨_, rfl⟩
  obtain ⟨q, hq⟩ : ∃ x, spM ⟨la, ha⟩ ⟨lb, hb⟩ = x := ⟨_, rfl⟩
  have e1 : ∀ w, Calls Try.prog 27 #[.agg #[.string la, .string ha]] w fun e w' => e = .returned (.bool r) ∧ Moves [] w w' := by
    intro w; have := spRight_w la ha w; rwa [hr] at this
  have e2 : ∀ w, Calls Try.prog 31 #[.agg #[.string la, .string ha]] w fun e w' => e = .returned (.bool r) ∧ Moves [] w w' := by
    intro w; have := rfRight7_w la ha w; rwa [hr] at this
  have e3 : ∀ w, Calls Try.prog 15 #[.agg #[.string la, .string ha], .string t] w fun e w' => e = .returned (.bool h) ∧ Moves [] w w' := by
    intro w; have := spHas_w la ha t w; rwa [hh] at this
  have e4 : ∀ w, Calls Try.prog 32 #[.agg #[.string la, .string ha], .string t] w fun e w' => e = .returned (.bool h) ∧ Moves [] w w' := by
    intro w; have := rfHas7_w la ha t w; rwa [hh] at this
  have e5 : ∀ w, Calls Try.prog 28 #[.agg #[.string la, .string ha], .agg #[.string lb, .string hb]] w fun e w' => e = .returned (.bool q) ∧ Moves [] w w' := by
    intro w; have := spMeet_w la ha lb hb w; rwa [hq] at this
  have e6 : ∀ w, Calls Try.prog 33 #[.agg #[.string la, .string ha], .agg #[.string lb, .string hb]] w fun e w' => e = .returned (.bool q) ∧ Moves [] w w' := by
    intro w; have := rfMeet7_w la ha lb hb w; rwa [hq] at this
  clear hx1 hx2 hy1 hy2 hok hz1 hz2 hfine hr hh hq
  obtain ⟨M, b3, b4⟩ := spBoxes2 w #[.string la, .string ha] #[.string lb, .string hb] 27
  obtain ⟨P, hP⟩ : ∃ P, w.heap.size = P := ⟨_, rfl⟩
  rw [hP] at b3 b4
  go_enter Try.func9, Try.ntmps9
  go_wp2_with (first | (go_at_call 16; refine (hs1 _).mono ?_; rintro _ wx ⟨rfl, mx⟩; clear hs1; replace M := M.then mx; replace b3 := mx.at b3 (by simp); replace b4 := mx.at b4 (by simp); obtain ⟨my, b7, b8⟩ := spBoxes2 wx #[.string x1, .string x2] #[.string y1, .string y2] 27; replace M := M.then my; replace b3 := my.at b3 (by simp); replace b4 := my.at b4 (by simp); obtain ⟨cb3, db3, _, _⟩ := sp_cells b3; obtain ⟨cb4, db4, _, _⟩ := sp_cells b4; obtain ⟨cb7, db7, _, _⟩ := sp_cells b7; obtain ⟨cb8, db8, _, _⟩ := sp_cells b8; clear mx my; obtain ⟨Qb7, hQb7⟩ : ∃ Q, wx.heap.size = Q := ⟨_, rfl⟩; rw [hQb7] at b7 cb7 db7 b8 cb8 db8) | (go_at_call 29; refine (hs2 _).mono ?_; rintro _ wx ⟨rfl, mx⟩; clear hs2; replace M := M.then mx; replace b3 := mx.at b3 (by simp); replace b4 := mx.at b4 (by simp); replace b7 := mx.at b7 (by simp); replace b8 := mx.at b8 (by simp); obtain ⟨my, b10, b11⟩ := spBoxes2 wx #[.string x1, .string x2] #[.string y1, .string y2] 27; replace M := M.then my; replace b3 := my.at b3 (by simp); replace b4 := my.at b4 (by simp); replace b7 := my.at b7 (by simp); replace b8 := my.at b8 (by simp); clear cb3 db3 cb4 db4 cb7 db7 cb8 db8; obtain ⟨cb3, db3, _, _⟩ := sp_cells b3; obtain ⟨cb4, db4, _, _⟩ := sp_cells b4; obtain ⟨cb7, db7, _, _⟩ := sp_cells b7; obtain ⟨cb8, db8, _, _⟩ := sp_cells b8; obtain ⟨cb10, db10, _, _⟩ := sp_cells b10; obtain ⟨cb11, db11, _, _⟩ := sp_cells b11; clear mx my; obtain ⟨Qb10, hQb10⟩ : ∃ Q, wx.heap.size = Q := ⟨_, rfl⟩; rw [hQb10] at b10 cb10 db10 b11 cb11 db11) | (go_at_call 17; refine (hj1 _).mono ?_; rintro _ wx ⟨rfl, mx⟩; clear hj1; replace M := M.then mx; replace b3 := mx.at b3 (by simp); replace b4 := mx.at b4 (by simp); replace b7 := mx.at b7 (by simp); replace b8 := mx.at b8 (by simp); replace b10 := mx.at b10 (by simp); replace b11 := mx.at b11 (by simp); have my : Moves [] wx (wx.alloc (.cells #[.string z1, .string z2] 27)) := (Moves.refl _ _).alloc _; have b13 := heap_alloc_new wx (.cells #[.string z1, .string z2] 27); replace M := M.then my; replace b3 := my.at b3 (by simp); replace b4 := my.at b4 (by simp); replace b7 := my.at b7 (by simp); replace b8 := my.at b8 (by simp); replace b10 := my.at b10 (by simp); replace b11 := my.at b11 (by simp); clear cb3 db3 cb4 db4 cb7 db7 cb8 db8 cb10 db10 cb11 db11; obtain ⟨cb3, db3, _, _⟩ := sp_cells b3; obtain ⟨cb4, db4, _, _⟩ := sp_cells b4; obtain ⟨cb7, db7, _, _⟩ := sp_cells b7; obtain ⟨cb8, db8, _, _⟩ := sp_cells b8; obtain ⟨cb10, db10, _, _⟩ := sp_cells b10; obtain ⟨cb11, db11, _, _⟩ := sp_cells b11; obtain ⟨cb13, db13, _, _⟩ := sp_cells b13; clear mx my; obtain ⟨Qb13, hQb13⟩ : ∃ Q, wx.heap.size = Q := ⟨_, rfl⟩; rw [hQb13] at b13 cb13 db13) | (go_at_call 30; refine (hj2 _).mono ?_; rintro _ wx ⟨rfl, mx⟩; clear hj2; replace M := M.then mx; replace b3 := mx.at b3 (by simp); replace b4 := mx.at b4 (by simp); replace b7 := mx.at b7 (by simp); replace b8 := mx.at b8 (by simp); replace b10 := mx.at b10 (by simp); replace b11 := mx.at b11 (by simp); replace b13 := mx.at b13 (by simp); have my : Moves [] wx (wx.alloc (.cells #[.string z1, .string z2] 27)) := (Moves.refl _ _).alloc _; have b15 := heap_alloc_new wx (.cells #[.string z1, .string z2] 27); replace M := M.then my; replace b3 := my.at b3 (by simp); replace b4 := my.at b4 (by simp); replace b7 := my.at b7 (by simp); replace b8 := my.at b8 (by simp); replace b10 := my.at b10 (by simp); replace b11 := my.at b11 (by simp); replace b13 := my.at b13 (by simp); clear cb3 db3 cb4 db4 cb7 db7 cb8 db8 cb10 db10 cb11 db11 cb13 db13; obtain ⟨cb3, db3, _, _⟩ := sp_cells b3; obtain ⟨cb4, db4, _, _⟩ := sp_cells b4; obtain ⟨cb7, db7, _, _⟩ := sp_cells b7; obtain ⟨cb8, db8, _, _⟩ := sp_cells b8; obtain ⟨cb10, db10, _, _⟩ := sp_cells b10; obtain ⟨cb11, db11, _, _⟩ := sp_cells b11; obtain ⟨cb13, db13, _, _⟩ := sp_cells b13; obtain ⟨cb15, db15, _, _⟩ := sp_cells b15; clear mx my; obtain ⟨Qb15, hQb15⟩ : ∃ Q, wx.heap.size = Q := ⟨_, rfl⟩; rw [hQb15] at b15 cb15 db15))
  go_region_held3 (fun w' => w'.cell? ⟨P, 0, none⟩ = some (.string la) ∧ w'.cell? ⟨P, 1, none⟩ = some (.string ha) ∧ w'.cell? ⟨P + 1, 0, none⟩ = some (.string lb) ∧ w'.cell? ⟨P + 1, 1, none⟩ = some (.string hb) ∧ w'.cell? ⟨Qb7, 0, none⟩ = some (.string x1) ∧ w'.cell? ⟨Qb7, 1, none⟩ = some (.string x2) ∧ w'.cell? ⟨Qb7 + 1, 0, none⟩ = some (.string y1) ∧ w'.cell? ⟨Qb7 + 1, 1, none⟩ = some (.string y2) ∧ w'.cell? ⟨Qb10, 0, none⟩ = some (.string x1) ∧ w'.cell? ⟨Qb10, 1, none⟩ = some (.string x2) ∧ w'.cell? ⟨Qb10 + 1, 0, none⟩ = some (.string y1) ∧ w'.cell? ⟨Qb10 + 1, 1, none⟩ = some (.string y2) ∧ w'.cell? ⟨Qb13, 0, none⟩ = some (.string z1) ∧ w'.cell? ⟨Qb13, 1, none⟩ = some (.string z2) ∧ w'.cell? ⟨Qb15, 0, none⟩ = some (.string z1) ∧ w'.cell? ⟨Qb15, 1, none⟩ = some (.string z2)) (first | (with_reducible exact ⟨cb3, db3, cb4, db4, cb7, db7, cb8, db8, cb10, db10, cb11, db11, cb13, db13, cb15, db15⟩) | (go_keep; done)) (first | (go_at_call 27; refine (e1 _).mono ?_; rintro _ wx ⟨rfl, mx⟩; clear e1; replace M : Moves [] w wx := (by first | exact M.then mx | exact M.drew.then mx); replace cb3 := mx.cell cb3; replace db3 := mx.cell db3; replace cb4 := mx.cell cb4; replace db4 := mx.cell db4; replace cb7 := mx.cell cb7; replace db7 := mx.cell db7; replace cb8 := mx.cell cb8; replace db8 := mx.cell db8; replace cb10 := mx.cell cb10; replace db10 := mx.cell db10; replace cb11 := mx.cell cb11; replace db11 := mx.cell db11; replace cb13 := mx.cell cb13; replace db13 := mx.cell db13; replace cb15 := mx.cell cb15; replace db15 := mx.cell db15; clear mx) | (go_at_call 31; refine (e2 _).mono ?_; rintro _ wx ⟨rfl, mx⟩; clear e2; replace M : Moves [] w wx := (by first | exact M.then mx | exact M.drew.then mx); replace cb3 := mx.cell cb3; replace db3 := mx.cell db3; replace cb4 := mx.cell cb4; replace db4 := mx.cell db4; replace cb7 := mx.cell cb7; replace db7 := mx.cell db7; replace cb8 := mx.cell cb8; replace db8 := mx.cell db8; replace cb10 := mx.cell cb10; replace db10 := mx.cell db10; replace cb11 := mx.cell cb11; replace db11 := mx.cell db11; replace cb13 := mx.cell cb13; replace db13 := mx.cell db13; replace cb15 := mx.cell cb15; replace db15 := mx.cell db15; clear mx) | (go_at_call 15; refine (e3 _).mono ?_; rintro _ wx ⟨rfl, mx⟩; clear e3; replace M : Moves [] w wx := (by first | exact M.then mx | exact M.drew.then mx); replace cb3 := mx.cell cb3; replace db3 := mx.cell db3; replace cb4 := mx.cell cb4; replace db4 := mx.cell db4; replace cb7 := mx.cell cb7; replace db7 := mx.cell db7; replace cb8 := mx.cell cb8; replace db8 := mx.cell db8; replace cb10 := mx.cell cb10; replace db10 := mx.cell db10; replace cb11 := mx.cell cb11; replace db11 := mx.cell db11; replace cb13 := mx.cell cb13; replace db13 := mx.cell db13; replace cb15 := mx.cell cb15; replace db15 := mx.cell db15; clear mx) | (go_at_call 32; refine (e4 _).mono ?_; rintro _ wx ⟨rfl, mx⟩; clear e4; replace M : Moves [] w wx := (by first | exact M.then mx | exact M.drew.then mx); replace cb3 := mx.cell cb3; replace db3 := mx.cell db3; replace cb4 := mx.cell cb4; replace db4 := mx.cell db4; replace cb7 := mx.cell cb7; replace db7 := mx.cell db7; replace cb8 := mx.cell cb8; replace db8 := mx.cell db8; replace cb10 := mx.cell cb10; replace db10 := mx.cell db10; replace cb11 := mx.cell cb11; replace db11 := mx.cell db11; replace cb13 := mx.cell cb13; replace db13 := mx.cell db13; replace cb15 := mx.cell cb15; replace db15 := mx.cell db15; clear mx) | (go_at_call 28; refine (e5 _).mono ?_; rintro _ wx ⟨rfl, mx⟩; clear e5; replace M : Moves [] w wx := (by first | exact M.then mx | exact M.drew.then mx); replace cb3 := mx.cell cb3; replace db3 := mx.cell db3; replace cb4 := mx.cell cb4; replace db4 := mx.cell db4; replace cb7 := mx.cell cb7; replace db7 := mx.cell db7; replace cb8 := mx.cell cb8; replace db8 := mx.cell db8; replace cb10 := mx.cell cb10; replace db10 := mx.cell db10; replace cb11 := mx.cell cb11; replace db11 := mx.cell db11; replace cb13 := mx.cell cb13; replace db13 := mx.cell db13; replace cb15 := mx.cell cb15; replace db15 := mx.cell db15; clear mx) | (go_at_call 33; refine (e6 _).mono ?_; rintro _ wx ⟨rfl, mx⟩; clear e6; replace M : Moves [] w wx := (by first | exact M.then mx | exact M.drew.then mx); replace cb3 := mx.cell cb3; replace db3 := mx.cell db3; replace cb4 := mx.cell cb4; replace db4 := mx.cell db4; replace cb7 := mx.cell cb7; replace db7 := mx.cell db7; replace cb8 := mx.cell cb8; replace db8 := mx.cell db8; replace cb10 := mx.cell cb10; replace db10 := mx.cell db10; replace cb11 := mx.cell cb11; replace db11 := mx.cell db11; replace cb13 := mx.cell cb13; replace db13 := mx.cell db13; replace cb15 := mx.cell cb15; replace db15 := mx.cell db15; clear mx))
  go_wp2
  go_ret
  exact ⟨rfl, M⟩

theorem ret_span {fn : Func} {p : Tmp} (h : fn.results = #[.cell p 27]) (tmps : Array Value) (w : World) (g : Nat) (x y : Value) (hp : tmps.getD p undef = .pointer (some ⟨g, 0, none⟩)) (hg : w.heap[g]? = some (.cells #[x, y] 27 (0, 0))) :
    (results fn tmps).run Try.prog w = .ok (.agg #[x, y]) w :=
  results_cell_row h tmps w g 27 _ (0, 0) _ hp hg Try.underlying27 rfl Try.size27

set_option maxRecDepth 100000 in
set_option maxHeartbeats 2000000 in
theorem made7_w (a b : Int) : ∃ lo hi, spE lo = true ∧ spE hi = true ∧ ∀ w, Calls Try.prog 13 #[.int .i64 a, .int .i64 b] w fun e w' => e = .returned (.agg #[.string lo, .string hi]) ∧ Moves [] w w' := by
  obtain ⟨sa, ha, hra⟩ := row_ds a
  obtain ⟨sb, hb, hrb⟩ := row_ds b
  have eA : spE sa = true := decide_eq_true (by omega)
  have eB : spE sb = true := decide_eq_true (by omega)
  have e0 : spE ⟨#[]⟩ = true := decide_eq_true (by decide)
  clear ha hb
  refine ⟨if (a.tmod 5 == 0) = true then ⟨#[]⟩ else sa, if (b.tmod 5 == 0) = true then ⟨#[]⟩ else sb, by split <;> assumption, by split <;> assumption, fun w => ?_⟩
  clear eA eB e0
  have b4 := heap_alloc_new w (.cells #[.string ⟨#[]⟩, .string ⟨#[]⟩] 27)
  have m4 : Moves [] w (w.alloc (.cells #[.string ⟨#[]⟩, .string ⟨#[]⟩] 27)) := (Moves.refl _ _).alloc _
  obtain ⟨P, hP⟩ : ∃ P, w.heap.size = P := ⟨_, rfl⟩
  rw [hP] at b4
  have hPw : w.heap.size ≤ P := by omega
  cases h1 : (a.tmod 5 == 0) <;> cases h2 : (b.tmod 5 == 0)
  all_goals simp only [if_true, Bool.false_eq_true, if_false]
  all_goals go_enter Try.func13, Try.ntmps13
  all_goals go_wp2_with (first | (go_at_call 14; refine (hra _).mono ?_; rintro _ w2 ⟨rfl, m2⟩; clear hra; replace m4 := m4.then m2; replace b4 := m2.at b4 (by simp)) | (go_at_call 14; refine (hrb _).mono ?_; rintro _ w3 ⟨rfl, m3⟩; clear hrb; replace m4 := m4.then m3; replace b4 := m3.at b4 (by simp); have b5 := (fun o => ((Moves.refl [] w3).alloc o).at b4 (by simp)); have c0 := (fun o => (sp_cells (b5 o)).1); have c1 := (fun o => (sp_cells (b5 o)).2.1); have f0 := (fun o => (sp_cells (b5 o)).2.2.1); have f1 := (fun o => (sp_cells (b5 o)).2.2.2)))
  all_goals try simp only [Exit.inBlock, Exit.then]
  all_goals refine bodyPost_ret (ret_span rfl _ _ _ _ _ rfl (spStored1 (b5 _)).1) rfl ⟨rfl, ?_⟩
  all_goals exact ((m4.alloc _).trans (spStored1 (b5 _)).2 (fun x hx => .inr (by simp at hx; omega)))
end Go.Proofs.Ytgeadpmnnjfkkaa
