/-
  The walk of DiskPlays.
-/
import Derived.Test.YtedehhnhmkeglaaCB07
namespace Go.Proofs.Ytedehhnhmkeglaa
open Go.RowKit

/-- A row of n bytes that may be written to. -/
def BX (w : World) (x : Value) (n : Nat) : Prop := (n = 0 ∧ ∃ ad cap, x = .slice ad 0 cap) ∨ ∃ g cap arr fz, x = .slice (some ⟨g, 0, none⟩) n cap ∧ n ≤ cap ∧ w.heap[g]? = some (.cells arr 5 fz) ∧ (n ≤ fz.1 ∨ fz.2 = 0) ∧ ∀ j, j < n → ∃ z : Int, arr[j]? = some (.int .u8 z)
theorem BX.shape {w : World} {x : Value} {n : Nat} (h : BX w x n) : ∃ ad cap, x = .slice ad n cap ∧ (n = 0 ∨ n ≤ cap) := by
  rcases h with ⟨rfl, ad, cap, rfl⟩ | ⟨g, cap, arr, fz, rfl, hc, _⟩
  · exact ⟨_, _, rfl, .inl rfl⟩
  · exact ⟨_, _, rfl, .inr hc⟩
theorem BX.moves {w w' : World} {x : Value} {n : Nat} {S : List Nat} (h : BX w x n) (m : Moves S w w') (hS : ∀ k c t fz, w.heap[k]? = some (.cells c t fz) → k ∈ S → t ≠ 5) : BX w' x n := by
  rcases h with h | ⟨g, cap, arr, fz, h1, h2, h3, h4, h5⟩
  · exact .inl h
  · exact .inr ⟨g, cap, arr, fz, h1, h2, m.at h3 (fun hk => hS _ _ _ _ h3 hk rfl), h4, h5⟩
theorem BX.cell {w : World} {x : Value} {n j : Nat} (h : BX w x n) (hj : j < n) : ∃ g cap arr fz z, x = .slice (some ⟨g, 0, none⟩) n cap ∧ n ≤ cap ∧ w.heap[g]? = some (.cells arr 5 fz) ∧ w.cell? ⟨g, j, none⟩ = some (.int .u8 z) ∧ w.frozen? ⟨g, j, none⟩ = false := by
  rcases h with ⟨rfl, _⟩ | ⟨g, cap, arr, fz, rfl, h2, h3, h4, h5⟩
  · omega
  · obtain ⟨z, hz⟩ := h5 j hj
    refine ⟨g, cap, arr, fz, z, rfl, h2, h3, ?_, ?_⟩
    · simp only [World.cell?, h3]; simpa using hz
    · simp only [World.frozen?, h3]
      have : ¬ (fz.1 ≤ j ∧ j < fz.2) := by omega
      simpa using this
theorem BX.put {w : World} {x : Value} {n g i : Nat} {arr : Array Value} {fz : Nat × Nat} (h : BX w x n) (hg : w.heap[g]? = some (.cells arr 5 fz)) (z : Int) : BX (w.setCell ⟨g, i, none⟩ (.int .u8 z)) x n := by
  rcases h with h | ⟨g', cap, arr', fz', rfl, h2, h3, h4, h5⟩
  · exact .inl h
  · by_cases e : g' = g
    · subst e
      rw [hg] at h3
      simp only [Option.some.injEq, Obj.cells.injEq, true_and] at h3
      obtain ⟨rfl, rfl⟩ := h3
      refine .inr ⟨g', cap, _, fz, rfl, h2, heap_set hg _, h4, fun j hj => ?_⟩
      obtain ⟨y, hy⟩ := h5 j hj
      rw [Array.getElem?_setIfInBounds]
      by_cases ij : i = j
      · subst ij
        have := (Array.getElem?_eq_some_iff.1 hy).1
        exact ⟨z, by simp [this]⟩
      · exact ⟨y, by simp [ij, hy]⟩
    · exact .inr ⟨g', cap, arr', fz', rfl, h2, (moves_set w g i _).at h3 (by simpa using e), h4, h5⟩
theorem BW.bx {w : World} {x : Value} {bs : List Nat} (h : BW w x bs) : BX w x bs.length := by
  obtain ⟨g, cap, arr, fz, rfl, h2, h3, h4, h5⟩ := h
  exact .inr ⟨g, cap, arr, fz, rfl, h2, h3, .inl h4, fun j hj => ⟨_, (h5 j _ (List.getElem?_eq_getElem hj)).2⟩⟩
theorem Own.bx {w : World} {x : Value} {bs : List Nat} (h : Own w x bs) : BX w x bs.length := by
  rcases h.2 with ⟨rfl, h0⟩ | ⟨g, cap, cur, rfl, hb, hgg, h1, h2, h3, h4⟩
  · exact .inl ⟨h0, _, _, rfl⟩
  · refine .inr ⟨g, cap, cur, (0, 0), rfl, h1, hgg, .inr rfl, fun j hj => ?_⟩
    have e1 : (u8s bs)[j]? = some (.int .u8 ((bs[j] : Nat) : Int)) := by simp [u8s, hj]
    rw [← h4, List.getElem?_take, if_pos (by omega)] at e1
    exact ⟨_, by simpa using e1⟩

/-- What the law knows of its disk and its list of records. -/
structure PlD (w wr : World) (p : Nat) (a : Option Nat) (mv : Value) (us : List Value) (bss : List (List Nat)) : Prop where
  dk : DkIs wr p a (bss.map strOf)
  own : OwnBB wr mv us
  bs : BsV w us bss
  short : ∀ s ∈ bss, s.length ≤ 1000
  mvd : Moves [] w wr
  fp : ∀ j ∈ p :: a.toList, w.heap.size ≤ j
  fm : Fresh w mv
theorem PlD.moves {w wr w' : World} {p : Nat} {a : Option Nat} {mv : Value} {us : List Value} {bss : List (List Nat)} (h : PlD w wr p a mv us bss) (m : Moves [] wr w') : PlD w w' p a mv us bss :=
  ⟨h.dk.moves m (by simp), h.own.moves m (by simp), h.bs, h.short, h.mvd.then m, h.fp, h.fm⟩
theorem PlD.len {w wr : World} {p : Nat} {a : Option Nat} {mv : Value} {us : List Value} {bss : List (List Nat)} (h : PlD w wr p a mv us bss) : us.length = bss.length := h.bs.length
/-- A byte of a row of the call's own is written to. -/
theorem PlD.put {w wr : World} {p g i : Nat} {a : Option Nat} {mv u : Value} {us : List Value} {bss : List (List Nat)} {arr : Array Value} {fz : Nat × Nat} (h : PlD w wr p a mv us bss) (hg : wr.heap[g]? = some (.cells arr 5 fz)) (hf : w.heap.size ≤ g) : PlD w (wr.setCell ⟨g, i, none⟩ u) p a mv us bss := by
  have m := moves_set wr g i u
  refine ⟨h.dk.moves m (fun k hk hs => ?_), h.own.moves m (fun k hk hs => ?_), h.bs, h.short, h.mvd.trans m (fun k hk => .inr (by simp at hk; omega)), h.fp, h.fm⟩
  · simp at hs; subst hs
    exact h.dk.apart hg (by decide) (by decide) hk
  · simp at hs; subst hs
    exact h.own.ne hg (by decide) (Option.mem_toList.2 hk)
/-- All rows that a disk told, and its records. -/
structure AlD (w wr : World) (p : Nat) (a : Option Nat) (mv : Value) (us : List Value) (bss : List (List Nat)) (v : Value) (vs : List Value) : Prop where
  pl : PlD w wr p a mv us bss
  own : OwnBB wr v vs
  rows : ∀ x ∈ vs, (∃ n, n ≤ 1000 ∧ BX wr x n) ∧ Fresh w x
theorem AlD.put {w wr : World} {p g i : Nat} {a : Option Nat} {mv v : Value} {us vs : List Value} {bss : List (List Nat)} {arr : Array Value} {fz : Nat × Nat} (h : AlD w wr p a mv us bss v vs) (hg : wr.heap[g]? = some (.cells arr 5 fz)) (hf : w.heap.size ≤ g) (z : Int) : AlD w (wr.setCell ⟨g, i, none⟩ (.int .u8 z)) p a mv us bss v vs := by
  refine ⟨h.pl.put hg hf, h.own.moves (moves_set wr g i _) (fun k hk hs => ?_), fun x hx => ?_⟩
  · simp at hs; subst hs
    exact h.own.ne hg (by decide) (Option.mem_toList.2 hk)
  · obtain ⟨⟨n, h1, h2⟩, h3⟩ := h.rows x hx
    exact ⟨⟨n, h1, h2.put hg z⟩, h3⟩
theorem All2.get2 {α β : Type} {R : α → β → Prop} : ∀ {s : List α} {t : List β}, All2 R s t → ∀ {k : Nat} {a : α}, s[k]? = some a → ∃ b, t[k]? = some b ∧ R a b
  | [], [], _, _, _, hk => by simp at hk
  | a :: _, b :: _, h, 0, _, hk => by simp at hk; subst hk; exact ⟨b, rfl, h.1⟩
  | _ :: s, _ :: t, h, k + 1, a, hk => by
    obtain ⟨b, h1, h2⟩ := All2.get2 h.2 (k := k) (a := a) (by simpa using hk)
    exact ⟨b, by simpa using h1, h2⟩
  | _ :: _, [], h, _, _, _ => h.elim
set_option maxRecDepth 100000 in
set_option maxHeartbeats 64000000 in
theorem diskPlays_w (lv : Value) (w : World) (hl : DkArgs w lv) : Calls Try.prog 4 #[lv] w fun e w' => e = .returned (.bool true) ∧ Moves [] w w' := by
  obtain ⟨ad, n, cap, rfl, hcap, hl⟩ := hl
  have HL : Hid (∀ k, k < n → ∃ b off z0 a1 l1 c1 g bs a2 l2 c2 bss, ad = some ⟨b, off, none⟩ ∧ w.cell? ⟨b, off + k * 3, none⟩ = some (.int .i64 z0) ∧ w.cell? ⟨b, off + k * 3 + 1, none⟩ = some (.slice a1 l1 c1) ∧ w.cell? ⟨b, off + k * 3 + 2, none⟩ = some (.slice a2 l2 c2) ∧ IsB w g (.slice a1 l1 c1) bs ∧ (∀ z ∈ bs, z < 256) ∧ LsB w (.slice a2 l2 c2) bss) := hl
  clear hl
  go_enter Try.func4, Try.ntmps4
  go_wp2_with fail
  refine (dkNew_w _).mono ?_
  rintro _ w1 ⟨rfl, hD1, m1⟩
  obtain ⟨p0, hp⟩ : ∃ p, w.heap.size = p := ⟨_, rfl⟩
  rw [hp] at hD1 ⊢
  have Hp : Hid (w.heap.size = p0) := hp
  clear hp
  go_wp2_with fail
  go_loopw [3, 4, 5] (fun dv mv i wr => ∃ k : Nat, k ≤ n ∧ k ≤ 40 ∧ i = .int .i64 k ∧ ∃ p a us bss, dv = .pointer (some ⟨p, 0, none⟩) ∧ bss.length ≤ k + 5 ∧ PlD w wr p a mv us bss) (fun _ _ i _ => n - (intOf i).toNat)
  case atStart => exact ⟨0, Nat.zero_le _, Nat.zero_le _, rfl, p0, none, [], [], rfl, by simp, hD1, OwnBB.nil _, trivial, by simp, m1, fun j hj => by simp at hj; have := Hp.out; omega, Fresh.nil _⟩
  case round =>
    obtain ⟨k, hk, hk40, rfl, p, a, us, bss, rfl, hfew, hP⟩ := hrel
    obtain ⟨wo, hwo⟩ : ∃ wo, wo = wr := ⟨_, rfl⟩
    subst hwo
    obtain ⟨ad4, cap4, rfl, hc4, hn4, -, -⟩ := hP.own.at
    obtain ⟨n4, Hn4⟩ : ∃ n4, us.length = n4 := ⟨_, rfl⟩
    rw [Hn4] at hP hc4 ⊢
    have HN4 : Hid (us.length = n4) := Hn4
    have HB4 : Hid (bss.length = n4) := by unfold Hid; rw [← hP.len]; exact Hn4
    have hn45 : n4 ≤ k + 5 := by rw [← HB4.out]; exact hfew
    have HP : Hid (PlD w wo p a (.slice ad4 n4 cap4) us bss) := hP
    clear hP hfew Hn4
    by_cases hgo : k < n ∧ k < 40
    · obtain ⟨hlt, h40⟩ := hgo
      have hlt' : (k : Int) < n := by omega
      have h40' : (k : Int) < 40 := by omega
      obtain ⟨b, off, z0, a1, l1, c1, gB, bs, a2, l2, c2, bss2, rfl, hx0, hx1, hx2, hB, ho, hL⟩ := HL.out k hlt
      have HX1 : Hid (w.cell? ⟨b, off + k * 3 + 1, none⟩ = some (.slice a1 l1 c1)) := hx1
      have hx0 := HP.out.mvd.cell hx0
      have hx1 := HP.out.mvd.cell hx1
      have hx2 := HP.out.mvd.cell hx2
      have HBB : Hid (IsB w gB (.slice a1 l1 c1) bs) := hB
      have HLL : Hid (LsB w (.slice a2 l2 c2) bss2) := hL
      have HOo : Hid (∀ z ∈ bs, z < 256) := ho
      clear hB hL ho
      by_cases hk1 : z0 = 1
      · subst hk1
        have mE : Moves [] wo (wo.alloc (.cells #[] 5)) := (Moves.refl _ _).alloc _
        have hE := own_empty wo
        have hfE : Fresh wo (.slice (some ⟨wo.heap.size, 0, none⟩) 0 0) := fun j hj => by simp [Value.ownBlock] at hj; omega
        have c0 := mE.cell hx1
        have hcut := cut_old (.slice a1 l1 c1) gB bs w (wo.alloc (.cells #[] 5)) HBB.out
        go_wp2_with fail
        refine hcut.mono ?_
        rintro _ _ ⟨v5, rfl, hv5, rfl⟩
        obtain ⟨cs, Hcs⟩ : ∃ cs, Hid (bs.take 20 = cs) := ⟨_, rfl⟩
        have hcl : cs.length ≤ 20 := by rw [← Hcs.out, List.length_take]; omega
        have hco : ∀ b ∈ cs, b < 256 := by rw [← Hcs.out]; exact take_oct HOo.out 20
        rw [Hcs.out] at hv5
        have hv5E := hv5.moves (HP.out.mvd.then mE) (by simp)
        obtain ⟨ad5, n5, cap5, rfl, -⟩ := id hv5
        clear hv5 hcut
        go_wp2_with (at_builtin; refine append_law (.tmp 34) (.tmp 40) rfl (.slice (some ⟨wo.heap.size, 0, none⟩) 0 0) (.slice ad5 n5 cap5) [] cs gB rfl rfl rfl hE hv5E (by simp; omega) ?_)
        intro v6 w6 hO6 m6 l6
        have hO6 : Own w6 v6 cs := hO6
        obtain ⟨M6, hf6⟩ := appended mE hfE m6 l6
        obtain ⟨ad6, n6, cap6, rfl, hn6, hc6, hnil6, -⟩ := id hO6.isB
        have hD6 := HP.out.dk.moves M6 (by simp)
        have hA := dkAppend_w w6 p a _ _ _ cs hD6 hO6.isB hco (by rw [List.length_map, HB4.out]; omega)
        have HO6 : Hid (Own w6 (.slice ad6 n6 cap6) cs) := hO6
        clear hE hfE c0 hv5E hO6 m6 l6
        go_wp2_with fail
        refine hA.mono ?_
        rintro _ w7 ⟨rfl, a7, hTo⟩
        obtain ⟨M7, hf7⟩ := hTo.fresh (HP.out.mvd.then M6) HP.out.fp
        have hX7 : BX w7 (.slice ad6 n6 cap6) cs.length := HO6.out.bx.moves hTo.2.1 (fun j c t fz hj hj2 e => by
          subst e
          exact hD6.apart hj (by decide) (by decide) hj2)
        rw [hn6] at hX7
        have hO7 : OwnBB w7 (.slice ad4 n4 cap4) us := (HP.out.own.moves M6 (by simp)).moves hTo.2.1 (fun j hj => by
          obtain ⟨cur, hcur⟩ := (HP.out.own.moves M6 (by simp)).block hj
          exact hD6.apart hcur (by decide) (by decide))
        have hfb : Fresh w (.slice ad6 n6 cap6) := fun j hj => Nat.le_trans HP.out.mvd.size (hf6 j hj)
        have hx1' := M7.cell HX1.out
        have hD7 := hTo.1
        have hcut := cut_old (.slice a1 l1 c1) gB bs w w7 HBB.out
        rw [Hcs.out] at hcut
        clear hA hTo hx1 hx0 hx2
        go_wp2_with fail
        refine hcut.mono ?_
        rintro _ _ ⟨v8, rfl, hv8, rfl⟩
        obtain ⟨ad8, n8, cap8, rfl, -⟩ := id hv8
        have HV8 : Hid (IsB w gB (.slice ad8 n8 cap8) cs) := hv8
        have m8 : Moves [] w7 (w7.alloc (.cells #[.slice ad8 n8 cap8] 30)) := (Moves.refl _ _).alloc _
        have hO8 := hO7.moves m8 (by simp)
        clear hv8 hcut hO7
        go_wp2_with (at_builtin; refine bbs_append (.tmp 45) (.tmp 52) rfl (.slice ad4 n4 cap4) _ _ _ us [.slice ad8 n8 cap8] rfl rfl rfl hO8 (vals_new w7 _) rfl (by simp) (by simp [Value.oneCell']) (by have := HN4.out; simp; omega) ?_)
        intro v9 w9 hO9 m9 l9
        obtain ⟨M9, hf9⟩ := appended (M7.then m8) HP.out.fm m9 l9
        have hPX : ∃ ad9 cap9 us9 bss9, v9 = .slice ad9 (n4 + 1) cap9 ∧ bss9.length = n4 + 1 ∧ PlD w w9 p a7 v9 us9 bss9 := by
          obtain ⟨ad9, cap9, e9, -, -, -, -⟩ := hO9.at
          refine ⟨ad9, cap9, _, bss ++ [cs], by rw [e9]; simp [HN4.out], by simp [HB4.out], ?_, hO9, All2.append HP.out.bs ⟨⟨⟨gB, HV8.out⟩, hco⟩, trivial⟩, ?_, M9, hf7, hf9⟩
          · rw [List.map_append]
            refine (hD7.moves m8 (by simp)).moves m9 (fun j hj hj2 => ?_)
            obtain ⟨cur, hcur⟩ := hO8.block (Option.mem_toList.1 hj2)
            exact (hD7.moves m8 (by simp)).apart hcur (by decide) (by decide) hj
          · intro s hs
            rcases List.mem_append.1 hs with hs | hs
            · exact HP.out.short s hs
            · simp at hs; subst hs; omega
        have hX9 : BX w9 (.slice ad6 n6 cap6) n6 := (hX7.moves m8 (by simp)).moves m9 (fun j c t fz hj hj2 e => by
          subst e
          obtain ⟨cur, hcur⟩ := hO8.block (Option.mem_toList.1 hj2)
          rw [hj] at hcur
          simp at hcur)
        obtain ⟨ad9, cap9, us9, bss9, rfl, hl9, hP9⟩ := hPX
        have HL9 : Hid (bss9.length = n4 + 1) := hl9
        obtain ⟨n9, hn9⟩ : ∃ n9, n4 + 1 = n9 := ⟨_, rfl⟩
        rw [hn9] at hP9 HL9 ⊢
        clear hX7 hO8 hO9 m9 l9 hD7 hl9
        go_wp2_with fail
        go_loopw [7] (fun i wr => ∃ r : Nat, r ≤ n6 ∧ i = .int .i64 r ∧ PlD w wr p a7 (.slice ad9 n9 cap9) us9 bss9 ∧ BX wr (.slice ad6 n6 cap6) n6) (fun i _ => n6 - (intOf i).toNat)
        case atStart => exact ⟨0, Nat.zero_le _, rfl, hP9, hX9⟩
        case round =>
          obtain ⟨r, hr, rfl, hPr, hXr⟩ := hrel
          obtain ⟨wy, hwy⟩ : ∃ wy, wy = wr := ⟨_, rfl⟩
          subst hwy
          have HPr : Hid (PlD w wy p a7 (.slice ad9 n9 cap9) us9 bss9) := hPr
          have HXr : Hid (BX wy (.slice ad6 n6 cap6) n6) := hXr
          clear hPr hXr hP9 hX9
          have hn20 : n6 ≤ 20 := by omega
          by_cases hrn : r < n6
          · have hrn' : (r : Int) < n6 := by omega
            obtain ⟨gX, cX, arr, fz, z, eX, hcX, hgX, hcell, hfrz⟩ := HXr.out.cell hrn
            simp only [Value.slice.injEq, true_and] at eX
            obtain ⟨rfl, rfl⟩ := eX
            have hgf : w.heap.size ≤ gX := hfb gX rfl
            have HgX : Hid (wy.heap[gX]? = some (.cells arr 5 fz)) := hgX
            clear hgX
            go_wp2_with fail
            go_roundw
            case rel => exact ⟨r + 1, by omega, by go_num, HPr.out.put HgX.out hgf, HXr.out.put HgX.out _⟩
            case measure => simp [intOf]; omega
          · obtain rfl : r = n6 := by omega
            have hPA := HPr.out
            have hn45 : n9 ≤ k + 1 + 5 := by omega
            clear HPr
            have hSm := same14_w wy p a7 (.slice ad9 n9 cap9) bss9 hPA.dk (LsB.ofOwn hPA.own (hPA.bs.moves hPA.mvd)) (by have := HL9.out; omega) hPA.short
            have HPA : Hid (PlD w wy p a7 (.slice ad9 n9 cap9) us9 bss9) := hPA
            clear hPA
            go_wp2_with fail
            refine hSm.mono ?_
            rintro _ wt ⟨rfl, mt⟩
            have hPB := HPA.out.moves mt
            have hAl := dkAll_w wt p a7 _ hPB.dk (by rw [List.length_map]; have := HL9.out; omega)
            have HPB : Hid (PlD w wt p a7 (.slice ad9 n9 cap9) us9 bss9) := hPB
            clear hPB hSm
            go_wp2_with fail
            refine hAl.mono ?_
            rintro _ wu ⟨vA, vsA, rfl, hOA, hRA, mu, fA⟩
            have hAD : AlD w wu p a7 (.slice ad9 n9 cap9) us9 bss9 vA vsA := by
              refine ⟨HPB.out.moves mu, hOA, fun x hx => ?_⟩
              obtain ⟨j, hj⟩ := List.getElem?_of_mem hx
              obtain ⟨bb, hbb, q1, q2⟩ := All2.get2 hRA hj
              refine ⟨⟨_, ?_, q1.bx⟩, fun j hj => Nat.le_trans HPB.out.mvd.size (q2 j hj)⟩
              have hm := List.mem_of_getElem? hbb
              simp only [List.mem_map] at hm
              obtain ⟨_, ⟨s, hs, rfl⟩, rfl⟩ := hm
              rw [zbs_length, strOf_size]
              exact HPB.out.short s hs
            obtain ⟨adA, capA, rfl, hcA, hnA, -, -⟩ := hOA.at
            obtain ⟨nA, HnA⟩ : ∃ nA, vsA.length = nA := ⟨_, rfl⟩
            rw [HnA] at hAD hcA ⊢
            have HNA : Hid (vsA.length = nA) := HnA
            have hnA1000 : nA ≤ 1000 := by
              have e1 := hRA.length
              rw [List.length_map, List.length_map, HnA] at e1
              have := HL9.out
              omega
            clear hOA hRA mu fA HnA hAl
            go_wp2_with fail
            go_loopw [12] (fun i wr => ∃ qq : Nat, qq ≤ nA ∧ i = .int .i64 qq ∧ AlD w wr p a7 (.slice ad9 n9 cap9) us9 bss9 (.slice adA nA capA) vsA) (fun i _ => nA - (intOf i).toNat)
            case atStart => exact ⟨0, Nat.zero_le _, rfl, hAD⟩
            case round =>
              obtain ⟨qq, hq, rfl, hAq⟩ := hrel
              obtain ⟨wv, hwv⟩ : ∃ wv, wv = wr := ⟨_, rfl⟩
              subst hwv
              have HAq : Hid (AlD w wv p a7 (.slice ad9 n9 cap9) us9 bss9 (.slice adA nA capA) vsA) := hAq
              clear hAq
              by_cases hqn : qq < nA
              · have hqn' : (qq : Int) < nA := by omega
                obtain ⟨x, hx⟩ : ∃ x, vsA[qq]? = some x := ⟨_, List.getElem?_eq_getElem (by have := HNA.out; omega)⟩
                obtain ⟨⟨nx, hnx, hBX⟩, hFx⟩ := HAq.out.rows x (List.mem_of_getElem? hx)
                obtain ⟨adX, capX, rfl, -⟩ := hBX.shape
                have HFX : Hid (Fresh w (.slice adX nx capX)) := hFx
                have HX : Hid (vsA[qq]? = some (.slice adX nx capX)) := hx
                clear hx hBX hFx
                go_wp2_with fail
                go_loopw [13] (fun i wr => ∃ rr : Nat, rr ≤ nx ∧ i = .int .i64 rr ∧ AlD w wr p a7 (.slice ad9 n9 cap9) us9 bss9 (.slice adA nA capA) vsA ∧ BX wr (.slice adX nx capX) nx) (fun i _ => nx - (intOf i).toNat)
                case atStart => exact ⟨0, Nat.zero_le _, rfl, HAq.out, by
                  obtain ⟨⟨n', _, hB'⟩, _⟩ := HAq.out.rows _ (List.mem_of_getElem? HX.out)
                  obtain ⟨_, _, e, _⟩ := hB'.shape
                  simp at e
                  have e2 : n' = nx := e.2.1.symm
                  subst e2
                  exact hB'⟩
                case round =>
                  obtain ⟨rr, hr, rfl, hAr, hBr⟩ := hrel
                  obtain ⟨wy, hwy⟩ : ∃ wy, wy = wr := ⟨_, rfl⟩
                  subst hwy
                  obtain ⟨ad9, cap9, e9, _, _, hV9, _⟩ := hAr.own.at
                  rw [HNA.out] at e9
                  simp only [Value.slice.injEq, true_and] at e9
                  obtain ⟨rfl, rfl⟩ := e9
                  obtain ⟨gV, offV, rfl, hcV⟩ := hV9 qq _ HX.out
                  have HAr : Hid (AlD w wy p a7 (.slice ad9 n9 cap9) us9 bss9 (.slice (some ⟨gV, offV, none⟩) nA capA) vsA) := hAr
                  have HBr : Hid (BX wy (.slice adX nx capX) nx) := hBr
                  clear hAr hBr hV9
                  by_cases hrn : rr < nx
                  · have hrn' : (rr : Int) < nx := by omega
                    obtain ⟨gX, cX, arr, fz, z, eX, hcX, hgX, hcell, hfrz⟩ := HBr.out.cell hrn
                    simp only [Value.slice.injEq, true_and] at eX
                    obtain ⟨rfl, rfl⟩ := eX
                    have hgf : w.heap.size ≤ gX := HFX.out gX rfl
                    have HgX : Hid (wy.heap[gX]? = some (.cells arr 5 fz)) := hgX
                    clear hgX
                    go_wp2_with fail
                    go_roundw
                    case rel => exact ⟨rr + 1, by omega, by go_num, HAr.out.put HgX.out hgf _, HBr.out.put HgX.out _⟩
                    case measure => simp [intOf]; omega
                  · obtain rfl : rr = nx := by omega
                    go_wp2_with fail
                    go_roundw
                    case rel => exact ⟨qq + 1, by omega, by go_num, HAr.out⟩
                    case measure => simp [intOf]; omega
              · obtain rfl : qq = nA := by omega
                go_wp2_with fail
                go_roundw
                case rel => exact ⟨k + 1, by omega, by omega, by go_num, p, a7, us9, bss9, rfl, by have := HL9.out; omega, HAq.out.pl⟩
                case measure => simp [intOf]; omega
      · by_cases hk2 : z0 = 2
        · subst hk2
          obtain ⟨ad2, vs2, cap2, e2, hc2, hnil2, hV2, hB2⟩ := HLL.out
          simp only [Value.slice.injEq] at e2
          obtain ⟨rfl, rfl, rfl⟩ := e2
          obtain ⟨n2, Hn2⟩ : ∃ n2, Hid (vs2.length = n2) := ⟨_, rfl⟩
          have HB2l : Hid (bss2.length = n2) := by unfold Hid; rw [← hB2.length]; exact Hn2.out
          rw [Hn2.out] at hx2 hc2
          have HV2 : Hid (ValsAt w a2 vs2) := hV2
          have HB2 : Hid (BsV w vs2 bss2) := hB2
          clear hV2 hB2 HLL
          go_wp2_with fail
          go_loopw [8, 9] (fun xv i wr => ∃ r : Nat, r ≤ n2 ∧ r ≤ 5 ∧ i = .int .i64 r ∧ ∃ ys, OwnBB wr xv ys ∧ BsV w ys (cut20 (bss2.take r)) ∧ Fresh wo xv ∧ Moves [] wo wr) (fun _ i _ => n2 - (intOf i).toNat)
          case atStart => exact ⟨0, Nat.zero_le _, Nat.zero_le _, rfl, [], OwnBB.nil _, trivial, Fresh.nil _, Moves.refl _ _⟩
          case round =>
            obtain ⟨r, hr, hr5, rfl, ys, hO, hU, hfx, mo⟩ := hrel
            have hPr := HP.out.moves mo
            obtain ⟨wy, hwy⟩ : ∃ wy, wy = wr := ⟨_, rfl⟩
            subst hwy
            have LY : ys.length = r := by rw [hU.length, cut20, List.length_map, List.length_take, HB2l.out]; omega
            have HU1 : Hid (∀ u ∈ ys, u.oneCell' = true) := hU.one
            obtain ⟨adx, capx, rfl, hcx, hnx, hVx, hbx⟩ := hO.at
            rw [LY] at hcx hO hfx hbx ⊢
            have HO : Hid (OwnBB wy (.slice adx r capx) ys) := hO
            have HU : Hid (BsV w ys (cut20 (bss2.take r))) := hU
            have HPr : Hid (PlD w wy p a (.slice ad4 n4 cap4) us bss) := hPr
            have HLY : Hid (ys.length = r) := LY
            have HVx : Hid (ValsAt wy adx ys) := hVx
            have HBx : Hid (∀ g off, adx = some ⟨g, off, none⟩ → (Value.slice adx r capx).ownBlock = some g) := hbx
            have LC : Hid ((cut20 (bss2.take r)).length = r) := by unfold Hid; rw [cut20, List.length_map, List.length_take, HB2l.out]; omega
            clear hO hU hPr LY hVx hbx
            have hx0 := mo.cell hx0
            have hx2 := mo.cell hx2
            by_cases hgo2 : r < n2 ∧ r < 5
            · obtain ⟨hrn, hr5'⟩ := hgo2
              have hrn' : (r : Int) < n2 := by omega
              have hr5'' : (r : Int) < 5 := by omega
              obtain ⟨rb, hrb⟩ : ∃ rb, bss2[r]? = some rb := ⟨_, List.getElem?_eq_getElem (by have := HB2l.out; omega)⟩
              obtain ⟨x, hx, ⟨gx, hxB⟩, hox⟩ := HB2.out.get hrb
              obtain ⟨g2, off2, rfl, hcell⟩ := HV2.out r x hx
              have hcell := HPr.out.mvd.cell hcell
              obtain ⟨adx2, nx2, capx2, rfl, -⟩ := id hxB
              have HT : Hid (cut20 (bss2.take (r + 1)) = cut20 (bss2.take r) ++ [rb.take 20]) := by
                unfold Hid cut20
                have hk' : r < bss2.length := by rw [HB2l.out]; exact hrn
                rw [List.take_succ_eq_append_getElem hk', List.map_append]
                congr 1
                have := (List.getElem?_eq_some_iff.1 hrb).2
                simp [this]
              have hcut := cut_old _ gx rb w wy hxB
              clear hrb hx hxB
              go_wp2_with fail
              refine hcut.mono ?_
              rintro _ _ ⟨v5, rfl, hv5, rfl⟩
              have HV5 : Hid (IsB w gx v5 (rb.take 20)) := hv5
              obtain ⟨ad5, n5, cap5, rfl, -⟩ := id hv5
              have m3 : Moves [] wy (wy.alloc (.cells #[.slice ad5 n5 cap5] 30)) := (Moves.refl _ _).alloc _
              have hO2 := HO.out.moves m3 (by simp)
              clear hv5 hcut
              go_wp2_with (at_builtin; refine bbs_append (.tmp 82) (.tmp 92) rfl (.slice adx r capx) _ _ _ ys [.slice ad5 n5 cap5] rfl rfl rfl hO2 (vals_new wy _) rfl (by simp) (by simp [Value.oneCell']) (by have := HLY.out; simp; omega) ?_)
              intro v6 w6 hO6 m6 l6
              obtain ⟨M6, hf6⟩ := appended (mo.then m3) hfx m6 l6
              have HO6 : Hid (OwnBB w6 v6 (ys ++ [.slice ad5 n5 cap5])) := hO6
              go_wp2_with fail
              go_roundw
              case rel => exact ⟨r + 1, by omega, by omega, by go_num, _, HO6.out, by rw [HT.out]; exact All2.append HU.out ⟨⟨⟨gx, HV5.out⟩, take_oct hox 20⟩, trivial⟩, hf6, M6⟩
              case measure => simp [intOf]; omega
            · by_cases hrn : r < n2
              · have hrn' : (r : Int) < n2 := by omega
                have hr5'' : ¬ (r : Int) < 5 := by omega
                have hxl : (cut20 (bss2.take r)).length ≤ 1000 := by rw [LC.out]; omega
                have hLx := LsB.ofOwn HO.out (HU.out.moves HPr.out.mvd)
                have hap : ∀ j, (Value.slice adx r capx).ownBlock = some j → j ≠ p := fun j hj e => by
                  obtain ⟨cur, hcur⟩ := HO.out.block hj
                  exact HPr.out.dk.apart hcur (by decide) (by decide) (by rw [e]; simp)
                have hR := dkReplace_w wy p a _ (.slice adx r capx) (cut20 (bss2.take r)) HPr.out.dk hLx (fun ad n cap g off e1 e2 => by
                  simp only [Value.slice.injEq] at e1
                  exact hap g (HBx.out g off (by rw [e1.1]; exact e2))) hxl
                have Hxl : Hid ((cut20 (bss2.take r)).length ≤ 1000) := hxl
                clear hLx hxl
                go_wp2_with fail
                refine hR.mono ?_
                rintro _ w5 ⟨rfl, a5, hD5, m5, hf5⟩
                have M5 : Moves [] w w5 := HPr.out.mvd.trans m5 (fun x hx => .inr (by simp at hx; subst hx; exact HPr.out.fp _ (by simp)))
                have hO5 := HO.out.moves m5 (fun j hj => by simpa using hap j hj)
                have mE : Moves [] w5 (w5.alloc (.cells #[] 30)) := (Moves.refl _ _).alloc _
                have hE := bb_empty w5
                have hfE : Fresh w5 (.slice (some ⟨w5.heap.size, 0, none⟩) 0 0) := fun j hj => by simp [Value.ownBlock] at hj; omega
                obtain ⟨adz, capz, ez, -, -, hVz, -⟩ := (hO5.moves mE (by simp)).at
                rw [HLY.out] at ez
                simp only [Value.slice.injEq, true_and] at ez
                obtain ⟨rfl, rfl⟩ := ez
                have HD5 : Hid (DkIs w5 p a5 ((cut20 (bss2.take r)).map strOf)) := hD5
                clear hR hD5 hO5
                go_wp2_with (at_builtin; refine bbs_append (.tmp 97) (.tmp 98) rfl (.slice (some ⟨w5.heap.size, 0, none⟩) 0 0) _ _ _ [] ys rfl rfl rfl hE hVz HLY.out.symm hnx HU1.out (by have := HLY.out; simp; omega) ?_)
                intro v7 w7 hO7 m7 l7
                obtain ⟨M7, hf7⟩ := appended mE hfE m7 l7
                have hO7 : OwnBB w7 v7 ys := hO7
                obtain ⟨ad7, cap7, e7, -, -, -, -⟩ := hO7.at
                rw [HLY.out] at e7
                subst e7
                have hPA : PlD w w7 p a5 (.slice ad7 r cap7) ys (cut20 (bss2.take r)) := by
                  refine ⟨HD5.out.moves M7 (by simp), hO7, HU.out, cut20_len _, M5.then M7, fun j hj => ?_, fun j hj => Nat.le_trans M5.size (hf7 j hj)⟩
                  rcases List.mem_cons.1 hj with rfl | hj
                  · exact HPr.out.fp _ (by simp)
                  · exact Nat.le_trans HPr.out.mvd.size (hf5 j (Option.mem_toList.1 hj))
                have hn45 : r ≤ k + 1 + 5 := by omega
                clear hE hfE hVz hO7 m7 l7 HD5
                have hSm := same14_w w7 p a5 (.slice ad7 r cap7) (cut20 (bss2.take r)) hPA.dk (LsB.ofOwn hPA.own (hPA.bs.moves hPA.mvd)) (by have := LC.out; omega) hPA.short
                have HPA : Hid (PlD w w7 p a5 (.slice ad7 r cap7) ys (cut20 (bss2.take r))) := hPA
                clear hPA
                go_wp2_with fail
                refine hSm.mono ?_
                rintro _ wt ⟨rfl, mt⟩
                have hPB := HPA.out.moves mt
                have hAl := dkAll_w wt p a5 _ hPB.dk (by rw [List.length_map]; have := LC.out; omega)
                have HPB : Hid (PlD w wt p a5 (.slice ad7 r cap7) ys (cut20 (bss2.take r))) := hPB
                clear hPB hSm
                go_wp2_with fail
                refine hAl.mono ?_
                rintro _ wu ⟨vA, vsA, rfl, hOA, hRA, mu, fA⟩
                have hAD : AlD w wu p a5 (.slice ad7 r cap7) ys (cut20 (bss2.take r)) vA vsA := by
                  refine ⟨HPB.out.moves mu, hOA, fun x hx => ?_⟩
                  obtain ⟨j, hj⟩ := List.getElem?_of_mem hx
                  obtain ⟨bb, hbb, q1, q2⟩ := All2.get2 hRA hj
                  refine ⟨⟨_, ?_, q1.bx⟩, fun j hj => Nat.le_trans HPB.out.mvd.size (q2 j hj)⟩
                  have hm := List.mem_of_getElem? hbb
                  simp only [List.mem_map] at hm
                  obtain ⟨_, ⟨s, hs, rfl⟩, rfl⟩ := hm
                  rw [zbs_length, strOf_size]
                  exact HPB.out.short s hs
                obtain ⟨adA, capA, rfl, hcA, hnA, -, -⟩ := hOA.at
                obtain ⟨nA, HnA⟩ : ∃ nA, vsA.length = nA := ⟨_, rfl⟩
                rw [HnA] at hAD hcA ⊢
                have HNA : Hid (vsA.length = nA) := HnA
                have hnA1000 : nA ≤ 1000 := by
                  have e1 := hRA.length
                  rw [List.length_map, List.length_map, HnA] at e1
                  have := LC.out
                  omega
                clear hOA hRA mu fA HnA hAl
                go_wp2_with fail
                go_loopw [12] (fun i wr => ∃ qq : Nat, qq ≤ nA ∧ i = .int .i64 qq ∧ AlD w wr p a5 (.slice ad7 r cap7) ys (cut20 (bss2.take r)) (.slice adA nA capA) vsA) (fun i _ => nA - (intOf i).toNat)
                case atStart => exact ⟨0, Nat.zero_le _, rfl, hAD⟩
                case round =>
                  obtain ⟨qq, hq, rfl, hAq⟩ := hrel
                  obtain ⟨wv, hwv⟩ : ∃ wv, wv = wr := ⟨_, rfl⟩
                  subst hwv
                  have HAq : Hid (AlD w wv p a5 (.slice ad7 r cap7) ys (cut20 (bss2.take r)) (.slice adA nA capA) vsA) := hAq
                  clear hAq
                  by_cases hqn : qq < nA
                  · have hqn' : (qq : Int) < nA := by omega
                    obtain ⟨x, hx⟩ : ∃ x, vsA[qq]? = some x := ⟨_, List.getElem?_eq_getElem (by have := HNA.out; omega)⟩
                    obtain ⟨⟨nx, hnx, hBX⟩, hFx⟩ := HAq.out.rows x (List.mem_of_getElem? hx)
                    obtain ⟨adX, capX, rfl, -⟩ := hBX.shape
                    have HFX : Hid (Fresh w (.slice adX nx capX)) := hFx
                    have HX : Hid (vsA[qq]? = some (.slice adX nx capX)) := hx
                    clear hx hBX hFx
                    go_wp2_with fail
                    go_loopw [13] (fun i wr => ∃ rr : Nat, rr ≤ nx ∧ i = .int .i64 rr ∧ AlD w wr p a5 (.slice ad7 r cap7) ys (cut20 (bss2.take r)) (.slice adA nA capA) vsA ∧ BX wr (.slice adX nx capX) nx) (fun i _ => nx - (intOf i).toNat)
                    case atStart => exact ⟨0, Nat.zero_le _, rfl, HAq.out, by
                      obtain ⟨⟨n', _, hB'⟩, _⟩ := HAq.out.rows _ (List.mem_of_getElem? HX.out)
                      obtain ⟨_, _, e, _⟩ := hB'.shape
                      simp at e
                      have e2 : n' = nx := e.2.1.symm
                      subst e2
                      exact hB'⟩
                    case round =>
                      obtain ⟨rr, hr, rfl, hAr, hBr⟩ := hrel
                      obtain ⟨wy, hwy⟩ : ∃ wy, wy = wr := ⟨_, rfl⟩
                      subst hwy
                      obtain ⟨ad9, cap9, e9, _, _, hV9, _⟩ := hAr.own.at
                      rw [HNA.out] at e9
                      simp only [Value.slice.injEq, true_and] at e9
                      obtain ⟨rfl, rfl⟩ := e9
                      obtain ⟨gV, offV, rfl, hcV⟩ := hV9 qq _ HX.out
                      have HAr : Hid (AlD w wy p a5 (.slice ad7 r cap7) ys (cut20 (bss2.take r)) (.slice (some ⟨gV, offV, none⟩) nA capA) vsA) := hAr
                      have HBr : Hid (BX wy (.slice adX nx capX) nx) := hBr
                      clear hAr hBr hV9
                      by_cases hrn : rr < nx
                      · have hrn' : (rr : Int) < nx := by omega
                        obtain ⟨gX, cX, arr, fz, z, eX, hcX, hgX, hcell, hfrz⟩ := HBr.out.cell hrn
                        simp only [Value.slice.injEq, true_and] at eX
                        obtain ⟨rfl, rfl⟩ := eX
                        have hgf : w.heap.size ≤ gX := HFX.out gX rfl
                        have HgX : Hid (wy.heap[gX]? = some (.cells arr 5 fz)) := hgX
                        clear hgX
                        go_wp2_with fail
                        go_roundw
                        case rel => exact ⟨rr + 1, by omega, by go_num, HAr.out.put HgX.out hgf _, HBr.out.put HgX.out _⟩
                        case measure => simp [intOf]; omega
                      · obtain rfl : rr = nx := by omega
                        go_wp2_with fail
                        go_roundw
                        case rel => exact ⟨qq + 1, by omega, by go_num, HAr.out⟩
                        case measure => simp [intOf]; omega
                  · obtain rfl : qq = nA := by omega
                    go_wp2_with fail
                    go_roundw
                    case rel => exact ⟨k + 1, by omega, by omega, by go_num, p, a5, ys, (cut20 (bss2.take r)), rfl, by have := LC.out; omega, HAq.out.pl⟩
                    case measure => simp [intOf]; omega
              · have hrn' : ¬ (r : Int) < n2 := by omega
                have hxl : (cut20 (bss2.take r)).length ≤ 1000 := by rw [LC.out]; omega
                have hLx := LsB.ofOwn HO.out (HU.out.moves HPr.out.mvd)
                have hap : ∀ j, (Value.slice adx r capx).ownBlock = some j → j ≠ p := fun j hj e => by
                  obtain ⟨cur, hcur⟩ := HO.out.block hj
                  exact HPr.out.dk.apart hcur (by decide) (by decide) (by rw [e]; simp)
                have hR := dkReplace_w wy p a _ (.slice adx r capx) (cut20 (bss2.take r)) HPr.out.dk hLx (fun ad n cap g off e1 e2 => by
                  simp only [Value.slice.injEq] at e1
                  exact hap g (HBx.out g off (by rw [e1.1]; exact e2))) hxl
                have Hxl : Hid ((cut20 (bss2.take r)).length ≤ 1000) := hxl
                clear hLx hxl
                go_wp2_with fail
                refine hR.mono ?_
                rintro _ w5 ⟨rfl, a5, hD5, m5, hf5⟩
                have M5 : Moves [] w w5 := HPr.out.mvd.trans m5 (fun x hx => .inr (by simp at hx; subst hx; exact HPr.out.fp _ (by simp)))
                have hO5 := HO.out.moves m5 (fun j hj => by simpa using hap j hj)
                have mE : Moves [] w5 (w5.alloc (.cells #[] 30)) := (Moves.refl _ _).alloc _
                have hE := bb_empty w5
                have hfE : Fresh w5 (.slice (some ⟨w5.heap.size, 0, none⟩) 0 0) := fun j hj => by simp [Value.ownBlock] at hj; omega
                obtain ⟨adz, capz, ez, -, -, hVz, -⟩ := (hO5.moves mE (by simp)).at
                rw [HLY.out] at ez
                simp only [Value.slice.injEq, true_and] at ez
                obtain ⟨rfl, rfl⟩ := ez
                have HD5 : Hid (DkIs w5 p a5 ((cut20 (bss2.take r)).map strOf)) := hD5
                clear hR hD5 hO5
                go_wp2_with (at_builtin; refine bbs_append (.tmp 97) (.tmp 98) rfl (.slice (some ⟨w5.heap.size, 0, none⟩) 0 0) _ _ _ [] ys rfl rfl rfl hE hVz HLY.out.symm hnx HU1.out (by have := HLY.out; simp; omega) ?_)
                intro v7 w7 hO7 m7 l7
                obtain ⟨M7, hf7⟩ := appended mE hfE m7 l7
                have hO7 : OwnBB w7 v7 ys := hO7
                obtain ⟨ad7, cap7, e7, -, -, -, -⟩ := hO7.at
                rw [HLY.out] at e7
                subst e7
                have hPA : PlD w w7 p a5 (.slice ad7 r cap7) ys (cut20 (bss2.take r)) := by
                  refine ⟨HD5.out.moves M7 (by simp), hO7, HU.out, cut20_len _, M5.then M7, fun j hj => ?_, fun j hj => Nat.le_trans M5.size (hf7 j hj)⟩
                  rcases List.mem_cons.1 hj with rfl | hj
                  · exact HPr.out.fp _ (by simp)
                  · exact Nat.le_trans HPr.out.mvd.size (hf5 j (Option.mem_toList.1 hj))
                have hn45 : r ≤ k + 1 + 5 := by omega
                clear hE hfE hVz hO7 m7 l7 HD5
                have hSm := same14_w w7 p a5 (.slice ad7 r cap7) (cut20 (bss2.take r)) hPA.dk (LsB.ofOwn hPA.own (hPA.bs.moves hPA.mvd)) (by have := LC.out; omega) hPA.short
                have HPA : Hid (PlD w w7 p a5 (.slice ad7 r cap7) ys (cut20 (bss2.take r))) := hPA
                clear hPA
                go_wp2_with fail
                refine hSm.mono ?_
                rintro _ wt ⟨rfl, mt⟩
                have hPB := HPA.out.moves mt
                have hAl := dkAll_w wt p a5 _ hPB.dk (by rw [List.length_map]; have := LC.out; omega)
                have HPB : Hid (PlD w wt p a5 (.slice ad7 r cap7) ys (cut20 (bss2.take r))) := hPB
                clear hPB hSm
                go_wp2_with fail
                refine hAl.mono ?_
                rintro _ wu ⟨vA, vsA, rfl, hOA, hRA, mu, fA⟩
                have hAD : AlD w wu p a5 (.slice ad7 r cap7) ys (cut20 (bss2.take r)) vA vsA := by
                  refine ⟨HPB.out.moves mu, hOA, fun x hx => ?_⟩
                  obtain ⟨j, hj⟩ := List.getElem?_of_mem hx
                  obtain ⟨bb, hbb, q1, q2⟩ := All2.get2 hRA hj
                  refine ⟨⟨_, ?_, q1.bx⟩, fun j hj => Nat.le_trans HPB.out.mvd.size (q2 j hj)⟩
                  have hm := List.mem_of_getElem? hbb
                  simp only [List.mem_map] at hm
                  obtain ⟨_, ⟨s, hs, rfl⟩, rfl⟩ := hm
                  rw [zbs_length, strOf_size]
                  exact HPB.out.short s hs
                obtain ⟨adA, capA, rfl, hcA, hnA, -, -⟩ := hOA.at
                obtain ⟨nA, HnA⟩ : ∃ nA, vsA.length = nA := ⟨_, rfl⟩
                rw [HnA] at hAD hcA ⊢
                have HNA : Hid (vsA.length = nA) := HnA
                have hnA1000 : nA ≤ 1000 := by
                  have e1 := hRA.length
                  rw [List.length_map, List.length_map, HnA] at e1
                  have := LC.out
                  omega
                clear hOA hRA mu fA HnA hAl
                go_wp2_with fail
                go_loopw [12] (fun i wr => ∃ qq : Nat, qq ≤ nA ∧ i = .int .i64 qq ∧ AlD w wr p a5 (.slice ad7 r cap7) ys (cut20 (bss2.take r)) (.slice adA nA capA) vsA) (fun i _ => nA - (intOf i).toNat)
                case atStart => exact ⟨0, Nat.zero_le _, rfl, hAD⟩
                case round =>
                  obtain ⟨qq, hq, rfl, hAq⟩ := hrel
                  obtain ⟨wv, hwv⟩ : ∃ wv, wv = wr := ⟨_, rfl⟩
                  subst hwv
                  have HAq : Hid (AlD w wv p a5 (.slice ad7 r cap7) ys (cut20 (bss2.take r)) (.slice adA nA capA) vsA) := hAq
                  clear hAq
                  by_cases hqn : qq < nA
                  · have hqn' : (qq : Int) < nA := by omega
                    obtain ⟨x, hx⟩ : ∃ x, vsA[qq]? = some x := ⟨_, List.getElem?_eq_getElem (by have := HNA.out; omega)⟩
                    obtain ⟨⟨nx, hnx, hBX⟩, hFx⟩ := HAq.out.rows x (List.mem_of_getElem? hx)
                    obtain ⟨adX, capX, rfl, -⟩ := hBX.shape
                    have HFX : Hid (Fresh w (.slice adX nx capX)) := hFx
                    have HX : Hid (vsA[qq]? = some (.slice adX nx capX)) := hx
                    clear hx hBX hFx
                    go_wp2_with fail
                    go_loopw [13] (fun i wr => ∃ rr : Nat, rr ≤ nx ∧ i = .int .i64 rr ∧ AlD w wr p a5 (.slice ad7 r cap7) ys (cut20 (bss2.take r)) (.slice adA nA capA) vsA ∧ BX wr (.slice adX nx capX) nx) (fun i _ => nx - (intOf i).toNat)
                    case atStart => exact ⟨0, Nat.zero_le _, rfl, HAq.out, by
                      obtain ⟨⟨n', _, hB'⟩, _⟩ := HAq.out.rows _ (List.mem_of_getElem? HX.out)
                      obtain ⟨_, _, e, _⟩ := hB'.shape
                      simp at e
                      have e2 : n' = nx := e.2.1.symm
                      subst e2
                      exact hB'⟩
                    case round =>
                      obtain ⟨rr, hr, rfl, hAr, hBr⟩ := hrel
                      obtain ⟨wy, hwy⟩ : ∃ wy, wy = wr := ⟨_, rfl⟩
                      subst hwy
                      obtain ⟨ad9, cap9, e9, _, _, hV9, _⟩ := hAr.own.at
                      rw [HNA.out] at e9
                      simp only [Value.slice.injEq, true_and] at e9
                      obtain ⟨rfl, rfl⟩ := e9
                      obtain ⟨gV, offV, rfl, hcV⟩ := hV9 qq _ HX.out
                      have HAr : Hid (AlD w wy p a5 (.slice ad7 r cap7) ys (cut20 (bss2.take r)) (.slice (some ⟨gV, offV, none⟩) nA capA) vsA) := hAr
                      have HBr : Hid (BX wy (.slice adX nx capX) nx) := hBr
                      clear hAr hBr hV9
                      by_cases hrn : rr < nx
                      · have hrn' : (rr : Int) < nx := by omega
                        obtain ⟨gX, cX, arr, fz, z, eX, hcX, hgX, hcell, hfrz⟩ := HBr.out.cell hrn
                        simp only [Value.slice.injEq, true_and] at eX
                        obtain ⟨rfl, rfl⟩ := eX
                        have hgf : w.heap.size ≤ gX := HFX.out gX rfl
                        have HgX : Hid (wy.heap[gX]? = some (.cells arr 5 fz)) := hgX
                        clear hgX
                        go_wp2_with fail
                        go_roundw
                        case rel => exact ⟨rr + 1, by omega, by go_num, HAr.out.put HgX.out hgf _, HBr.out.put HgX.out _⟩
                        case measure => simp [intOf]; omega
                      · obtain rfl : rr = nx := by omega
                        go_wp2_with fail
                        go_roundw
                        case rel => exact ⟨qq + 1, by omega, by go_num, HAr.out⟩
                        case measure => simp [intOf]; omega
                  · obtain rfl : qq = nA := by omega
                    go_wp2_with fail
                    go_roundw
                    case rel => exact ⟨k + 1, by omega, by omega, by go_num, p, a5, ys, (cut20 (bss2.take r)), rfl, by have := LC.out; omega, HAq.out.pl⟩
                    case measure => simp [intOf]; omega
        · by_cases hk3 : z0 = 3
          · subst hk3
            have hC := dkCopy_w wo p a _ HP.out.dk (by rw [List.length_map, HB4.out]; omega)
            go_wp2_with fail
            refine hC.mono ?_
            rintro _ w2 ⟨pq, a3, rfl, hC2, m2, hfq⟩
            obtain ⟨w3, hrun3, hB3, m3⟩ := conv_new w2 [103, 111, 110, 101]
            have hrun3 : (convert 30 30 (.slice (some ⟨w2.heap.size, 0, none⟩) 4 4)).run Try.prog (w2.alloc (.cells #[.int .u8 103, .int .u8 111, .int .u8 110, .int .u8 101] 5)) = .ok (.slice (some ⟨w2.heap.size, 0, none⟩) 4 4) w3 := hrun3
            have hB3 : IsB w3 w2.heap.size (.slice (some ⟨w2.heap.size, 0, none⟩) 4 4) [103, 111, 110, 101] := hB3
            have hD3 := (HP.out.dk.moves m2 (by simp)).moves m3 (by simp)
            have hA := dkAppend_w w3 p a _ _ _ [103, 111, 110, 101] hD3 hB3 (by simp) (by rw [List.length_map, HB4.out]; omega)
            have HC2 : Hid (DkIs w2 pq a3 (bss.map strOf)) := hC2
            clear hC2 hB3 hC
            go_wp2_with fail
            refine hA.mono ?_
            rintro _ w4 ⟨rfl, a4, hTo⟩
            have hPA : PlD w w4 pq a3 (.slice ad4 n4 cap4) us bss := by
              obtain ⟨M4, -⟩ := hTo.fresh ((HP.out.mvd.then m2).then m3) HP.out.fp
              refine ⟨(HC2.out.moves m3 (by simp)).moves hTo.2.1 (fun j hj hj2 => ?_), ((HP.out.own.moves m2 (by simp)).moves m3 (by simp)).moves hTo.2.1 (fun j hj => ?_), HP.out.bs, HP.out.short, M4, fun j hj => Nat.le_trans HP.out.mvd.size (hfq j hj), HP.out.fm⟩
              · have h1 := hfq j hj
                have h2 := HP.out.dk.lt j hj2
                omega
              · obtain ⟨cur, hcur⟩ := ((HP.out.own.moves m2 (by simp)).moves m3 (by simp)).block hj
                exact hD3.apart hcur (by decide) (by decide)
            have hn45 : n4 ≤ k + 1 + 5 := by omega
            clear hTo hA hD3 HC2
            have hSm := same14_w w4 pq a3 (.slice ad4 n4 cap4) bss hPA.dk (LsB.ofOwn hPA.own (hPA.bs.moves hPA.mvd)) (by have := HB4.out; omega) hPA.short
            have HPA : Hid (PlD w w4 pq a3 (.slice ad4 n4 cap4) us bss) := hPA
            clear hPA
            go_wp2_with fail
            refine hSm.mono ?_
            rintro _ wt ⟨rfl, mt⟩
            have hPB := HPA.out.moves mt
            have hAl := dkAll_w wt pq a3 _ hPB.dk (by rw [List.length_map]; have := HB4.out; omega)
            have HPB : Hid (PlD w wt pq a3 (.slice ad4 n4 cap4) us bss) := hPB
            clear hPB hSm
            go_wp2_with fail
            refine hAl.mono ?_
            rintro _ wu ⟨vA, vsA, rfl, hOA, hRA, mu, fA⟩
            have hAD : AlD w wu pq a3 (.slice ad4 n4 cap4) us bss vA vsA := by
              refine ⟨HPB.out.moves mu, hOA, fun x hx => ?_⟩
              obtain ⟨j, hj⟩ := List.getElem?_of_mem hx
              obtain ⟨bb, hbb, q1, q2⟩ := All2.get2 hRA hj
              refine ⟨⟨_, ?_, q1.bx⟩, fun j hj => Nat.le_trans HPB.out.mvd.size (q2 j hj)⟩
              have hm := List.mem_of_getElem? hbb
              simp only [List.mem_map] at hm
              obtain ⟨_, ⟨s, hs, rfl⟩, rfl⟩ := hm
              rw [zbs_length, strOf_size]
              exact HPB.out.short s hs
            obtain ⟨adA, capA, rfl, hcA, hnA, -, -⟩ := hOA.at
            obtain ⟨nA, HnA⟩ : ∃ nA, vsA.length = nA := ⟨_, rfl⟩
            rw [HnA] at hAD hcA ⊢
            have HNA : Hid (vsA.length = nA) := HnA
            have hnA1000 : nA ≤ 1000 := by
              have e1 := hRA.length
              rw [List.length_map, List.length_map, HnA] at e1
              have := HB4.out
              omega
            clear hOA hRA mu fA HnA hAl
            go_wp2_with fail
            go_loopw [12] (fun i wr => ∃ qq : Nat, qq ≤ nA ∧ i = .int .i64 qq ∧ AlD w wr pq a3 (.slice ad4 n4 cap4) us bss (.slice adA nA capA) vsA) (fun i _ => nA - (intOf i).toNat)
            case atStart => exact ⟨0, Nat.zero_le _, rfl, hAD⟩
            case round =>
              obtain ⟨qq, hq, rfl, hAq⟩ := hrel
              obtain ⟨wv, hwv⟩ : ∃ wv, wv = wr := ⟨_, rfl⟩
              subst hwv
              have HAq : Hid (AlD w wv pq a3 (.slice ad4 n4 cap4) us bss (.slice adA nA capA) vsA) := hAq
              clear hAq
              by_cases hqn : qq < nA
              · have hqn' : (qq : Int) < nA := by omega
                obtain ⟨x, hx⟩ : ∃ x, vsA[qq]? = some x := ⟨_, List.getElem?_eq_getElem (by have := HNA.out; omega)⟩
                obtain ⟨⟨nx, hnx, hBX⟩, hFx⟩ := HAq.out.rows x (List.mem_of_getElem? hx)
                obtain ⟨adX, capX, rfl, -⟩ := hBX.shape
                have HFX : Hid (Fresh w (.slice adX nx capX)) := hFx
                have HX : Hid (vsA[qq]? = some (.slice adX nx capX)) := hx
                clear hx hBX hFx
                go_wp2_with fail
                go_loopw [13] (fun i wr => ∃ rr : Nat, rr ≤ nx ∧ i = .int .i64 rr ∧ AlD w wr pq a3 (.slice ad4 n4 cap4) us bss (.slice adA nA capA) vsA ∧ BX wr (.slice adX nx capX) nx) (fun i _ => nx - (intOf i).toNat)
                case atStart => exact ⟨0, Nat.zero_le _, rfl, HAq.out, by
                  obtain ⟨⟨n', _, hB'⟩, _⟩ := HAq.out.rows _ (List.mem_of_getElem? HX.out)
                  obtain ⟨_, _, e, _⟩ := hB'.shape
                  simp at e
                  have e2 : n' = nx := e.2.1.symm
                  subst e2
                  exact hB'⟩
                case round =>
                  obtain ⟨rr, hr, rfl, hAr, hBr⟩ := hrel
                  obtain ⟨wy, hwy⟩ : ∃ wy, wy = wr := ⟨_, rfl⟩
                  subst hwy
                  obtain ⟨ad9, cap9, e9, _, _, hV9, _⟩ := hAr.own.at
                  rw [HNA.out] at e9
                  simp only [Value.slice.injEq, true_and] at e9
                  obtain ⟨rfl, rfl⟩ := e9
                  obtain ⟨gV, offV, rfl, hcV⟩ := hV9 qq _ HX.out
                  have HAr : Hid (AlD w wy pq a3 (.slice ad4 n4 cap4) us bss (.slice (some ⟨gV, offV, none⟩) nA capA) vsA) := hAr
                  have HBr : Hid (BX wy (.slice adX nx capX) nx) := hBr
                  clear hAr hBr hV9
                  by_cases hrn : rr < nx
                  · have hrn' : (rr : Int) < nx := by omega
                    obtain ⟨gX, cX, arr, fz, z, eX, hcX, hgX, hcell, hfrz⟩ := HBr.out.cell hrn
                    simp only [Value.slice.injEq, true_and] at eX
                    obtain ⟨rfl, rfl⟩ := eX
                    have hgf : w.heap.size ≤ gX := HFX.out gX rfl
                    have HgX : Hid (wy.heap[gX]? = some (.cells arr 5 fz)) := hgX
                    clear hgX
                    go_wp2_with fail
                    go_roundw
                    case rel => exact ⟨rr + 1, by omega, by go_num, HAr.out.put HgX.out hgf _, HBr.out.put HgX.out _⟩
                    case measure => simp [intOf]; omega
                  · obtain rfl : rr = nx := by omega
                    go_wp2_with fail
                    go_roundw
                    case rel => exact ⟨qq + 1, by omega, by go_num, HAr.out⟩
                    case measure => simp [intOf]; omega
              · obtain rfl : qq = nA := by omega
                go_wp2_with fail
                go_roundw
                case rel => exact ⟨k + 1, by omega, by omega, by go_num, pq, a3, us, bss, rfl, by have := HB4.out; omega, HAq.out.pl⟩
                case measure => simp [intOf]; omega
          · have hPA : PlD w wo p a (.slice ad4 n4 cap4) us bss := HP.out
            have hn45 : n4 ≤ k + 1 + 5 := by omega
            have hSm := same14_w wo p a (.slice ad4 n4 cap4) bss hPA.dk (LsB.ofOwn hPA.own (hPA.bs.moves hPA.mvd)) (by have := HB4.out; omega) hPA.short
            have HPA : Hid (PlD w wo p a (.slice ad4 n4 cap4) us bss) := hPA
            clear hPA
            go_wp2_with fail
            refine hSm.mono ?_
            rintro _ wt ⟨rfl, mt⟩
            have hPB := HPA.out.moves mt
            have hAl := dkAll_w wt p a _ hPB.dk (by rw [List.length_map]; have := HB4.out; omega)
            have HPB : Hid (PlD w wt p a (.slice ad4 n4 cap4) us bss) := hPB
            clear hPB hSm
            go_wp2_with fail
            refine hAl.mono ?_
            rintro _ wu ⟨vA, vsA, rfl, hOA, hRA, mu, fA⟩
            have hAD : AlD w wu p a (.slice ad4 n4 cap4) us bss vA vsA := by
              refine ⟨HPB.out.moves mu, hOA, fun x hx => ?_⟩
              obtain ⟨j, hj⟩ := List.getElem?_of_mem hx
              obtain ⟨bb, hbb, q1, q2⟩ := All2.get2 hRA hj
              refine ⟨⟨_, ?_, q1.bx⟩, fun j hj => Nat.le_trans HPB.out.mvd.size (q2 j hj)⟩
              have hm := List.mem_of_getElem? hbb
              simp only [List.mem_map] at hm
              obtain ⟨_, ⟨s, hs, rfl⟩, rfl⟩ := hm
              rw [zbs_length, strOf_size]
              exact HPB.out.short s hs
            obtain ⟨adA, capA, rfl, hcA, hnA, -, -⟩ := hOA.at
            obtain ⟨nA, HnA⟩ : ∃ nA, vsA.length = nA := ⟨_, rfl⟩
            rw [HnA] at hAD hcA ⊢
            have HNA : Hid (vsA.length = nA) := HnA
            have hnA1000 : nA ≤ 1000 := by
              have e1 := hRA.length
              rw [List.length_map, List.length_map, HnA] at e1
              have := HB4.out
              omega
            clear hOA hRA mu fA HnA hAl
            go_wp2_with fail
            go_loopw [12] (fun i wr => ∃ qq : Nat, qq ≤ nA ∧ i = .int .i64 qq ∧ AlD w wr p a (.slice ad4 n4 cap4) us bss (.slice adA nA capA) vsA) (fun i _ => nA - (intOf i).toNat)
            case atStart => exact ⟨0, Nat.zero_le _, rfl, hAD⟩
            case round =>
              obtain ⟨qq, hq, rfl, hAq⟩ := hrel
              obtain ⟨wv, hwv⟩ : ∃ wv, wv = wr := ⟨_, rfl⟩
              subst hwv
              have HAq : Hid (AlD w wv p a (.slice ad4 n4 cap4) us bss (.slice adA nA capA) vsA) := hAq
              clear hAq
              by_cases hqn : qq < nA
              · have hqn' : (qq : Int) < nA := by omega
                obtain ⟨x, hx⟩ : ∃ x, vsA[qq]? = some x := ⟨_, List.getElem?_eq_getElem (by have := HNA.out; omega)⟩
                obtain ⟨⟨nx, hnx, hBX⟩, hFx⟩ := HAq.out.rows x (List.mem_of_getElem? hx)
                obtain ⟨adX, capX, rfl, -⟩ := hBX.shape
                have HFX : Hid (Fresh w (.slice adX nx capX)) := hFx
                have HX : Hid (vsA[qq]? = some (.slice adX nx capX)) := hx
                clear hx hBX hFx
                go_wp2_with fail
                go_loopw [13] (fun i wr => ∃ rr : Nat, rr ≤ nx ∧ i = .int .i64 rr ∧ AlD w wr p a (.slice ad4 n4 cap4) us bss (.slice adA nA capA) vsA ∧ BX wr (.slice adX nx capX) nx) (fun i _ => nx - (intOf i).toNat)
                case atStart => exact ⟨0, Nat.zero_le _, rfl, HAq.out, by
                  obtain ⟨⟨n', _, hB'⟩, _⟩ := HAq.out.rows _ (List.mem_of_getElem? HX.out)
                  obtain ⟨_, _, e, _⟩ := hB'.shape
                  simp at e
                  have e2 : n' = nx := e.2.1.symm
                  subst e2
                  exact hB'⟩
                case round =>
                  obtain ⟨rr, hr, rfl, hAr, hBr⟩ := hrel
                  obtain ⟨wy, hwy⟩ : ∃ wy, wy = wr := ⟨_, rfl⟩
                  subst hwy
                  obtain ⟨ad9, cap9, e9, _, _, hV9, _⟩ := hAr.own.at
                  rw [HNA.out] at e9
                  simp only [Value.slice.injEq, true_and] at e9
                  obtain ⟨rfl, rfl⟩ := e9
                  obtain ⟨gV, offV, rfl, hcV⟩ := hV9 qq _ HX.out
                  have HAr : Hid (AlD w wy p a (.slice ad4 n4 cap4) us bss (.slice (some ⟨gV, offV, none⟩) nA capA) vsA) := hAr
                  have HBr : Hid (BX wy (.slice adX nx capX) nx) := hBr
                  clear hAr hBr hV9
                  by_cases hrn : rr < nx
                  · have hrn' : (rr : Int) < nx := by omega
                    obtain ⟨gX, cX, arr, fz, z, eX, hcX, hgX, hcell, hfrz⟩ := HBr.out.cell hrn
                    simp only [Value.slice.injEq, true_and] at eX
                    obtain ⟨rfl, rfl⟩ := eX
                    have hgf : w.heap.size ≤ gX := HFX.out gX rfl
                    have HgX : Hid (wy.heap[gX]? = some (.cells arr 5 fz)) := hgX
                    clear hgX
                    go_wp2_with fail
                    go_roundw
                    case rel => exact ⟨rr + 1, by omega, by go_num, HAr.out.put HgX.out hgf _, HBr.out.put HgX.out _⟩
                    case measure => simp [intOf]; omega
                  · obtain rfl : rr = nx := by omega
                    go_wp2_with fail
                    go_roundw
                    case rel => exact ⟨qq + 1, by omega, by go_num, HAr.out⟩
                    case measure => simp [intOf]; omega
              · obtain rfl : qq = nA := by omega
                go_wp2_with fail
                go_roundw
                case rel => exact ⟨k + 1, by omega, by omega, by go_num, p, a, us, bss, rfl, by have := HB4.out; omega, HAq.out.pl⟩
                case measure => simp [intOf]; omega
    · by_cases hlt : k < n
      · have hlt' : (k : Int) < n := by omega
        have h40' : ¬ (k : Int) < 40 := by omega
        go_wp2_with fail
        refine (known14_w wo).mono ?_
        rintro _ w8 ⟨rfl, m8⟩
        go_wp2_with fail
        go_ret
        exact ⟨rfl, HP.out.mvd.then m8⟩
      · have hlt' : ¬ (k : Int) < n := by omega
        go_wp2_with fail
        refine (known14_w wo).mono ?_
        rintro _ w8 ⟨rfl, m8⟩
        go_wp2_with fail
        go_ret
        exact ⟨rfl, HP.out.mvd.then m8⟩
end Go.Proofs.Ytedehhnhmkeglaa
