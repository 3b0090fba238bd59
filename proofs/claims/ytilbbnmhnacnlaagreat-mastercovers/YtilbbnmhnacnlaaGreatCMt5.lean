/- ours -/
import Derived.Test.YtilbbnmhnacnlaaGreatCMt4
import Derived.Lib.Bytealg
namespace Go.Proofs.YtilbbnmhnacnlaaGreat
open Go.RowKit

def tcmp (a b : ByteArray) : Int := Lib.compareBytes a.data.toList b.data.toList
theorem tcmpB_lt : ∀ a b : List UInt8, (Lib.compareBytes a b < 0) ↔ Op.bytesLess a b = true
  | [], [] => by simp [Lib.compareBytes, Op.bytesLess]
  | [], _ :: _ => by simp [Lib.compareBytes, Op.bytesLess]
  | _ :: _, [] => by simp [Lib.compareBytes, Op.bytesLess]
  | a :: s, b :: t => by
    have ih := tcmpB_lt s t
    unfold Lib.compareBytes Op.bytesLess
    by_cases h1 : a < b
    · simp [h1]
    · by_cases h2 : b < a
      · have h3 : (a == b) = false := by
          simp only [beq_eq_false_iff_ne, ne_eq]
          intro e; subst e; exact h1 h2
        simp [h1, h2, h3]
      · have h3 : a = b := by
          have e1 : a ≤ b := UInt8.not_lt.1 h2
          have e2 : b ≤ a := UInt8.not_lt.1 h1
          exact UInt8.le_antisymm e1 e2
        subst h3
        simp [h1, ih]
theorem tcmpB_eq : ∀ a b : List UInt8, (Lib.compareBytes a b = 0) ↔ a = b
  | [], [] => by simp [Lib.compareBytes]
  | [], _ :: _ => by simp [Lib.compareBytes]
  | _ :: _, [] => by simp [Lib.compareBytes]
  | a :: s, b :: t => by
    have ih := tcmpB_eq s t
    unfold Lib.compareBytes
    by_cases h1 : a < b
    · have : a ≠ b := by intro e; subst e; exact UInt8.lt_irrefl _ h1
      simp [h1, this]
    · by_cases h2 : b < a
      · have : a ≠ b := by intro e; subst e; exact UInt8.lt_irrefl _ h2
        simp [h1, h2, this]
      · have h3 : a = b := UInt8.le_antisymm (UInt8.not_lt.1 h2) (UInt8.not_lt.1 h1)
        subst h3
        simp [h1, ih]
theorem tcmp_lt (a b : ByteArray) : decide (tcmp a b < 0) = zlt a b := by
  unfold tcmp zlt
  rw [ByteArray.toList_eq, ByteArray.toList_eq]
  cases h : Op.bytesLess a.data.toList b.data.toList with
  | true => exact decide_eq_true ((tcmpB_lt _ _).2 h)
  | false => exact decide_eq_false (fun e => by rw [(tcmpB_lt _ _).1 e] at h; simp at h)
theorem tcmp_eq (a b : ByteArray) : (tcmp a b == 0) = zeq a b := by
  unfold tcmp zeq
  rw [ByteArray.toList_eq, ByteArray.toList_eq]
  cases h : (a.data.toList == b.data.toList) with
  | true => rw [beq_iff_eq] at h; rw [beq_iff_eq]; exact (tcmpB_eq _ _).2 h
  | false =>
    rw [beq_eq_false_iff_ne] at h ⊢
    exact fun e => h ((tcmpB_eq _ _).1 e)

def RiseZ (ks : List ByteArray) : Prop := ks.Pairwise (fun a b => zlt a b = true)
theorem RiseZ.lt {ks : List ByteArray} (h : RiseZ ks) {j k : Nat} {x y : ByteArray} (hx : ks[j]? = some x) (hy : ks[k]? = some y) (hjk : j < k) : zlt x y = true := by
  obtain ⟨h1, rfl⟩ := List.getElem?_eq_some_iff.1 hx
  obtain ⟨h2, rfl⟩ := List.getElem?_eq_some_iff.1 hy
  exact List.pairwise_iff_getElem.1 h j k h1 h2 hjk
structure PlaceZ (ks : List ByteArray) (s : ByteArray) (i : Nat) : Prop where
  le : i ≤ ks.length
  lo : ∀ k x, ks[k]? = some x → k < i → zlt x s = true
  hi : ∀ k x, ks[k]? = some x → i ≤ k → zlt x s = false
def hasZ (ks : List ByteArray) (s : ByteArray) (i : Nat) : Bool := match ks[i]? with
  | some x => zeq x s
  | none => false
structure LastZ (ks : List ByteArray) (s : ByteArray) (j : Nat) : Prop where
  lt : j < ks.length
  lo : ∀ k x, ks[k]? = some x → k ≤ j → zlt s x = false
  hi : ∀ k x, ks[k]? = some x → j < k → zlt s x = true
theorem LastZ.one {ks : List ByteArray} {s : ByteArray} {i j : Nat} (h1 : LastZ ks s i) (h2 : LastZ ks s j) : i = j := by
  rcases Nat.lt_trichotomy i j with h | h | h
  · have e := h1.hi j _ (List.getElem?_eq_getElem h2.lt) h
    have e2 := h2.lo j _ (List.getElem?_eq_getElem h2.lt) (Nat.le_refl _)
    rw [e] at e2; simp at e2
  · exact h
  · have e := h2.hi i _ (List.getElem?_eq_getElem h1.lt) h
    have e2 := h1.lo i _ (List.getElem?_eq_getElem h1.lt) (Nat.le_refl _)
    rw [e] at e2; simp at e2
theorem PlaceZ.last {ks : List ByteArray} {s x0 : ByteArray} {i : Nat} (h : PlaceZ ks s i) (hr : RiseZ ks) (h0 : ks[0]? = some x0) (hs : zlt s x0 = false) :
    (hasZ ks s i = true → LastZ ks s i) ∧ (hasZ ks s i = false → 0 < i ∧ LastZ ks s (i - 1)) := by
  have low : ∀ k x, ks[k]? = some x → k < i → zlt s x = false := fun k x hx hk => zlt_asymm (h.lo k x hx hk)
  constructor
  · intro hh
    unfold hasZ at hh
    split at hh
    · rename_i x hx
      have e := zeq_iff.1 hh
      subst e
      refine ⟨(List.getElem?_eq_some_iff.1 hx).1, fun k y hy hk => ?_, fun k y hy hk => hr.lt hx hy hk⟩
      by_cases hki : k < i
      · exact low k y hy hki
      · obtain rfl : k = i := by omega
        rw [hx] at hy; simp at hy; subst hy; exact zlt_self _
    · simp at hh
  · intro hh
    have hup : ∀ k y, ks[k]? = some y → i ≤ k → zlt s y = true := by
      intro k y hy hk
      have a1 := h.hi k y hy hk
      cases hq : zlt s y with
      | true => rfl
      | false =>
        have e := zlt_total a1 hq
        subst e
        by_cases hki : k = i
        · subst hki
          unfold hasZ at hh
          rw [hy] at hh
          have hh' : zeq y y = false := hh
          rw [zeq_iff.2 rfl] at hh'
          simp at hh'
        · have hil : i < ks.length := by have := (List.getElem?_eq_some_iff.1 hy).1; omega
          have := hr.lt (List.getElem?_eq_getElem hil) hy (by omega)
          have b := h.hi i _ (List.getElem?_eq_getElem hil) (Nat.le_refl _)
          rw [this] at b; simp at b
    have hpos : 0 < i := by
      refine Nat.pos_of_ne_zero fun e => ?_
      subst e
      have := hup 0 x0 h0 (Nat.le_refl _)
      rw [hs] at this; simp at this
    refine ⟨hpos, ⟨by have := h.le; omega, fun k y hy hk => low k y hy (by omega), fun k y hy hk => hup k y hy (by omega)⟩⟩

theorem compareT_w (a b : ByteArray) (w1 : World) : Calls Tryz.prog 129 #[.string a, .string b] w1 fun e w' => e = .returned (.int .i64 (tcmp a b)) ∧ w1 = w' := by
  have hr : ∀ w1 : World, (callFunc 194 #[.string a, .string b]).run Tryz.prog w1 = .ok (.value (.int .i64 (tcmp a b))) w1 := by
    intro w1
    rw [run_callFunc_extern Tryz.func194 (by kernel_rfl) (by kernel_rfl) (by kernel_rfl) (e := Extern.BytealgCompare.compare) (by kernel_rfl), Lib.run_compareString]
    rfl
  go_enter Tryz.func129, Tryz.ntmps129
  go_wp2
  go_ret
  exact ⟨rfl, rfl⟩

set_option maxRecDepth 100000 in
theorem mtLo_w (x : Ptb) (w : World) : Calls Tryz.prog 101 #[.agg #[.string x.lo, .string x.hi, .int .i64 x.g, .int .i64 x.n]] w fun e w' => e = .returned (.string x.lo) ∧ Moves [] w w' := by
  go_enter Tryz.func101, Tryz.ntmps101
  go_wp2_with fail
  go_ret
  exact ⟨rfl, (Moves.refl _ _).alloc _⟩
def mLo (m : List Ptb) : ByteArray := (m.headD Ptb.zero).lo
set_option maxRecDepth 100000 in
theorem mtFirst_w (w : World) (g : Nat) (v : Value) (m : List Ptb) (h : TbL w g v m) (hne : m ≠ []) : Calls Tryz.prog 126 #[v] w fun e w' => e = .returned (.string (mLo m)) ∧ Moves [] w w' := by
  obtain ⟨ad, n, cap, rfl, hn, hc, HL⟩ := h.open
  cases m with
  | nil => exact absurd rfl hne
  | cons x t =>
    obtain ⟨off, rfl, y0, y1, y2, y3⟩ := HL.out.at (k := 0) (x := x) rfl
    simp only [Nat.zero_mul, Nat.add_zero] at y0 y1 y2 y3
    have hn0 : (0 : Int) < n := by have := hn.out; simp at this; omega
    show Calls _ _ _ _ fun e w' => e = .returned (.string x.lo) ∧ _
    clear h
    go_enter Tryz.func126, Tryz.ntmps126
    go_wp2_with fail
    refine (mtLo_w x _).mono ?_
    rintro _ w2 ⟨rfl, m2⟩
    go_wp2_with fail
    go_ret
    exact ⟨rfl, m2⟩

set_option maxRecDepth 100000 in
theorem mtKey_w (x : Ptb) (s : ByteArray) (q : Nat) (w : World) (hq : w.cell? ⟨q, 0, none⟩ = some (.func (.func 101) #[] #[])) : Calls Tryz.prog 128 #[.agg #[.string x.lo, .string x.hi, .int .i64 x.g, .int .i64 x.n], .string s, .pointer (some ⟨q, 0, none⟩)] w fun e w' => e = .returned (.int .i64 (tcmp x.lo s)) ∧ Moves [] w w' := by
  have hcf : ∀ (args : Array Value) (w : World), (callFunc 101 args).run Tryz.prog w = .ok (.enter 101 args) w := fun _ _ => rfl
  have mA : Moves [] w (w.alloc (.cells #[.string x.lo, .string x.hi, .int .i64 x.g, .int .i64 x.n] 54)) := (Moves.refl _ _).alloc _
  have hq2 := mA.cell hq
  go_enter Tryz.func128, Tryz.ntmps128
  go_wp2_with fail
  refine (mtLo_w x _).mono ?_
  rintro _ w2 ⟨rfl, m2⟩
  go_wp2_with fail
  refine (compareT_w _ _ _).mono ?_
  rintro _ _ ⟨rfl, rfl⟩
  go_wp2_with fail
  go_ret
  exact ⟨rfl, mA.then m2⟩
set_option maxRecDepth 100000 in
theorem mtKeyM_w (g : Nat) (v : Value) (m : List Ptb) (hne : m ≠ []) (s : ByteArray) (q : Nat) (w : World) (h : TbL w g v m) (hq : w.cell? ⟨q, 0, none⟩ = some (.func (.func 126) #[] #[])) : Calls Tryz.prog 163 #[v, .string s, .pointer (some ⟨q, 0, none⟩)] w fun e w' => e = .returned (.int .i64 (tcmp (mLo m) s)) ∧ Moves [] w w' := by
  have hcf : ∀ (args : Array Value) (w : World), (callFunc 126 args).run Tryz.prog w = .ok (.enter 126 args) w := fun _ _ => rfl
  have hfi := mtFirst_w w g v m h hne
  obtain ⟨ad, n, cap, rfl, hn, hc, HL⟩ := h.open
  clear h
  go_enter Tryz.func163, Tryz.ntmps163
  go_wp2_with fail
  refine hfi.mono ?_
  rintro _ w2 ⟨rfl, m2⟩
  go_wp2_with fail
  refine (compareT_w _ _ _).mono ?_
  rintro _ _ ⟨rfl, rfl⟩
  go_wp2_with fail
  go_ret
  exact ⟨rfl, m2⟩

set_option maxRecDepth 100000 in
set_option maxHeartbeats 4000000 in
theorem mtSearch_w (W w : World) (g : Nat) (ad : Option Addr) (n cap : Nat) (xs : List Ptb) (s : ByteArray) (q : Nat) (h : TbL W g (.slice ad n cap) xs) (hn : n = xs.length) (m : Moves [] W w) (hq : W.cell? ⟨q, 0, none⟩ = some (.func (.func 101) #[] #[])) (hr : RiseZ (xs.map Ptb.lo)) (hl : n ≤ 1000) :
    Calls Tryz.prog 127 #[.slice ad n cap, .string s, .func (.func 128) #[] #[.pointer (some ⟨q, 0, none⟩)]] w fun e w' => ∃ i : Nat, e = .returned (.tuple #[.int .i64 (i : Int), .bool (hasZ (xs.map Ptb.lo) s i)]) ∧ PlaceZ (xs.map Ptb.lo) s i ∧ Moves [] w w' := by
  have HN : Hid (n = xs.length) := hn
  have HH : Hid (TbL W g (.slice ad n cap) xs) := h
  have HW : Hid (Moves [] W w) := m
  have kget : ∀ {k : Nat} {y : ByteArray}, (xs.map Ptb.lo)[k]? = some y → k < xs.length := by
    intro k y hy
    have := (List.getElem?_eq_some_iff.1 hy).1
    simpa using this
  have hcf : ∀ (args : Array Value) (w : World), (callFunc 128 args).run Tryz.prog w = .ok (.enter 128 args) w := fun _ _ => rfl
  clear hn h m
  go_enter Tryz.func127, Tryz.ntmps127
  go_wp2_with fail
  go_loopw [9, 10] (fun vi vj wr => ∃ (i j : Nat), i ≤ j ∧ j ≤ n ∧ vi = .int .i64 (i : Nat) ∧ vj = .int .i64 (j : Nat) ∧ Moves [] w wr ∧ Hid (∀ k x, (xs.map Ptb.lo)[k]? = some x → k < i → zlt x s = true) ∧ Hid (∀ k x, (xs.map Ptb.lo)[k]? = some x → j ≤ k → zlt x s = false)) (fun vi vj _ => (intOf vj - intOf vi).toNat)
  case atStart => exact ⟨0, n, Nat.zero_le _, Nat.le_refl _, rfl, rfl, Moves.refl _ _, fun k x _ hk => absurd hk (by omega), fun k x hx hk => by have := kget hx; have := HN.out; omega⟩
  case round =>
    obtain ⟨i, j, hij, hjn, rfl, rfl, mr, HLO, HHI⟩ := hrel
    have M1 : Moves [] W wr := HW.out.then mr
    by_cases hlt : i < j
    · have hk3 : (i : Int) < j := by omega
      obtain ⟨c, hc⟩ : ∃ c, c = (i + j) / 2 := ⟨_, rfl⟩
      have hqi : i ≤ c := by omega
      have hqj : c < j := by omega
      have hqn : (c : Int) < n := by omega
      have hmid : ((i : Int) + (j : Int)) / 2 = (c : Int) := by omega
      have hmid2 : ((i : Int) + (j : Int)) / 2 ^ 1 = (c : Int) := by omega
      obtain ⟨x, hx⟩ : ∃ x, xs[c]? = some x := ⟨_, List.getElem?_eq_getElem (by have := HN.out; omega)⟩
      obtain ⟨off, rfl, y0, y1, y2, y3⟩ := HH.out.at hx
      have z0 := M1.cell y0
      have z1 := M1.cell y1
      have z2 := M1.cell y2
      have z3 := M1.cell y3
      have HX : Hid ((xs.map Ptb.lo)[c]? = some x.lo) := by unfold Hid; rw [List.getElem?_map, hx]; rfl
      have hkc := (mtKey_w x s q _ (M1.cell hq))
      have hsl := tcmp_lt x.lo s
      obtain ⟨sc, hsc⟩ : ∃ sc, tcmp x.lo s = sc := ⟨_, rfl⟩
      rw [hsc] at hsl hkc
      have HSL : Hid (decide (sc < 0) = zlt x.lo s) := hsl
      clear hx y0 y1 y2 y3 hsc hsl hc
      by_cases hs : sc < 0
      · go_wp2_with fail
        refine hkc.mono ?_
        rintro _ w2 ⟨rfl, m2⟩
        go_wp2_with fail
        go_roundw
        case rel =>
          refine ⟨c + 1, j, by omega, hjn, by go_num, rfl, mr.then m2, fun k y hy hk => ?_, HHI.out⟩
          have hxs : zlt x.lo s = true := by rw [← HSL.out]; exact decide_eq_true hs
          by_cases e : k = c
          · subst e; rw [HX.out] at hy; simp at hy; subst hy; exact hxs
          · exact zlt_trans (hr.lt hy HX.out (by omega)) hxs
        case measure => simp [intOf]; omega
      · go_wp2_with fail
        refine hkc.mono ?_
        rintro _ w2 ⟨rfl, m2⟩
        go_wp2_with fail
        go_roundw
        case rel =>
          refine ⟨i, c, by omega, by omega, rfl, rfl, mr.then m2, HLO.out, fun k y hy hk => ?_⟩
          have hxs : zlt x.lo s = false := by rw [← HSL.out]; exact decide_eq_false (by omega)
          by_cases e : k = c
          · subst e; rw [HX.out] at hy; simp at hy; subst hy; exact hxs
          · have := hr.lt HX.out hy (by omega)
            exact zle_trans hxs (zlt_asymm this)
        case measure => simp [intOf]; omega
    · have hk3 : ¬ (i : Int) < j := by omega
      obtain rfl : i = j := by omega
      have HP : Hid (PlaceZ (xs.map Ptb.lo) s i) := ⟨by have := HN.out; simp; omega, HLO.out, HHI.out⟩
      by_cases hin : i < n
      · have hin3 : (i : Int) < n := by omega
        obtain ⟨x, hx⟩ : ∃ x, xs[i]? = some x := ⟨_, List.getElem?_eq_getElem (by have := HN.out; omega)⟩
        obtain ⟨off, rfl, y0, y1, y2, y3⟩ := HH.out.at hx
        have z0 := M1.cell y0
        have z1 := M1.cell y1
        have z2 := M1.cell y2
        have z3 := M1.cell y3
        have HA : Hid (hasZ (xs.map Ptb.lo) s i = (tcmp x.lo s == 0)) := by unfold Hid hasZ; rw [List.getElem?_map, hx, tcmp_eq]; rfl
        have hkc := (mtKey_w x s q _ (M1.cell hq))
        clear hx y0 y1 y2 y3
        go_wp2_with fail
        refine hkc.mono ?_
        rintro _ w2 ⟨rfl, m2⟩
        go_wp2_with fail
        go_ret2
        exact ⟨i, by rw [HA.out]; rfl, HP.out, mr.then m2⟩
      · have hin3 : ¬ (i : Int) < n := by omega
        have HA : Hid (hasZ (xs.map Ptb.lo) s i = false) := by unfold Hid hasZ; rw [List.getElem?_eq_none (by have := HN.out; simp; omega)]
        go_wp2_with fail
        go_ret2
        exact ⟨i, by rw [HA.out]; rfl, HP.out, mr⟩

set_option maxRecDepth 100000 in
set_option maxHeartbeats 1000000 in
theorem mtLast_w (w : World) (g : Nat) (ad : Option Addr) (n cap : Nat) (xs : List Ptb) (s x0 : ByteArray) (h : TbL w g (.slice ad n cap) xs) (hn : n = xs.length) (hr : RiseZ (xs.map Ptb.lo)) (hl : n ≤ 1000) (h0 : (xs.map Ptb.lo)[0]? = some x0) (hs : zlt s x0 = false) :
    Calls Tryz.prog 100 #[.slice ad n cap, .func (.func 101) #[] #[], .string s] w fun e w' => ∃ j : Nat, e = .returned (.int .i64 (j : Int)) ∧ LastZ (xs.map Ptb.lo) s j ∧ Moves [] w w' := by
  have mA : Moves [] w (w.alloc (.cells #[.func (.func 101) #[] #[]] 171)) := (Moves.refl _ _).alloc _
  have hS := mtSearch_w (w.alloc (.cells #[.func (.func 101) #[] #[]] 171)) (w.alloc (.cells #[.func (.func 101) #[] #[]] 171)) g ad n cap xs s w.heap.size (h.moves mA (by simp)) hn (Moves.refl _ _) (one_cell (heap_alloc_new w _)).1 hr hl
  have HR : Hid (RiseZ (xs.map Ptb.lo)) := hr
  have H0 : Hid ((xs.map Ptb.lo)[0]? = some x0) := h0
  have HS0 : Hid (zlt s x0 = false) := hs
  have hi3 : ∀ i, PlaceZ (xs.map Ptb.lo) s i → i ≤ 1000 := fun i hi => by have := hi.le; simp at this; omega
  clear h hn hr h0 hs
  go_enter Tryz.func100, Tryz.ntmps100
  go_wp2_with fail
  refine hS.mono ?_
  rintro _ w2 ⟨i, rfl, hP, m2⟩
  have hi1 := hi3 i hP
  obtain ⟨hy, hno⟩ := hP.last HR.out H0.out HS0.out
  cases hh : hasZ (xs.map Ptb.lo) s i with
  | true =>
    have HY : Hid (LastZ (xs.map Ptb.lo) s i) := hy hh
    clear hy hno hP
    go_wp2_with fail
    go_ret
    exact ⟨i, rfl, HY.out, mA.then m2⟩
  | false =>
    obtain ⟨hpos, hy2⟩ := hno hh
    have HY : Hid (LastZ (xs.map Ptb.lo) s (i - 1)) := hy2
    clear hy hno hP hy2
    go_wp2_with fail
    go_ret
    refine ⟨i - 1, ?_, HY.out, mA.then m2⟩
    have e : ((i - 1 : Nat) : Int) = (i : Int) - 1 := by omega
    rw [e]
    rfl

set_option maxRecDepth 100000 in
set_option maxHeartbeats 4000000 in
theorem mtSearchM_w (W w : World) (B : Nat) (ad : Option Addr) (n cap : Nat) (xs : List (List Ptb)) (s : ByteArray) (q : Nat) (h : MsAt B W (.slice ad n cap) xs) (hn : n = xs.length) (m : Moves [] W w) (hq : W.cell? ⟨q, 0, none⟩ = some (.func (.func 126) #[] #[])) (hr : RiseZ (xs.map mLo)) (hl : n ≤ 1000) (hne : ∀ m ∈ xs, m ≠ []) :
    Calls Tryz.prog 162 #[.slice ad n cap, .string s, .func (.func 163) #[] #[.pointer (some ⟨q, 0, none⟩)]] w fun e w' => ∃ i : Nat, e = .returned (.tuple #[.int .i64 (i : Int), .bool (hasZ (xs.map mLo) s i)]) ∧ PlaceZ (xs.map mLo) s i ∧ Moves [] w w' := by
  have HN : Hid (n = xs.length) := hn
  have HH : Hid (MsAt B W (.slice ad n cap) xs) := h
  have HW : Hid (Moves [] W w) := m
  have kget : ∀ {k : Nat} {y : ByteArray}, (xs.map mLo)[k]? = some y → k < xs.length := by
    intro k y hy
    have := (List.getElem?_eq_some_iff.1 hy).1
    simpa using this
  have hcf : ∀ (args : Array Value) (w : World), (callFunc 163 args).run Tryz.prog w = .ok (.enter 163 args) w := fun _ _ => rfl
  clear hn h m
  go_enter Tryz.func162, Tryz.ntmps162
  go_wp2_with fail
  go_loopw [9, 10] (fun vi vj wr => ∃ (i j : Nat), i ≤ j ∧ j ≤ n ∧ vi = .int .i64 (i : Nat) ∧ vj = .int .i64 (j : Nat) ∧ Moves [] w wr ∧ Hid (∀ k x, (xs.map mLo)[k]? = some x → k < i → zlt x s = true) ∧ Hid (∀ k x, (xs.map mLo)[k]? = some x → j ≤ k → zlt x s = false)) (fun vi vj _ => (intOf vj - intOf vi).toNat)
  case atStart => exact ⟨0, n, Nat.zero_le _, Nat.le_refl _, rfl, rfl, Moves.refl _ _, fun k x _ hk => absurd hk (by omega), fun k x hx hk => by have := kget hx; have := HN.out; omega⟩
  case round =>
    obtain ⟨i, j, hij, hjn, rfl, rfl, mr, HLO, HHI⟩ := hrel
    have M1 : Moves [] W wr := HW.out.then mr
    by_cases hlt : i < j
    · have hk3 : (i : Int) < j := by omega
      obtain ⟨c, hc⟩ : ∃ c, c = (i + j) / 2 := ⟨_, rfl⟩
      have hqi : i ≤ c := by omega
      have hqj : c < j := by omega
      have hqn : (c : Int) < n := by omega
      have hmid : ((i : Int) + (j : Int)) / 2 = (c : Int) := by omega
      have hmid2 : ((i : Int) + (j : Int)) / 2 ^ 1 = (c : Int) := by omega
      obtain ⟨x, hx⟩ : ∃ x, xs[c]? = some x := ⟨_, List.getElem?_eq_getElem (by have := HN.out; omega)⟩
      obtain ⟨g, off, u, gu, rfl, _, y0, hTu, _⟩ := HH.out.at hx
      have z0 := M1.cell y0
      have HTu : Hid (TbL wr gu u x) := hTu.moves M1 (by simp)
      have hxne : Hid (x ≠ []) := hne x (List.mem_of_getElem? hx)
      obtain ⟨adu, nu, capu, rfl, _, _, _⟩ := hTu.open
      have HX : Hid ((xs.map mLo)[c]? = some (mLo x)) := by unfold Hid; rw [List.getElem?_map, hx]; rfl
      have hkc := (mtKeyM_w gu _ x hxne.out s q _ HTu.out (M1.cell hq))
      have hsl := tcmp_lt (mLo x) s
      obtain ⟨sc, hsc⟩ : ∃ sc, tcmp (mLo x) s = sc := ⟨_, rfl⟩
      rw [hsc] at hsl hkc
      have HSL : Hid (decide (sc < 0) = zlt (mLo x) s) := hsl
      clear hx y0 hTu hsc hsl hc
      by_cases hs : sc < 0
      · go_wp2_with fail
        refine hkc.mono ?_
        rintro _ w2 ⟨rfl, m2⟩
        go_wp2_with fail
        go_roundw
        case rel =>
          refine ⟨c + 1, j, by omega, hjn, by go_num, rfl, mr.then m2, fun k y hy hk => ?_, HHI.out⟩
          have hxs : zlt (mLo x) s = true := by rw [← HSL.out]; exact decide_eq_true hs
          by_cases e : k = c
          · subst e; rw [HX.out] at hy; simp at hy; subst hy; exact hxs
          · exact zlt_trans (hr.lt hy HX.out (by omega)) hxs
        case measure => simp [intOf]; omega
      · go_wp2_with fail
        refine hkc.mono ?_
        rintro _ w2 ⟨rfl, m2⟩
        go_wp2_with fail
        go_roundw
        case rel =>
          refine ⟨i, c, by omega, by omega, rfl, rfl, mr.then m2, HLO.out, fun k y hy hk => ?_⟩
          have hxs : zlt (mLo x) s = false := by rw [← HSL.out]; exact decide_eq_false (by omega)
          by_cases e : k = c
          · subst e; rw [HX.out] at hy; simp at hy; subst hy; exact hxs
          · have := hr.lt HX.out hy (by omega)
            exact zle_trans hxs (zlt_asymm this)
        case measure => simp [intOf]; omega
    · have hk3 : ¬ (i : Int) < j := by omega
      obtain rfl : i = j := by omega
      have HP : Hid (PlaceZ (xs.map mLo) s i) := ⟨by have := HN.out; simp; omega, HLO.out, HHI.out⟩
      by_cases hin : i < n
      · have hin3 : (i : Int) < n := by omega
        obtain ⟨x, hx⟩ : ∃ x, xs[i]? = some x := ⟨_, List.getElem?_eq_getElem (by have := HN.out; omega)⟩
        obtain ⟨g, off, u, gu, rfl, _, y0, hTu, _⟩ := HH.out.at hx
        have z0 := M1.cell y0
        have HTu : Hid (TbL wr gu u x) := hTu.moves M1 (by simp)
        have hxne : Hid (x ≠ []) := hne x (List.mem_of_getElem? hx)
        obtain ⟨adu, nu, capu, rfl, _, _, _⟩ := hTu.open
        have HA : Hid (hasZ (xs.map mLo) s i = (tcmp (mLo x) s == 0)) := by unfold Hid hasZ; rw [List.getElem?_map, hx, tcmp_eq]; rfl
        have hkc := (mtKeyM_w gu _ x hxne.out s q _ HTu.out (M1.cell hq))
        clear hx y0 hTu
        go_wp2_with fail
        refine hkc.mono ?_
        rintro _ w2 ⟨rfl, m2⟩
        go_wp2_with fail
        go_ret2
        exact ⟨i, by rw [HA.out]; rfl, HP.out, mr.then m2⟩
      · have hin3 : ¬ (i : Int) < n := by omega
        have HA : Hid (hasZ (xs.map mLo) s i = false) := by unfold Hid hasZ; rw [List.getElem?_eq_none (by have := HN.out; simp; omega)]
        go_wp2_with fail
        go_ret2
        exact ⟨i, by rw [HA.out]; rfl, HP.out, mr⟩

set_option maxRecDepth 100000 in
set_option maxHeartbeats 1000000 in
theorem mtLastM_w (w : World) (B : Nat) (ad : Option Addr) (n cap : Nat) (xs : List (List Ptb)) (s x0 : ByteArray) (h : MsAt B w (.slice ad n cap) xs) (hn : n = xs.length) (hr : RiseZ (xs.map mLo)) (hl : n ≤ 1000) (hne : ∀ m ∈ xs, m ≠ []) (h0 : (xs.map mLo)[0]? = some x0) (hs : zlt s x0 = false) :
    Calls Tryz.prog 125 #[.slice ad n cap, .func (.func 126) #[] #[], .string s] w fun e w' => ∃ j : Nat, e = .returned (.int .i64 (j : Int)) ∧ LastZ (xs.map mLo) s j ∧ Moves [] w w' := by
  have mA : Moves [] w (w.alloc (.cells #[.func (.func 126) #[] #[]] 194)) := (Moves.refl _ _).alloc _
  have hS := mtSearchM_w (w.alloc (.cells #[.func (.func 126) #[] #[]] 194)) (w.alloc (.cells #[.func (.func 126) #[] #[]] 194)) B ad n cap xs s w.heap.size (h.moves mA (by simp)) hn (Moves.refl _ _) (one_cell (heap_alloc_new w _)).1 hr hl hne
  have HR : Hid (RiseZ (xs.map mLo)) := hr
  have H0 : Hid ((xs.map mLo)[0]? = some x0) := h0
  have HS0 : Hid (zlt s x0 = false) := hs
  have hi3 : ∀ i, PlaceZ (xs.map mLo) s i → i ≤ 1000 := fun i hi => by have := hi.le; simp at this; omega
  clear h hn hr h0 hs
  go_enter Tryz.func125, Tryz.ntmps125
  go_wp2_with fail
  refine hS.mono ?_
  rintro _ w2 ⟨i, rfl, hP, m2⟩
  have hi1 := hi3 i hP
  obtain ⟨hy, hno⟩ := hP.last HR.out H0.out HS0.out
  cases hh : hasZ (xs.map mLo) s i with
  | true =>
    have HY : Hid (LastZ (xs.map mLo) s i) := hy hh
    clear hy hno hP
    go_wp2_with fail
    go_ret
    exact ⟨i, rfl, HY.out, mA.then m2⟩
  | false =>
    obtain ⟨hpos, hy2⟩ := hno hh
    have HY : Hid (LastZ (xs.map mLo) s (i - 1)) := hy2
    clear hy hno hP hy2
    go_wp2_with fail
    go_ret
    refine ⟨i - 1, ?_, HY.out, mA.then m2⟩
    have e : ((i - 1 : Nat) : Int) = (i : Int) - 1 := by omega
    rw [e]
    rfl
end Go.Proofs.YtilbbnmhnacnlaaGreat
