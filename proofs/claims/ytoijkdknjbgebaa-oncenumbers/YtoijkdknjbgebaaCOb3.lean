/-
  A cache's Take, of any bytes.
-/
import Derived.Test.YtoijkdknjbgebaaCOb2
namespace Go.Proofs.Ytoijkdknjbgebaa
open Go.RowKit

theorem ofailed_w (r g : Nat) (bs : List Nat) (w : World) (h : RdIs w r g bs false) : Calls Try.prog 42 #[.pointer (some ⟨r, 0, none⟩)] w fun e w' => e = .panicked (stop r) ∧ RdIs w' r g bs true ∧ Moves [r] w w' := by
  have hf := rfail_w r g bs w h
  go_enter Try.func42, Try.ntmps42
  go_wp2_with fail
  refine hf.mono ?_
  rintro _ w2 ⟨rfl, hr2, m2⟩
  exact ⟨rfl, rfl, hr2, m2⟩

/-- What Take leaves. -/
def Took (w0 : World) (r g : Nat) (o : Option (List Pt × List Nat)) (e : Ending) (w' : World) : Prop := match o with
  | some (xs, rest) => ∃ q a, e = .returned (.pointer (some ⟨q, 0, none⟩)) ∧ TkIs w0 w' r g q a rest xs
  | none => e = .panicked (stop r) ∧ (∃ bs', RdIs w' r g bs' true) ∧ Moves [r] w0 w'

theorem rise_snoc {zs : List Pt} {x : Pt} (h : RiseT zs) (hx : ∀ y ∈ zs, y.c < x.c) : RiseT (zs ++ [x]) := by
  unfold RiseT
  rw [List.pairwise_append]
  exact ⟨h, List.pairwise_singleton _ _, fun a ha b hb => by simp at hb; subst hb; exact hx a ha⟩
theorem dOne_rise {zs : List Pt} (hr : RiseT zs) {bs r : List Nat} {x : Pt} (h : dOne zs bs = some (x, r)) : RiseT (zs ++ [x]) := by
  obtain ⟨c, b1, s, b2, t, _, _, _, h4, _, rfl⟩ := dOne_some h
  exact rise_snoc hr (belowT_all hr h4)

set_option maxRecDepth 100000 in
set_option maxHeartbeats 8000000 in
theorem otake_w (w : World) (r g : Nat) (bs : List Nat) (h : RdIs w r g bs false) (ho : ∀ b ∈ bs, b < 256) (hr : r < w.heap.size) (hg : g < w.heap.size) :
    Calls Try.prog 16 #[.pointer (some ⟨r, 0, none⟩)] w fun e w' => Took w r g (dTake bs) e w' := by
  have hleft := rleft_w r g bs false w h
  by_cases h0 : bs.length = 0
  · have e0 : dTake bs = none := by
      have : bs = [] := List.eq_nil_of_length_eq_zero h0
      subst this
      rfl
    rw [e0]
    have h0' : ((bs.length : Nat) : Int) = 0 := by omega
    rw [h0'] at hleft
    have hf := ofailed_w r g bs w h
    go_enter Try.func16, Try.ntmps16
    go_wp2_with fail
    refine hleft.mono ?_
    rintro _ _ ⟨rfl, rfl⟩
    go_wp2_with fail
    refine hf.mono ?_
    rintro _ w2 ⟨rfl, hr2, m2⟩
    exact ⟨rfl, rfl, ⟨_, hr2⟩, m2⟩
  · obtain ⟨L, hL⟩ : ∃ L, ((bs.length : Nat) : Int) = L := ⟨_, rfl⟩
    have h0' : ¬ L = 0 := by omega
    rw [hL] at hleft
    cases h1 : dNum 4 bs with
    | none =>
      have e0 : dTake bs = none := by unfold dTake; rw [h1]
      rw [e0]
      have hn := dNum_none h1
      have hf := rnumr_fail_w r g bs w h hn
      clear h1 e0 hL
      go_enter Try.func16, Try.ntmps16
      go_wp2_with fail
      refine hleft.mono ?_
      rintro _ _ ⟨rfl, rfl⟩
      go_wp2_with fail
      refine hf.mono ?_
      rintro _ w2 ⟨rfl, hr2, m2⟩
      exact ⟨rfl, rfl, ⟨_, hr2⟩, m2⟩
    | some p1 =>
      obtain ⟨n, b1⟩ := p1
      obtain ⟨n1, v1, d1⟩ := dNum_some h1
      have hnum := rnumr_w r g bs w h n1 ho
      rw [v1, d1] at hnum
      have ho1 : ∀ b ∈ b1, b < 256 := fun b hb => ho b (by rw [← d1] at hb; exact List.mem_of_mem_drop hb)
      by_cases hn : n ≤ 256
      · have e0 : dTake bs = dAll n [] b1 := by unfold dTake; rw [h1]; dsimp only; rw [if_pos hn]
        rw [e0]
        have hn' : ¬ (256 : Int) < (n : Int) := by omega
        clear h1 e0 hL v1 d1 n1
        go_enter Try.func16, Try.ntmps16
        go_wp2_with fail
        refine hleft.mono ?_
        rintro _ _ ⟨rfl, rfl⟩
        go_wp2_with fail
        refine hnum.mono ?_
        rintro _ w1 ⟨rfl, hr1, m1⟩
        go_wp2_with fail
        refine (onew_w w1).mono ?_
        rintro _ w2 ⟨rfl, hc2, m2⟩
        have sz := m1.size
        obtain ⟨P, hP⟩ : ∃ P, w1.heap.size = P := ⟨_, rfl⟩
        rw [hP] at hc2 ⊢
        have HT : Hid (TkIs w w2 r g P none b1 []) := by
          have hc3 : CaIs w w2 P none [] := by
            obtain ⟨v, k1, k2, k3⟩ := hc2
            exact ⟨v, k1, k2, k3.elder sz⟩
          exact ⟨hr1.moves m2 (by simp) (by simp), hc3, m1.then (m2.mono (by simp)), hr, hg, by omega, ho1⟩
        clear hleft hnum hc2 hr1
        go_wp2_with fail
        go_loopw [20] (fun iv wr => ∃ (k : Nat) (a : Option Nat) (zs : List Pt) (b' : List Nat), k ≤ n ∧ iv = .int .u32 (k : Int) ∧ TkIs w wr r g P a b' zs ∧ RiseT zs ∧ zs.length ≤ k ∧ dAll (n - k) zs b' = dAll n [] b1) (fun iv _ => (n - intOf iv).toNat)
        case atStart => exact ⟨0, none, [], b1, Nat.zero_le _, rfl, HT.out, List.Pairwise.nil, by simp, rfl⟩
        case round =>
          obtain ⟨k, a, zs, b', hk, rfl, hTk, hrz, hlz, hd⟩ := hrel
          have HK : Hid (TkIs w wr r g P a b' zs) := hTk
          clear hTk HT
          by_cases hkn : k < n
          · have hkn' : (k : Int) < (n : Int) := by omega
            have hnx := onext_w w wr r g P a b' zs HK.out hrz (by omega)
            have ed : dAll (n - k) zs b' = (match dOne zs b' with | none => none | some (x, rr) => dAll (n - (k + 1)) (zs ++ [x]) rr) := by
              have : n - k = (n - (k + 1)) + 1 := by omega
              rw [this]
              rfl
            rw [ed] at hd
            cases ho : dOne zs b' with
            | none =>
              rw [ho] at hd hnx
              have HD : Hid (none = dAll n [] b1) := hd
              clear hd ed
              go_wp2_with fail
              refine hnx.mono ?_
              rintro e5 w5 ⟨he, ⟨b5, hr5⟩, m5⟩
              rcases he with rfl | rfl
              · dsimp only at hr5
                refine ⟨rfl, ?_⟩
                rw [← HD.out]
                exact ⟨rfl, ⟨b5, hr5⟩, m5⟩
              · dsimp only at hr5
                have hf := ofailed_w r g b5 w5 hr5
                go_wp2_with fail
                refine hf.mono ?_
                rintro _ w6 ⟨rfl, hr6, m6⟩
                refine ⟨rfl, ?_⟩
                rw [← HD.out]
                exact ⟨rfl, ⟨b5, hr6⟩, m5.then m6⟩
            | some pr =>
              obtain ⟨x, rr⟩ := pr
              rw [ho] at hd hnx
              dsimp only at hd
              have HD : Hid (dAll (n - (k + 1)) (zs ++ [x]) rr = dAll n [] b1) := hd
              have hrx := dOne_rise hrz ho
              clear hd ed
              go_wp2_with fail
              refine hnx.mono ?_
              rintro _ w5 ⟨rfl, a5, hT5⟩
              go_wp2_with fail
              go_roundw
              case rel => exact ⟨k + 1, a5, zs ++ [x], rr, by omega, by go_num, hT5, hrx, by simp; omega, HD.out⟩
              case measure => simp [intOf]; omega
          · have hkn' : ¬ (k : Int) < (n : Int) := by omega
            have HD : Hid (some (zs, b') = dAll n [] b1) := by
              have : n - k = 0 := by omega
              rw [this] at hd
              exact hd
            clear hd
            go_wp2_with fail
            go_ret
            rw [← HD.out]
            exact ⟨_, _, rfl, HK.out⟩
      · have e0 : dTake bs = none := by unfold dTake; rw [h1]; dsimp only; rw [if_neg hn]
        rw [e0]
        have hn' : (256 : Int) < (n : Int) := by omega
        clear h1 e0 hL v1 d1 n1
        go_enter Try.func16, Try.ntmps16
        go_wp2_with fail
        refine hleft.mono ?_
        rintro _ _ ⟨rfl, rfl⟩
        go_wp2_with fail
        refine hnum.mono ?_
        rintro _ w1 ⟨rfl, hr1, m1⟩
        have hf := ofailed_w r g b1 w1 hr1
        go_wp2_with fail
        refine hf.mono ?_
        rintro _ w2 ⟨rfl, hr2, m2⟩
        exact ⟨rfl, rfl, ⟨_, hr2⟩, m1.then m2⟩
end Go.Proofs.Ytoijkdknjbgebaa
