/-
  What bytes' comparison and package value's functions do: for every value the call returns, and writes nothing that was there.
-/
import Derived.Test.YtpofalalfemkhaaVal0
import Derived.Laws.Externs
namespace Go.Proofs.Ytpofalalfemkhaa
open Go.RowKit

theorem run_bytesOf {w : World} {g : Nat} {v : Value} {bs : List Nat} (h : IsB w g v bs) : (Extern.Bytes.bytesOf v).run Try.prog w = .ok (strOf bs) w := by
  obtain ⟨ad, n, cap, rfl, hn, hc, ha, hh⟩ := h
  rcases hh with rfl | ⟨off, rfl, hcell⟩
  · simp at hn
    subst hn
    cases ad with
    | none => rfl
    | some a => rfl
  · have hl := Lib.run_loadBytesX (P := Try.prog) w (bs.map fun b : Nat => (b : Int)) ⟨g, off, none⟩ .empty (fun j x hj => by
      simp only [List.getElem?_map, Option.map_eq_some_iff] at hj
      obtain ⟨b, hb, rfl⟩ := hj
      have e : (⟨g, off, none⟩ : Addr).add j = ⟨g, off + j, none⟩ := by unfold Addr.add; split <;> simp_all
      rw [e]
      exact hcell j b hb)
    rw [List.length_map, hn] at hl
    refine Eq.trans hl ?_
    have e : (Lib.bytesOf (bs.map fun b : Nat => (b : Int))) = bs.map UInt8.ofNat := by simp [Lib.bytesOf]
    rw [e]
    congr 1
    apply ByteArray.ext
    show (#[] : Array UInt8) ++ (bs.map UInt8.ofNat).toArray = _
    simp [strOf]

theorem run_compareB {w : World} {g h : Nat} {v u : Value} {bs cs : List Nat} (hv : IsB w g v bs) (hu : IsB w h u cs) (ob : ∀ z ∈ bs, z < 256) (oc : ∀ z ∈ cs, z < 256) :
    (callFunc 126 #[v, u]).run Try.prog w = .ok (.value (.int .i64 (bcmp bs cs))) w := by
  rw [run_callFunc_extern Try.func126 (by kernel_rfl) (by kernel_rfl) (by kernel_rfl) (e := Extern.BytealgCompare.compare) (by kernel_rfl)]
  have e : (Extern.BytealgCompare.compare #[v, u]).run Try.prog w = .ok (.int .i64 (bcmp bs cs)) w := by
    change Sem.run Try.prog (do pure (goInt (Extern.BytealgCompare.cmp (← Extern.Bytes.bytesOf v) (← Extern.Bytes.bytesOf u)))) w = _
    simp only [Sem.run_bind, Sem.run_pure, Result.andThen, run_bytesOf hv, run_bytesOf hu]
    rw [Lib.cmp_eq]
    have e2 : ∀ l : List Nat, (strOf l).data.toList = l.map UInt8.ofNat := fun l => by simp [strOf]
    rw [e2, e2, bcmp_lib _ _ ob oc]
    rfl
  rw [e]
  rfl

theorem bytesCompare_w (v u : Value) (g h : Nat) (bs cs : List Nat) (w : World) (hv : IsB w g v bs) (hu : IsB w h u cs) (ob : ∀ z ∈ bs, z < 256) (oc : ∀ z ∈ cs, z < 256) :
    Calls Try.prog 123 #[v, u] w fun e w' => e = .returned (.int .i64 (bcmp bs cs)) ∧ w = w' := by
  have hr := run_compareB hv hu ob oc
  go_enter Try.func123, Try.ntmps123
  go_wp2
  go_ret
  exact ⟨rfl, rfl⟩

theorem compareInt_w (x y : Int) (w : World) :
    Calls Try.prog 122 #[.int .i64 x, .int .i64 y] w fun e w' => e = .returned (.int .i64 (icmp x y)) ∧ w = w' := by
  unfold icmp
  by_cases h1 : x < y
  · rw [if_pos h1]
    go_enter Try.func122, Try.ntmps122
    go_wp2
    all_goals (go_ret; exact ⟨rfl, rfl⟩)
  · rw [if_neg h1]
    by_cases h2 : y < x
    · rw [if_pos h2]
      go_enter Try.func122, Try.ntmps122
      go_wp2
      all_goals (go_ret; exact ⟨rfl, rfl⟩)
    · rw [if_neg h2]
      go_enter Try.func122, Try.ntmps122
      go_wp2
      all_goals (go_ret; exact ⟨rfl, rfl⟩)

theorem kind_w (k : Int) (ad : Option Addr) (len cap n : Nat) (w : World) :
    Calls Try.prog 113 #[.agg #[.int .i64 k, .slice ad len cap, .float .f64 n]] w fun e w' => e = .returned (.int .i64 (kd k)) ∧ Moves [] w w' := by
  rcases kd_cases k with ⟨rfl, e⟩ | ⟨rfl, e⟩ | ⟨h1, h2, e⟩
  · rw [e]
    go_enter Try.func113, Try.ntmps113
    go_wp2
    go_ret
    exact ⟨rfl, (Moves.refl _ _).alloc _⟩
  · rw [e]
    go_enter Try.func113, Try.ntmps113
    go_wp2
    go_ret
    exact ⟨rfl, (Moves.refl _ _).alloc _⟩
  · rw [e]
    have t1 : (k == 1) = false := by simpa using h1
    have t2 : (k == 2) = false := by simpa using h2
    go_enter Try.func113, Try.ntmps113
    go_wp2
    go_ret
    exact ⟨rfl, (Moves.refl _ _).alloc _⟩

end Go.Proofs.Ytpofalalfemkhaa
