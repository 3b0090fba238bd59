/-
  Values as plain data: their order, by Kind, bytes and number; what it is an order by. Plain facts, no program in sight.
-/
import Derived.Test.YtpofalalfemkhaaRest
import Derived.Lib.BytesEntry
namespace Go.Proofs.Ytpofalalfemkhaa
open Go.RowKit

/-- A Kind, and 0 of each that is neither Text nor Number. -/
def kd (k : Int) : Int := if k = 1 ∨ k = 2 then k else 0
theorem kd_cases (k : Int) : (k = 1 ∧ kd k = 1) ∨ (k = 2 ∧ kd k = 2) ∨ (k ≠ 1 ∧ k ≠ 2 ∧ kd k = 0) := by
  unfold kd
  by_cases h1 : k = 1
  · exact .inl ⟨h1, by simp [h1]⟩
  by_cases h2 : k = 2
  · exact .inr (.inl ⟨h2, by simp [h2]⟩)
  · exact .inr (.inr ⟨h1, h2, by simp [h1, h2]⟩)

def icmp (x y : Int) : Int := if x < y then -1 else if y < x then 1 else 0

/-- Bytes in their order. -/
def bcmp : List Nat → List Nat → Int
  | [], [] => 0
  | [], _ :: _ => -1
  | _ :: _, [] => 1
  | a :: s, b :: t => if a < b then -1 else if b < a then 1 else bcmp s t

theorem bcmp_bounds : ∀ a b : List Nat, -1 ≤ bcmp a b ∧ bcmp a b ≤ 1
  | [], [] => by simp [bcmp]
  | [], _ :: _ => by simp [bcmp]
  | _ :: _, [] => by simp [bcmp]
  | a :: s, b :: t => by
    have := bcmp_bounds s t
    unfold bcmp
    split
    · omega
    · split <;> omega
theorem bcmp_self : ∀ a : List Nat, bcmp a a = 0
  | [] => rfl
  | a :: s => by unfold bcmp; simp [bcmp_self s]
theorem bcmp_anti : ∀ a b : List Nat, bcmp a b = -bcmp b a
  | [], [] => rfl
  | [], _ :: _ => rfl
  | _ :: _, [] => rfl
  | a :: s, b :: t => by
    have := bcmp_anti s t
    unfold bcmp
    by_cases h1 : a < b
    · simp [h1, Nat.lt_asymm h1]
    · by_cases h2 : b < a
      · simp [h1, h2]
      · simp [h1, h2, this]
theorem bcmp_zero : ∀ {a b : List Nat}, bcmp a b = 0 → a = b
  | [], [], _ => rfl
  | [], _ :: _, h => by simp [bcmp] at h
  | _ :: _, [], h => by simp [bcmp] at h
  | a :: s, b :: t, h => by
    unfold bcmp at h
    split at h
    · simp at h
    · split at h
      · simp at h
      · have e : a = b := by omega
        rw [e, bcmp_zero h]
theorem bcmp_trans : ∀ {a b c : List Nat}, bcmp a b ≤ 0 → bcmp b c ≤ 0 → bcmp a c ≤ 0
  | [], _, [], _, _ => by simp [bcmp]
  | [], _, _ :: _, _, _ => by simp [bcmp]
  | _ :: _, [], _, h, _ => by simp [bcmp] at h
  | _ :: _, _ :: _, [], _, h => by simp [bcmp] at h
  | a :: s, b :: t, c :: u, h, k => by
    unfold bcmp at h k ⊢
    by_cases h1 : a < b
    · by_cases k1 : b < c
      · simp [show a < c by omega]
      · by_cases k2 : c < b
        · simp [k1, k2] at k
        · simp [show a < c by omega]
    · by_cases h2 : b < a
      · simp [h1, h2] at h
      · simp only [h1, h2, if_false] at h
        by_cases k1 : b < c
        · simp [show a < c by omega]
        · by_cases k2 : c < b
          · simp [k1, k2] at k
          · simp only [k1, k2, if_false] at k
            have := bcmp_trans h k
            simp only [show ¬ a < c by omega, show ¬ c < a by omega, if_false]
            exact this

/-- The bytes as the library's comparison has them. -/
theorem bcmp_lib : ∀ (a b : List Nat), (∀ z ∈ a, z < 256) → (∀ z ∈ b, z < 256) → Lib.compareBytes (a.map UInt8.ofNat) (b.map UInt8.ofNat) = bcmp a b
  | [], [], _, _ => rfl
  | [], _ :: _, _, _ => rfl
  | _ :: _, [], _, _ => rfl
  | a :: s, b :: t, ha, hb => by
    have ih := bcmp_lib s t (fun z hz => ha z (by simp [hz])) (fun z hz => hb z (by simp [hz]))
    have h1 : a < 256 := ha a (by simp)
    have h2 : b < 256 := hb b (by simp)
    have e : ∀ x y : Nat, x < 256 → y < 256 → (UInt8.ofNat x < UInt8.ofNat y ↔ x < y) := fun x y hx hy => by
      have ex : (UInt8.ofNat x).toNat = x := UInt8.toNat_ofNat_of_lt hx
      have ey : (UInt8.ofNat y).toNat = y := UInt8.toNat_ofNat_of_lt hy
      rw [UInt8.lt_iff_toNat_lt, ex, ey]
    simp only [List.map_cons, Lib.compareBytes, bcmp, ih]
    by_cases c1 : a < b
    · rw [if_pos ((e a b h1 h2).2 c1), if_pos c1]
    · rw [if_neg (fun h => c1 ((e a b h1 h2).1 h)), if_neg c1]
      by_cases c2 : b < a
      · rw [if_pos ((e b a h2 h1).2 c2), if_pos c2]
      · rw [if_neg (fun h => c2 ((e b a h2 h1).1 h)), if_neg c2]

/-- A value: its Kind, its bytes (the slice, its block, what lies there), its number. -/
structure Vm where
  kind : Int
  bv : Value
  g : Nat
  bs : List Nat
  n : Nat

/-- As it is handed on. -/
def Vm.val (a : Vm) : Value := .agg #[.int .i64 a.kind, a.bv, .float .f64 a.n]

/-- It lies so in memory. -/
structure Vm.In (w : World) (a : Vm) : Prop where
  isB : IsB w a.g a.bv a.bs
  fits : Pl.Fits a.n
  oct : ∀ z ∈ a.bs, z < 256

theorem Vm.In.moves {w w' : World} {a : Vm} {S : List Nat} (h : a.In w) (m : Moves S w w') (hg : a.g ∉ S) : a.In w' := ⟨h.isB.moves m hg, h.fits, h.oct⟩

/-- The order of values. -/
def vord (a b : Vm) : Int :=
  if icmp (kd a.kind) (kd b.kind) ≠ 0 then icmp (kd a.kind) (kd b.kind) else if kd a.kind = 1 then bcmp a.bs b.bs else if kd a.kind = 2 then Pl.ord a.n b.n else 0

theorem vord_self (a : Vm) : vord a a = 0 := by
  unfold vord
  have h1 : icmp (kd a.kind) (kd a.kind) = 0 := by simp [icmp]
  have h2 : Pl.ord a.n a.n = 0 := by unfold Pl.ord Pl.cmp; simp
  simp only [h1, h2, bcmp_self, ne_eq, not_true_eq_false, if_false]
  repeat' split
  all_goals rfl

theorem ord_neg (a b : Nat) : Pl.ord a b = -Pl.ord b a := by
  unfold Pl.ord Pl.cmp
  split <;> split <;> first | omega | (split <;> omega)

theorem vord_anti (a b : Vm) : vord a b = -vord b a := by
  unfold vord
  rcases kd_cases a.kind with ⟨_, e1⟩ | ⟨_, e1⟩ | ⟨_, _, e1⟩ <;> rcases kd_cases b.kind with ⟨_, e2⟩ | ⟨_, e2⟩ | ⟨_, _, e2⟩ <;> rw [e1, e2] <;> simp [icmp]
  · exact bcmp_anti _ _
  · exact ord_neg _ _

theorem vord_bounds (a b : Vm) : -1 ≤ vord a b ∧ vord a b ≤ 1 := by
  have h1 := bcmp_bounds a.bs b.bs
  have h2 := Pl.ord_bounds a.n b.n
  unfold vord icmp
  rcases kd_cases a.kind with ⟨_, e1⟩ | ⟨_, e1⟩ | ⟨_, _, e1⟩ <;> rcases kd_cases b.kind with ⟨_, e2⟩ | ⟨_, e2⟩ | ⟨_, _, e2⟩ <;> rw [e1, e2] <;> simp <;> omega

theorem vord_trans {a b c : Vm} (h : vord a b ≤ 0) (k : vord b c ≤ 0) : vord a c ≤ 0 := by
  unfold vord icmp at *
  rcases kd_cases a.kind with ⟨_, e1⟩ | ⟨_, e1⟩ | ⟨_, _, e1⟩ <;> rcases kd_cases b.kind with ⟨_, e2⟩ | ⟨_, e2⟩ | ⟨_, _, e2⟩ <;> rcases kd_cases c.kind with ⟨_, e3⟩ | ⟨_, e3⟩ | ⟨_, _, e3⟩ <;> rw [e1, e2] at h <;> rw [e2, e3] at k <;> rw [e1, e3] <;> simp at h k ⊢
  · exact bcmp_trans h k
  · exact Pl.ord_trans h k

theorem vord_neg64 (a b : Vm) : (vord a b == wrap64 (-(vord b a))) = true := by
  have := vord_bounds b a
  rw [Pl.neg64 this, vord_anti a b]
  simp

theorem Moves.ofStill {w w' : World} (h : Still w w') : Moves [] w w' := by
  obtain ⟨n, rfl⟩ := h
  exact ⟨rfl, rfl, rfl, Nat.le_refl _, fun _ _ _ => rfl⟩
end Go.Proofs.Ytpofalalfemkhaa
