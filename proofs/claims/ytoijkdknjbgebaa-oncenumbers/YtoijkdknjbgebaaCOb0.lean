/-
  Caches as bytes, plain: what Write leaves, what Take makes of any bytes, and that it is the way back.
-/
import Derived.Test.YtoijkdknjbgebaaCOnJ
namespace Go.Proofs.Ytoijkdknjbgebaa
open Go.RowKit

def encT (x : Pt) : List Nat := [x.c.toNat] ++ (be 4 x.s.toNat ++ (be 4 x.a.size ++ zbs x.a))
def encC (xs : List Pt) : List Nat := be 4 xs.length ++ xs.flatMap encT

instance (bs : List Nat) (most : Int) : Decidable (textOk bs most) := by unfold textOk; infer_instance
def dNum (n : Nat) (bs : List Nat) : Option (Nat × List Nat) := if n ≤ bs.length then some (val (bs.take n), bs.drop n) else none
def dTxt (bs : List Nat) : Option (List Nat × List Nat) := if textOk bs 1048576 then some ((bs.drop 4).take (val (bs.take 4)), (bs.drop 4).drop (val (bs.take 4))) else none
/-- All that are there are below. -/
def belowT (zs : List Pt) (c : Int) : Bool := match zs.getLast? with
  | none => true
  | some x => decide (x.c < c)
def dOne (zs : List Pt) (bs : List Nat) : Option (Pt × List Nat) :=
  match dNum 1 bs with
  | none => none
  | some (c, b1) => match dNum 4 b1 with
    | none => none
    | some (s, b2) => match dTxt b2 with
      | none => none
      | some (t, b3) => if belowT zs (c : Int) && mayK (c : Int) (s : Int) t.length then some (⟨(c : Int), (s : Int), strOf t⟩, b3) else none
def dAll : Nat → List Pt → List Nat → Option (List Pt × List Nat)
  | 0, zs, bs => some (zs, bs)
  | n + 1, zs, bs => match dOne zs bs with
    | none => none
    | some (x, r) => dAll n (zs ++ [x]) r
def dTake (bs : List Nat) : Option (List Pt × List Nat) := match dNum 4 bs with
  | none => none
  | some (n, r) => if n ≤ 256 then dAll n [] r else none

theorem dOne_some {zs : List Pt} {bs r : List Nat} {x : Pt} (h : dOne zs bs = some (x, r)) : ∃ c b1 s b2 t, dNum 1 bs = some (c, b1) ∧ dNum 4 b1 = some (s, b2) ∧ dTxt b2 = some (t, r) ∧ belowT zs (c : Int) = true ∧ mayK (c : Int) (s : Int) t.length = true ∧ x = ⟨(c : Int), (s : Int), strOf t⟩ := by
  unfold dOne at h
  cases h1 : dNum 1 bs with
  | none => rw [h1] at h; simp at h
  | some p1 =>
    obtain ⟨c, b1⟩ := p1
    rw [h1] at h
    dsimp only at h
    cases h2 : dNum 4 b1 with
    | none => rw [h2] at h; simp at h
    | some p2 =>
      obtain ⟨s, b2⟩ := p2
      rw [h2] at h
      dsimp only at h
      cases h3 : dTxt b2 with
      | none => rw [h3] at h; simp at h
      | some p3 =>
        obtain ⟨t, b3⟩ := p3
        rw [h3] at h
        dsimp only at h
        cases h4 : (belowT zs (c : Int) && mayK (c : Int) (s : Int) t.length) with
        | false => rw [h4] at h; simp at h
        | true =>
          rw [h4] at h
          simp at h
          obtain ⟨rfl, rfl⟩ := h
          rw [Bool.and_eq_true] at h4
          exact ⟨c, b1, s, b2, t, rfl, h2, h3, h4.1, h4.2, rfl⟩
theorem dOne_mk {zs : List Pt} {bs b1 b2 r t : List Nat} {c s : Nat} (h1 : dNum 1 bs = some (c, b1)) (h2 : dNum 4 b1 = some (s, b2)) (h3 : dTxt b2 = some (t, r)) (h4 : belowT zs (c : Int) = true) (h5 : mayK (c : Int) (s : Int) t.length = true) : dOne zs bs = some (⟨(c : Int), (s : Int), strOf t⟩, r) := by
  unfold dOne
  rw [h1]
  dsimp only
  rw [h2]
  dsimp only
  rw [h3]
  dsimp only
  rw [h4, h5]
  rfl
theorem dNum_one (c : Nat) (r : List Nat) : dNum 1 ([c] ++ r) = some (c, r) := by
  unfold dNum
  rw [if_pos (by simp)]
  simp [val]
theorem dNum_be {n : Nat} (h : n < 4294967296) (r : List Nat) : dNum 4 (be 4 n ++ r) = some (n, r) := by
  obtain ⟨u1, u2, u3⟩ := take_of (bs := be 4 n ++ r) (hd := be 4 n) (rest := r) (n := 4) rfl (be_length _ _)
  unfold dNum
  rw [if_pos u3, u1, u2, val_be (by omega)]
theorem dTxt_enc {z : ByteArray} (h : z.size ≤ 1048576) (r : List Nat) : dTxt (be 4 z.size ++ zbs z ++ r) = some (zbs z, r) := by
  obtain ⟨u1, u2, u3⟩ := take_of (bs := be 4 z.size ++ zbs z ++ r) (hd := be 4 z.size) (rest := zbs z ++ r) (n := 4) (by simp) (be_length _ _)
  have hv : val (be 4 z.size) = z.size := val_be (by omega)
  unfold dTxt
  have hok : textOk (be 4 z.size ++ zbs z ++ r) 1048576 := by
    unfold textOk
    rw [u1, u2, hv]
    refine ⟨u3, by omega, fun _ => by omega, ?_⟩
    rw [List.length_append, zbs_length]
    omega
  rw [if_pos hok, u1, u2, hv, ← zbs_length z]
  simp
/-- What may be in a cache, by its bounds alone. -/
def BigT (x : Pt) : Prop := 0 ≤ x.c ∧ x.c ≤ 255 ∧ 1 ≤ x.s ∧ x.s ≤ 1073741824 ∧ x.a.size ≤ 1048576
theorem MayT.big {x : Pt} (h : MayT x) : BigT x := ⟨h.1, h.2.1, h.2.2.1, h.2.2.2.1, by have := h.2.2.2.2; omega⟩
theorem belowT_rise {zs : List Pt} {c : Int} (h : ∀ x ∈ zs, x.c < c) : belowT zs c = true := by
  unfold belowT
  split
  · rfl
  · rename_i x hx
    exact decide_eq_true (h x (List.mem_of_getLast? hx))
theorem dOne_enc {zs : List Pt} {x : Pt} (hb : BigT x) (h : ∀ y ∈ zs, y.c < x.c) (r : List Nat) : dOne zs (encT x ++ r) = some (x, r) := by
  obtain ⟨k1, k2, k3, k4, k5⟩ := hb
  have ec : ((x.c.toNat : Nat) : Int) = x.c := by omega
  have es : ((x.s.toNat : Nat) : Int) = x.s := by omega
  have e : encT x ++ r = [x.c.toNat] ++ (be 4 x.s.toNat ++ (be 4 x.a.size ++ zbs x.a ++ r)) := by unfold encT; simp
  have hm := dOne_mk (zs := zs) (dNum_one x.c.toNat (be 4 x.s.toNat ++ (be 4 x.a.size ++ zbs x.a ++ r))) (dNum_be (n := x.s.toNat) (by omega) _) (dTxt_enc k5 r) (by rw [ec]; exact belowT_rise h) (by rw [ec, es, zbs_length]; exact mayK_iff.2 ⟨k1, k2, k3, k4, k5⟩)
  rw [e, hm, ec, es, zbs_back]
theorem dAll_enc : ∀ (xs zs : List Pt) (r : List Nat), RiseT (zs ++ xs) → (∀ x ∈ xs, BigT x) → dAll xs.length zs (xs.flatMap encT ++ r) = some (zs ++ xs, r)
  | [], zs, r, _, _ => by simp [dAll]
  | x :: xs, zs, r, hr, hb => by
    have hlt : ∀ y ∈ zs, y.c < x.c := fun y hy => (List.pairwise_append.1 hr).2.2 y hy x (by simp)
    have e : (x :: xs).flatMap encT ++ r = encT x ++ (xs.flatMap encT ++ r) := by simp
    have e2 : zs ++ x :: xs = zs ++ [x] ++ xs := by simp
    rw [e, List.length_cons]
    unfold dAll
    rw [dOne_enc (hb x (by simp)) hlt]
    dsimp only
    rw [e2]
    exact dAll_enc xs (zs ++ [x]) r (by rw [← e2]; exact hr) (fun y hy => hb y (by simp [hy]))
theorem dTake_enc {xs : List Pt} (hr : RiseT xs) (hb : ∀ x ∈ xs, BigT x) (hl : xs.length ≤ 256) (r : List Nat) : dTake (encC xs ++ r) = some (xs, r) := by
  unfold dTake encC
  rw [List.append_assoc, dNum_be (by omega)]
  dsimp only
  rw [if_pos hl]
  have := dAll_enc xs [] r (by simpa using hr) hb
  simpa using this
theorem encT_oct {x : Pt} (h : BigT x) : ∀ b ∈ encT x, b < 256 := by
  unfold encT
  intro b hb
  simp only [List.mem_append, List.mem_singleton] at hb
  rcases hb with hb | hb | hb | hb
  · have := h.2.1; have := h.1; omega
  · exact mem_be hb
  · exact mem_be hb
  · exact zbs_oct _ b hb
theorem encC_oct {xs : List Pt} (h : ∀ x ∈ xs, BigT x) : ∀ b ∈ encC xs, b < 256 := by
  unfold encC
  intro b hb
  rcases List.mem_append.1 hb with hb | hb
  · exact mem_be hb
  · obtain ⟨x, hx, hb⟩ := List.mem_flatMap.1 hb
    exact encT_oct (h x hx) b hb
theorem encT_length {x : Pt} (h : BigT x) : (encT x).length ≤ 1048585 := by
  unfold encT
  simp only [List.length_append, List.length_singleton, be_length, zbs_length]
  have := h.2.2.2.2
  omega
theorem encsT_length : ∀ (xs : List Pt), (∀ x ∈ xs, BigT x) → (xs.flatMap encT).length ≤ xs.length * 1048585
  | [], _ => by simp
  | x :: xs, h => by
    have h1 := encT_length (h x (by simp))
    have h2 := encsT_length xs (fun y hy => h y (by simp [hy]))
    rw [List.flatMap_cons, List.length_append, List.length_cons, Nat.succ_mul]
    omega
theorem encsT_take {xs : List Pt} {k : Nat} {x : Pt} (h : xs[k]? = some x) : (xs.take (k + 1)).flatMap encT = (xs.take k).flatMap encT ++ encT x := by
  rw [List.take_add_one, h]
  simp
end Go.Proofs.Ytoijkdknjbgebaa
