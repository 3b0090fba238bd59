/-
  law7's some; SpanNumbers' walk.
-/
import Derived.Test.YtgeadpmnnjfkkaaCSp10
import Derived.Test.YtgeadpmnnjfkkaaCOpen0
namespace Go.Proofs.Ytgeadpmnnjfkkaa
open Go.RowKit

theorem lists2_w (w : World) (g : Nat) (a b c d : ByteArray) (hb : w.heap[g]? = some (.cells #[.string a, .string b, .string c, .string d] 27 (0, 0))) : Calls Try.prog 10 #[.slice (some ⟨g, 0, none⟩) 2 2] w fun e w' => e = .returned (.bool true) ∧ Moves [] w w' :=
  lists7_w w _ 2 2 [⟨a, b⟩, ⟨c, d⟩] (SpsAt.block hb) rfl (by omega) (by omega)
theorem lists3_w (w : World) (g : Nat) (a b c d e f : ByteArray) (hb : w.heap[g]? = some (.cells #[.string a, .string b, .string c, .string d, .string e, .string f] 27 (0, 0))) : Calls Try.prog 10 #[.slice (some ⟨g, 0, none⟩) 3 3] w fun e w' => e = .returned (.bool true) ∧ Moves [] w w' :=
  lists7_w w _ 3 3 [⟨a, b⟩, ⟨c, d⟩, ⟨e, f⟩] (SpsAt.block hb) rfl (by omega) (by omega)

theorem take_len {α : Type} {xs : List α} {n i : Nat} (h : xs.length = n) (hi : i ≤ n) : i = (xs.take i).length := by rw [List.length_take]; omega
theorem SpsAt.take {w : World} {ad : Option Addr} {xs : List Psp} (h : SpsAt w ad xs) (i : Nat) : SpsAt w ad (xs.take i) := fun k s hs => h k s (by
  rw [List.getElem?_take] at hs
  split at hs
  · exact hs
  · simp at hs)
def sp17 : ByteArray := ⟨#[115, 101, 118, 101, 110, 116, 101, 101, 110, 46, 98, 121, 116, 101, 115, 46, 108]⟩
def sp16 : ByteArray := ⟨#[115, 105, 120, 116, 101, 101, 110, 46, 98, 121, 116, 101, 115, 46, 111, 107]⟩
def some7L : List Psp := [⟨⟨#[]⟩, ⟨#[]⟩⟩, ⟨⟨#[]⟩, ⟨#[97]⟩⟩, ⟨⟨#[97]⟩, ⟨#[]⟩⟩, ⟨⟨#[97]⟩, ⟨#[98]⟩⟩, ⟨⟨#[98]⟩, ⟨#[97]⟩⟩, ⟨⟨#[97]⟩, ⟨#[97]⟩⟩, ⟨⟨#[98]⟩, ⟨#[110]⟩⟩, ⟨⟨#[110]⟩, ⟨#[]⟩⟩, ⟨⟨#[109]⟩, ⟨#[122]⟩⟩, ⟨sp17, ⟨#[]⟩⟩, ⟨⟨#[]⟩, sp17⟩, ⟨sp16, ⟨#[]⟩⟩]
set_option maxRecDepth 100000 in
theorem some7_w (w : World) : Calls Try.prog 8 #[] w fun e w' => e = .returned (.slice (some ⟨w.heap.size, 0, none⟩) 12 12) ∧ SpsAt w' (some ⟨w.heap.size, 0, none⟩) some7L ∧ Moves [] w w' := by
  go_enter Try.func8, Try.ntmps8
  go_wp2
  go_ret
  exact ⟨rfl, SpsAt.block (heap_alloc_new _ _), (Moves.refl _ _).alloc _⟩

set_option maxRecDepth 100000 in
set_option maxHeartbeats 8000000 in
theorem spanNumbers_w (w : World) : Calls Try.prog 3 #[] w fun e w' => e = .returned (.bool true) ∧ Moves [] w w' := by
  obtain ⟨xs, hxs⟩ : ∃ xs, xs = some7L := ⟨_, rfl⟩
  have HL : Hid (xs.length = 12) := by rw [hxs]; exact (by decide : some7L.length = 12)
  have hsome := some7_w w
  rw [← hxs] at hsome
  clear hxs
  obtain ⟨g, hg⟩ : ∃ g, w.heap.size = g := ⟨_, rfl⟩
  rw [hg] at hsome
  clear hg
  go_enter Try.func3, Try.ntmps3
  go_wp2_with (go_at_call 8; refine hsome.mono ?_; rintro _ w2 ⟨rfl, hS, m2⟩; have HS : Hid (SpsAt w2 (some ⟨g, 0, none⟩) xs) := hS; clear hS hsome)
  go_loopw [2] (fun vi wr => ∃ i : Nat, i ≤ 12 ∧ vi = .int .i64 (i : Nat) ∧ Moves [] w2 wr) (fun vi _ => 12 - (intOf vi).toNat)
  case atStart => exact ⟨0, by omega, rfl, Moves.refl _ _⟩
  case round =>
    obtain ⟨i, hi12, rfl, mi⟩ := hrel
    obtain ⟨s1, e1⟩ : ∃ s, xs[1]? = some s := ⟨_, List.getElem?_eq_getElem (by have := HL.out; omega)⟩
    obtain ⟨_, _, q1, o0, o1⟩ := HS.out 1 s1 e1
    simp only [Option.some.injEq, Addr.mk.injEq] at q1
    obtain ⟨rfl, rfl, _⟩ := q1
    rw [show 0 + 1 * 2 = 2 from rfl] at o0 o1
    rw [show 2 + 1 = 3 from rfl] at o1
    clear e1
    by_cases hilt : i < 12
    · have hiI : (i : Int) < 12 := by omega
      obtain ⟨si, ei⟩ : ∃ s, xs[i]? = some s := ⟨_, List.getElem?_eq_getElem (by have := HL.out; omega)⟩
      obtain ⟨_, _, q1, i0, i1⟩ := HS.out i si ei
      simp only [Option.some.injEq, Addr.mk.injEq] at q1
      obtain ⟨rfl, rfl, _⟩ := q1
      rw [Nat.zero_add] at i0 i1
      have hi12' : i ≤ 12 := by omega
      have hi12I : (i : Int) ≤ 12 := by omega
      clear ei
      obtain ⟨wo, hwo⟩ : ∃ wo, wr = wo := ⟨_, rfl⟩
      subst hwo
      go_wp2_with fail
      go_loopw [3] (fun vk w3 => ∃ k : Nat, k ≤ 12 ∧ vk = .int .i64 (k : Nat) ∧ Moves [] w2 w3) (fun vk _ => 12 - (intOf vk).toNat)
      case atStart => exact ⟨0, by omega, rfl, mi⟩
      case round =>
        obtain ⟨k, hk12, rfl, mk⟩ := hrel
        by_cases hklt : k < 12
        · have hkI : (k : Int) < 12 := by omega
          obtain ⟨sk, ek⟩ : ∃ s, xs[k]? = some s := ⟨_, List.getElem?_eq_getElem (by have := HL.out; omega)⟩
          obtain ⟨_, _, q1, k0, k1⟩ := HS.out k sk ek
          simp only [Option.some.injEq, Addr.mk.injEq] at q1
          obtain ⟨rfl, rfl, _⟩ := q1
          rw [Nat.zero_add] at k0 k1
          clear ek
          obtain ⟨B, hB⟩ : ∃ B, B = wr.heap.size := ⟨_, rfl⟩
          have hstr : Hid (∀ j : Nat, j < 7 → ∃ s, (wr.alloc (.cells #[.string ⟨#[]⟩, .string ⟨#[97]⟩, .string ⟨#[98]⟩, .string ⟨#[109]⟩, .string ⟨#[110]⟩, .string ⟨#[122, 122, 122]⟩, .string sp17] 9)).cell? ⟨B, j, none⟩ = some (.string s)) := by
            intro j hj
            rw [hB]
            simp only [World.cell?, heap_alloc_new]
            match j, hj with
            | 0, _ => exact ⟨_, rfl⟩
            | 1, _ => exact ⟨_, rfl⟩
            | 2, _ => exact ⟨_, rfl⟩
            | 3, _ => exact ⟨_, rfl⟩
            | 4, _ => exact ⟨_, rfl⟩
            | 5, _ => exact ⟨_, rfl⟩
            | 6, _ => exact ⟨_, rfl⟩
          have mB : Hid (Moves [] w2 (wr.alloc (.cells #[.string ⟨#[]⟩, .string ⟨#[97]⟩, .string ⟨#[98]⟩, .string ⟨#[109]⟩, .string ⟨#[110]⟩, .string ⟨#[122, 122, 122]⟩, .string sp17] 9))) := mk.alloc _
          unfold sp17 at hstr mB
          go_wp2_with fail
          rw [← hB]
          generalize (wr.alloc (.cells #[.string ⟨#[]⟩, .string ⟨#[97]⟩, .string ⟨#[98]⟩, .string ⟨#[109]⟩, .string ⟨#[110]⟩, .string ⟨#[122, 122, 122]⟩, .string ⟨#[115, 101, 118, 101, 110, 116, 101, 101, 110, 46, 98, 121, 116, 101, 115, 46, 108]⟩] 9)) = w3 at *
          clear hB mk
          go_loopw [21] (fun vj w4 => ∃ j : Nat, j ≤ 7 ∧ vj = .int .i64 (j : Nat) ∧ Moves [] w3 w4) (fun vj _ => 7 - (intOf vj).toNat)
          case atStart => exact ⟨0, by omega, rfl, Moves.refl _ _⟩
          case round =>
            obtain ⟨j, hj7, rfl, mj⟩ := hrel
            have mjj := mB.out.then mj
            have c0 := mjj.cell i0
            have c1 := mjj.cell i1
            have d0 := mjj.cell k0
            have d1 := mjj.cell k1
            by_cases hjlt : j < 7
            · have hjI : (j : Int) < 7 := by omega
              obtain ⟨s, hs⟩ := hstr.out j hjlt
              replace hs := mj.cell hs
              go_wp2_with fail
              go_region_held3 (fun w' => w'.cell? ⟨g, i * 2, none⟩ = some (.string si.lo) ∧ w'.cell? ⟨g, i * 2 + 1, none⟩ = some (.string si.hi) ∧ w'.cell? ⟨g, k * 2, none⟩ = some (.string sk.lo) ∧ w'.cell? ⟨g, k * 2 + 1, none⟩ = some (.string sk.hi)) (first | exact ⟨c0, c1, d0, d1⟩ | exact ⟨m5.cell c0, m5.cell c1, m5.cell d0, m5.cell d1⟩ | (go_keep; done)) ((go_at_call 9; refine (two7_w _ _ _ _ _ _).mono ?_; rintro _ w5 ⟨rfl, m5⟩))
              go_wp2_with fail
              go_roundw
              case rel => exact ⟨j + 1, by omega, by go_num, mj.drew.then m5⟩
              case measure => simp [intOf]; omega
            · obtain rfl : j = 7 := by omega
              have p0 := mjj.cell o0
              have p1 := mjj.cell o1
              go_wp2_with fail
              go_region_held3 (fun w' => w'.cell? ⟨g, i * 2, none⟩ = some (.string si.lo) ∧ w'.cell? ⟨g, i * 2 + 1, none⟩ = some (.string si.hi) ∧ w'.cell? ⟨g, k * 2, none⟩ = some (.string sk.lo) ∧ w'.cell? ⟨g, k * 2 + 1, none⟩ = some (.string sk.hi) ∧ w'.cell? ⟨g, 2, none⟩ = some (.string s1.lo) ∧ w'.cell? ⟨g, 3, none⟩ = some (.string s1.hi)) (first | exact ⟨c0, c1, d0, d1, p0, p1⟩ | exact ⟨A6.cell c0, A6.cell c1, A6.cell d0, A6.cell d1, A6.cell p0, A6.cell p1⟩ | exact ⟨A5.cell c0, A5.cell c1, A5.cell d0, A5.cell d1, A5.cell p0, A5.cell p1⟩ | (go_keep; done)) (first | (go_at_call 10; (revert m5; intro m5); refine (lists3_w _ _ s1.lo s1.hi si.lo si.hi sk.lo sk.hi (by exact heap_alloc_new w5 _)).mono ?_; rintro _ w6 ⟨rfl, m6⟩; have A6 : Moves [] wr w6 := (A5.alloc _).then m6) | (go_at_call 10; refine (lists2_w _ _ si.lo si.hi sk.lo sk.hi (by exact heap_alloc_new wr _)).mono ?_; rintro _ w5 ⟨rfl, m5⟩; have A5 : Moves [] wr w5 := ((Moves.refl _ _).alloc _).drew.then m5))
              go_wp2_with fail
              go_roundw
              case rel => exact ⟨k + 1, by omega, by go_num, mjj.then A6⟩
              case measure => simp [intOf]; omega
        · obtain rfl : k = 12 := by omega
          have hT : Hid (SpsAt wr (some ⟨g, 0, none⟩) (xs.take i)) := (HS.out.moves mk).take i
          have hTl : Hid (i = (xs.take i).length) := take_len HL.out hi12
          go_wp2_with (go_at_call 10; refine (lists7_w _ _ _ _ _ hT.out hTl.out (by omega) (by omega)).mono ?_; rintro _ w4 ⟨rfl, m4⟩)
          go_roundw
          case rel => exact ⟨i + 1, by omega, by go_num, mk.then m4⟩
          case measure => simp [intOf]; omega
    · obtain rfl : i = 12 := by omega
      go_wp2_with (first | (go_at_call 10; refine (lists3_w _ _ ⟨#[]⟩ ⟨#[98]⟩ ⟨#[98]⟩ ⟨#[110]⟩ ⟨#[110]⟩ ⟨#[]⟩ (by exact heap_alloc_new wr _)).mono ?_; rintro _ w4 ⟨rfl, m4⟩) | (go_at_call 11; refine (known7_w _).mono ?_; rintro _ w5 ⟨rfl, m5⟩))
      go_ret
      exact ⟨rfl, (m2.then mi).then (((Moves.refl _ _).alloc _).then m4) |>.then m5⟩
end Go.Proofs.Ytgeadpmnnjfkkaa
