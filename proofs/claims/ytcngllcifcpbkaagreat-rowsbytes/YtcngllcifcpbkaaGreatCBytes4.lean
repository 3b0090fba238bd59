/- ours -/
import Derived.Test.YtcngllcifcpbkaaGreatCRfT4
import Derived.Test.YtcngllcifcpbkaaGreatCRw4
import Derived.Test.YtcngllcifcpbkaaGreatCRef6
namespace Go.Proofs.YtcngllcifcpbkaaGreat
open Go.RowKit

theorem rowAt_oct {w : World} {v : Value} {R : List Pcol} (h : RowAt w v R) : ∀ c ∈ R, ∀ y ∈ c.l, ∀ z ∈ y.v.bs, z < 256 := by
 obtain ⟨lv, _, css, h1, h2⟩ := h
 intro c hc y hy
 obtain ⟨k, hk⟩ := List.mem_iff_getElem?.1 hc
 obtain ⟨cc, _, vv, _, ⟨vs, _, hv⟩⟩ := h2.get hk
 obtain ⟨j, hj⟩ := List.mem_iff_getElem?.1 hy
 obtain ⟨vc, _, d, _, _, _, _, _, _, _, _, ho, _⟩ := hv.get hj
 exact ho
theorem pencR_oct {R : List Pcol} (hr : pright R = true) (ho : ∀ c ∈ R, ∀ y ∈ c.l, ∀ z ∈ y.v.bs, z < 256) : ∀ z ∈ pencR R, z < 256 := by
 intro z hz
 have h4 := pright_len4 hr
 unfold pencR at hz
 rcases List.mem_append.1 hz with hz | hz
 ·simp at hz; omega
 ·unfold pencCs at hz
  obtain ⟨l, hl, hz⟩ := List.mem_flatten.1 hz
  obtain ⟨c, hc, rfl⟩ := List.mem_map.1 hl
  have h2 := prightV_two (pright_at hr hc).2
  unfold pencC at hz
  rcases List.mem_append.1 hz with hz | hz
  ·rcases List.mem_append.1 hz with hz | hz
   ·rcases List.mem_append.1 hz with hz | hz
    ·exact mem_be hz
    ·exact sbs_oct _ z hz
   ·simp at hz; omega
  ·unfold pencVs at hz
   obtain ⟨l, hl, hz⟩ := List.mem_flatten.1 hz
   obtain ⟨y, hy, rfl⟩ := List.mem_map.1 hl
   unfold pencV at hz
   rcases List.mem_append.1 hz with hz | hz
   ·exact mem_be hz
   ·exact penc_oct (ho c hc y hy) z hz
theorem isB_in {w : World} {g : Nat} {v : Value} {bs : List Nat} (h : IsB w g v bs) (hp : 0 < w.heap.size) : ∃ g', g' < w.heap.size ∧ IsB w g' v bs := by
 by_cases hb : bs = []
 ·subst hb
  obtain ⟨ad, n, cap, h1, h2, h3, h4, _⟩ := h
  exact ⟨0, hp, ad, n, cap, h1, h2, h3, h4, .inl rfl⟩
 ·exact ⟨g, h.lt hb, h⟩

end Go.Proofs.YtcngllcifcpbkaaGreat
