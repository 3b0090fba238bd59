/-
  What a command that was written is read as is the same by what is asked; its bytes are bytes.
-/
import Derived.Test.YtcamhlnkcoicpaaGreatCSo9
import Derived.Test.YtcamhlnkcoicpaaGreatCPl8
import Derived.Test.YtcamhlnkcoicpaaGreatCKn8
namespace Go.Proofs.YtcamhlnkcoicpaaGreat
open Go.RowKit

theorem psame_canon2 (p : Pv) : psame p (pcanon p) = true := by
  unfold psame vord Pv.vm pcanon
  simp only [kd_kd]
  rcases kd_cases p.kind with ⟨_, e⟩ | ⟨_, e⟩ | ⟨_, _, e⟩ <;> rw [e] <;> simp [icmp]
  · exact bcmp_self _
  · unfold Pl.ord Pl.rank
    rw [Pl.canon_canon]
    simp [Pl.cmp]
theorem relCh_can (c : Pchg) : RelCh c (canCh c) := by
  unfold canCh RelCh
  split
  · rename_i h; exact ⟨rfl, fun e => absurd h e, fun e => absurd h e, fun e => absurd h e⟩
  · split
    · rename_i h; exact ⟨rfl, fun _ => rfl, fun _ e => absurd h e, fun _ e => absurd h e⟩
    · split
      · rename_i h; exact ⟨rfl, fun _ => rfl, fun _ _ => rfl, fun _ _ e => absurd h e⟩
      · exact ⟨rfl, fun _ => rfl, fun _ _ => rfl, fun _ _ _ => psame_canon2 _⟩
theorem relCd_can (c : Pcd) : RelCd c (canCd c) := by
  unfold canCd RelCd
  split
  · rename_i h; exact ⟨h.symm, fun e => (by rw [h] at e; cases e), fun e => (by rw [h] at e; cases e)⟩
  · rename_i h
    have h' : c.has = true := by cases hq : c.has with
      | true => rfl
      | false => exact absurd hq h
    split
    · rename_i h2; exact ⟨h'.symm, fun _ => ⟨h2.symm, rfl⟩, fun _ e => (by rw [h2] at e; cases e)⟩
    · rename_i h2
      have h2' : c.want = true := by cases hq : c.want with
        | true => rfl
        | false => exact absurd hq h2
      exact ⟨h'.symm, fun _ => ⟨h2'.symm, rfl⟩, fun _ _ => psame_canon2 _⟩
theorem relO_can (o : Pop) : RelO o (canO o) := by
  unfold canO RelO
  split
  · rename_i h
    refine ⟨rfl, rfl, fun _ => ⟨relCd_can _, by simp, fun k x z hx hz => ?_⟩, fun e => by omega⟩
    dsimp only at hz
    rw [List.getElem?_map, hx] at hz
    simp at hz
    rw [← hz]
    exact relCh_can x
  · split
    · rename_i h; exact ⟨rfl, rfl, fun e => by omega, fun _ => ⟨rfl, rfl⟩⟩
    · rename_i h1 h2; exact ⟨rfl, rfl, fun e => absurd e h1, fun e => absurd e h2⟩
theorem relM_can (P : Pcmd) (h : rCmd P = true) : RelM P (canM P) := by
  have hk : P.kind = 1 ∨ P.kind = 2 ∨ P.kind = 3 ∨ P.kind = 4 ∨ P.kind = 5 ∨ P.kind = 6 ∨ P.kind = 7 ∨ P.kind = 8 ∨ P.kind = 9 ∨ P.kind = 10 := by
    by_cases h1 : P.kind = 1 ∨ P.kind = 2 ∨ P.kind = 3 ∨ P.kind = 4 ∨ P.kind = 5 ∨ P.kind = 6 ∨ P.kind = 7 ∨ P.kind = 8 ∨ P.kind = 9 ∨ P.kind = 10
    · exact h1
    · unfold rCmd at h
      rw [if_neg (by omega), if_neg (by omega), if_neg (by omega), if_neg (by omega), if_neg (by omega), if_neg (by omega), if_neg (by omega)] at h
      simp at h
      omega
  unfold canM RelM
  rcases hk with e | e | e | e | e | e | e | e | e | e
  all_goals simp only [e]
  all_goals try (by_cases ha : P.act = 0)
  all_goals simp_all [relO_can]
theorem encX_oct (s : ByteArray) : ∀ z ∈ encX s, z < 256 := by
  intro z hz
  unfold encX at hz
  rcases List.mem_append.1 hz with h | h
  · exact mem_be h
  · exact zbs_oct _ z h
theorem cenc_oct {c : Pchg} (h : cRight c = 0) (hv : ∀ z ∈ c.v.bs, z < 256) : ∀ z ∈ cenc c, z < 256 := by
  intro z hz
  obtain ⟨hk, _, _⟩ := cRight_parts h
  unfold cenc at hz
  rcases List.mem_append.1 hz with h | h
  · simp at h; omega
  · split at h
    · simp at h
    · rcases List.mem_append.1 h with h | h
      · rcases List.mem_append.1 h with h | h
        · exact mem_be h
        · exact sbs_oct _ z h
      · split at h
        · simp at h
        · rcases List.mem_append.1 h with h | h
          · exact mem_be h
          · split at h
            · simp at h
            · exact penc_oct hv z h
theorem cdenc_oct {c : Pcd} (hv : ∀ z ∈ c.v.bs, z < 256) : ∀ z ∈ cdenc c.has c.want c.col c.v, z < 256 := by
  intro z hz
  unfold cdenc at hz
  split at hz
  · split at hz
    · simp only [List.mem_append] at hz
      rcases hz with ((h | h) | h) | h
      · simp at h; omega
      · exact mem_be h
      · exact sbs_oct _ z h
      · exact penc_oct hv z h
    · simp only [List.mem_append] at hz
      rcases hz with (h | h) | h
      · simp at h; omega
      · exact mem_be h
      · exact sbs_oct _ z h
  · simp at hz; omega
/-- The bytes of what a command holds are bytes. -/
def OctM (P : Pcmd) : Prop := (∀ z ∈ P.op.cd.v.bs, z < 256) ∧ (∀ c ∈ P.op.l, ∀ z ∈ c.v.bs, z < 256) ∧ (∀ z ∈ P.st, z < 256)
theorem cmdc_fit {w : World} {c : List Value} {P : Pcmd} (h : CmdC w c P) : FitO P.op ∧ OctM P := by
  obtain ⟨ca, cn, cc, la, ln, lc, sa, sn, sc, gs, _, ⟨_, _, _, _, _, _, hF, hO, _⟩, hL, _, _, hz⟩ := h
  have key : ∀ c ∈ P.op.l, Pl.Fits c.v.n ∧ ∀ z ∈ c.v.bs, z < 256 := by
    intro c hc
    obtain ⟨k, hk⟩ := List.getElem?_of_mem hc
    obtain ⟨_, _, _, _, _, _, _, _, _, _, _, _, ⟨_, _, _, _, _, _, h1, h2, _⟩⟩ := hL k c hk
    exact ⟨h1, h2⟩
  exact ⟨⟨hF, fun c hc => (key c hc).1⟩, hO, fun c hc => (key c hc).2, hz⟩
theorem encOp_oct {o : Pop} (h : rOp o = true) (h1 : ∀ z ∈ o.cd.v.bs, z < 256) (h2 : ∀ c ∈ o.l, ∀ z ∈ c.v.bs, z < 256) : ∀ z ∈ encOp o, z < 256 := by
  intro z hz
  unfold rOp at h
  unfold encOp at hz
  simp only [List.mem_append] at hz
  rcases hz with (hz | hz) | hz
  · simp at hz
    split at h
    · omega
    · split at h
      · omega
      · split at h
        · omega
        · simp at h
  · exact encX_oct _ z hz
  · split at hz
    · rename_i hk
      rw [if_neg (by omega), if_pos hk, Bool.and_eq_true] at h
      obtain ⟨_, hl⟩ := h
      unfold rChs at hl
      rw [Bool.and_eq_true, wi_iff] at hl
      obtain ⟨hl1, hl2⟩ := hl
      simp only [List.mem_append] at hz
      rcases hz with (hz | hz) | hz
      · exact cdenc_oct h1 z hz
      · simp at hz; omega
      · obtain ⟨l, hl, hz⟩ := List.mem_flatten.1 hz
        obtain ⟨c, hc, rfl⟩ := List.mem_map.1 hl
        have := List.all_eq_true.1 hl2 c hc
        unfold rCh at this
        exact cenc_oct (by simpa using this) (h2 c hc) z hz
    · split at hz
      · rename_i hk
        rw [if_neg (by omega), if_neg (by omega), if_pos hk, Bool.and_eq_true, wi_iff] at h
        simp only [List.mem_append] at hz
        rcases hz with hz | hz
        · exact encX_oct _ z hz
        · simp at hz; omega
      · simp at hz
theorem encTab_oct (P : Pcmd) : ∀ z ∈ encTab P, z < 256 := by
  intro z hz
  unfold encTab at hz
  simp only [List.mem_append] at hz
  rcases hz with (hz | hz) | hz
  · exact encX_oct _ z hz
  · exact encX_oct _ z hz
  · exact mem_be hz
theorem encCmd_oct {P : Pcmd} (h : rCmd P = true) (ho : OctM P) : ∀ z ∈ encCmd P, z < 256 := by
  intro z hz
  unfold rCmd at h
  unfold encCmd at hz
  rcases List.mem_append.1 hz with hz | hz
  · simp at hz
    by_cases hk : 1 ≤ P.kind ∧ P.kind ≤ 10
    · omega
    · rw [if_neg (by omega), if_neg (by omega), if_neg (by omega), if_neg (by omega), if_neg (by omega), if_neg (by omega), if_neg (by omega)] at h
      simp at h
      omega
  · unfold encCmdK at hz
    split at hz
    · rename_i hk
      rw [if_pos hk] at h
      exact encOp_oct h ho.1 ho.2.1 z hz
    · rename_i k1
      rw [if_neg k1] at h
      split at hz
      · exact encTab_oct P z hz
      · rename_i k2
        rw [if_neg k2] at h
        split at hz
        · simp only [List.mem_append] at hz
          rcases hz with hz | hz | hz
          · exact encTab_oct P z hz
          · exact mem_be hz
          · exact ho.2.2 z hz
        · rename_i k3
          rw [if_neg k3] at h
          split at hz
          · simp only [List.mem_append] at hz
            rcases hz with hz | hz
            · exact encTab_oct P z hz
            · exact encX_oct _ z hz
          · rename_i k5
            rw [if_neg k5] at h
            split at hz
            · exact encX_oct _ z hz
            · rename_i k7
              rw [if_neg k7] at h
              split at hz
              · rename_i k8
                rw [if_pos k8] at h
                unfold rPlan at h
                unfold encPlan at hz
                split at hz
                · simp at hz; omega
                · rename_i ka
                  rw [decide_eq_false ka, Bool.false_or, Bool.and_eq_true, Bool.and_eq_true, wi_iff, wi_iff] at h
                  simp only [List.mem_append] at hz
                  rcases hz with (hz | hz) | hz
                  · simp at hz; omega
                  · exact encX_oct _ z hz
                  · simp at hz; omega
              · rename_i k8
                rw [if_neg k8] at h
                split at hz
                · rename_i k9
                  rw [if_pos k9] at h
                  unfold rPub at h
                  rw [Bool.and_eq_true, Bool.or_eq_true, decide_eq_true_eq, decide_eq_true_eq] at h
                  simp only [List.mem_append] at hz
                  rcases hz with hz | hz
                  · exact mem_be hz
                  · simp at hz; omega
                · simp at hz
theorem encW_oct {k s : Nat} {b : List Nat} (hk : k ≤ 255) (hb : ∀ z ∈ b, z < 256) : ∀ z ∈ encW k s b, z < 256 := by
  intro z hz
  unfold encW at hz
  simp only [List.mem_append] at hz
  rcases hz with ((hz | hz) | hz) | hz
  · simp at hz; omega
  · exact mem_be hz
  · exact mem_be hz
  · exact hb z hz
theorem encW_len (k s : Nat) (b : List Nat) : (encW k s b).length = 9 + b.length := by
  unfold encW
  simp only [List.length_append, be_length, List.length_cons, List.length_nil]
  try omega
end Go.Proofs.YtcamhlnkcoicpaaGreat
