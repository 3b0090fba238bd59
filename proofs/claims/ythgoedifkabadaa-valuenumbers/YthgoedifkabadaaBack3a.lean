/-
  What ValueBack hands to Read does: of two values that were written it takes both, all of them, and nothing is left.
-/
import Derived.Test.YthgoedifkabadaaVal9
namespace Go.Proofs.Ythgoedifkabadaa
open Go.RowKit

/-- The number that is read of what was written. -/
def cn (A : Vm) : Nat := if A.kind = 2 then Pl.canon A.n else 0

theorem venc_dec {A : Vm} (hw : VWays A) (hf : Pl.Fits A.n) (rest : List Nat) : VDec (venc A ++ rest) A.kind A.bs (cn A) rest := by
  rcases hw with ⟨hk, _, hl⟩ | ⟨hk, hb⟩
  · have e : kd A.kind = 1 := by rw [hk]; decide
    have hc : cn A = 0 := by simp [cn, hk]
    rw [venc_text e, hc, hk]
    obtain ⟨t1, t2, _⟩ := take_of (bs := [1] ++ be 4 A.bs.length ++ A.bs ++ rest) (hd := [1]) (rest := be 4 A.bs.length ++ (A.bs ++ rest)) (n := 1) (by simp) rfl
    obtain ⟨u1, u2, u3⟩ := take_of (bs := be 4 A.bs.length ++ (A.bs ++ rest)) (hd := be 4 A.bs.length) (rest := A.bs ++ rest) (n := 4) rfl (be_length _ _)
    have hv : val (be 4 A.bs.length) = A.bs.length := val_be (by omega)
    refine ⟨by simp, .inl ⟨by rw [t1]; decide, ?_, rfl, ?_, rfl, ?_⟩⟩
    · rw [t2]
      unfold textOk
      rw [u1, u2, hv]
      exact ⟨u3, by omega, fun _ => by omega, by simp⟩
    · rw [t2, u2, u1, hv, List.take_left]
    · rw [t2, u2, u1, hv, List.drop_left]
  · have e : kd A.kind = 2 := by rw [hk]; decide
    have hc : cn A = Pl.canon A.n := by simp [cn, hk]
    rw [venc_num e, hc, hk, hb]
    obtain ⟨t1, t2, _⟩ := take_of (bs := [2] ++ be 8 (Pl.canon A.n) ++ rest) (hd := [2]) (rest := be 8 (Pl.canon A.n) ++ rest) (n := 1) (by simp) rfl
    obtain ⟨u1, u2, u3⟩ := take_of (bs := be 8 (Pl.canon A.n) ++ rest) (hd := be 8 (Pl.canon A.n)) (rest := rest) (n := 8) rfl (be_length _ _)
    have hcf := Pl.fits_canon hf
    have hv : val (be 8 (Pl.canon A.n)) = Pl.canon A.n := val_be (by unfold Pl.Fits at hcf; omega)
    refine ⟨by simp, .inr ⟨by rw [t1]; decide, ?_, rfl, rfl, ?_, ?_⟩⟩
    · rw [t2, u1, hv]
      exact ⟨u3, Pl.canon_canon _⟩
    · rw [t2, u1, hv]
    · rw [t2, u2]

/-- In that box lies such a value, its bytes in memory that is younger than w0. -/
def BoxHas (w0 w : World) (q : Nat) (k : Int) (tx : List Nat) (n : Nat) : Prop :=
  ∃ ad len cap, w.heap[q]? = some (.cells #[.int .i64 k, .slice ad len cap, .float .f64 n] 28 (0, 0)) ∧ Own w (.slice ad len cap) tx ∧ Fresh w0 (.slice ad len cap)
theorem BoxHas.moves {w0 w w' : World} {q : Nat} {k : Int} {tx : List Nat} {n : Nat} {S : List Nat} (h : BoxHas w0 w q k tx n) (m : Moves S w w') (hq : q ∉ S) (hS : ∀ x ∈ S, x < w0.heap.size) : BoxHas w0 w' q k tx n := by
  obtain ⟨ad, len, cap, h1, h2, h3⟩ := h
  refine ⟨ad, len, cap, m.at h1 hq, h2.moves m (fun j hj hx => ?_), h3⟩
  have := hS j hx
  have := h3 j hj
  omega

theorem BoxHas.elder {w0 w1 w : World} {q : Nat} {k : Int} {tx : List Nat} {n : Nat} (h : BoxHas w1 w q k tx n) (hle : w0.heap.size ≤ w1.heap.size) : BoxHas w0 w q k tx n := by
  obtain ⟨ad, len, cap, h1, h2, h3⟩ := h
  exact ⟨ad, len, cap, h1, h2, fun j hj => Nat.le_trans hle (h3 j hj)⟩

theorem stored_box {w0 w : World} {q : Nat} {x0 y0 z0 : Value} {k : Int} {ad : Option Addr} {len cap n : Nat} {tx : List Nat} (hp : w.heap[q]? = some (.cells #[x0, y0, z0] 28 (0, 0))) (ho : Own w (.slice ad len cap) tx) (hf : Fresh w0 (.slice ad len cap)) (hq : q < w0.heap.size) :
    BoxHas w0 (((w.setCell ⟨q, 0, none⟩ (.int .i64 k)).setCell ⟨q, 1, none⟩ (.slice ad len cap)).setCell ⟨q, 2, none⟩ (.float .f64 n)) q k tx n ∧ Moves [q] w (((w.setCell ⟨q, 0, none⟩ (.int .i64 k)).setCell ⟨q, 1, none⟩ (.slice ad len cap)).setCell ⟨q, 2, none⟩ (.float .f64 n)) := by
  have hm : Moves [q] w (((w.setCell ⟨q, 0, none⟩ (.int .i64 k)).setCell ⟨q, 1, none⟩ (.slice ad len cap)).setCell ⟨q, 2, none⟩ (.float .f64 n)) := ((moves_set _ _ _ _).then (moves_set _ _ _ _)).then (moves_set _ _ _ _)
  refine ⟨⟨ad, len, cap, heap_set (i := 2) (heap_set (i := 1) (heap_set (i := 0) hp _) _) _, ho.moves hm (fun j hj hx => ?_), hf⟩, hm⟩
  have := hf j hj
  simp at hx
  omega

set_option maxHeartbeats 4000000 in
theorem back1_w (p g qa qb : Nat) (P Q : Vm) (w : World) (hP : VWays P) (hQ : VWays Q) (fP : Pl.Fits P.n) (fQ : Pl.Fits Q.n) (oP : ∀ z ∈ P.bs, z < 256) (oQ : ∀ z ∈ Q.bs, z < 256) (h : RdIs w p g (venc P ++ venc Q) false)
    (ha : w.heap[qa]? = some (.cells #[.int .i64 0, .slice none 0 0, .float .f64 0] 28 (0, 0))) (hb : w.heap[qb]? = some (.cells #[.int .i64 0, .slice none 0 0, .float .f64 0] 28 (0, 0))) (hne : qa ≠ qb) (hpa : qa ≠ p) (hpb : qb ≠ p) (hga : g ≠ qa) (hgb : g ≠ qb) :
    Calls Try.prog 19 #[.pointer (some ⟨p, 0, none⟩), .pointer (some ⟨qa, 0, none⟩), .pointer (some ⟨qb, 0, none⟩)] w fun e w' => e = .returned (.tuple #[]) ∧ RdIs w' p g [] false ∧ BoxHas w w' qa P.kind P.bs (cn P) ∧ BoxHas w w' qb Q.kind Q.bs (cn Q) ∧ Moves [p, qa, qb] w w' := by
  have d1 := venc_dec hP fP (venc Q)
  have d2 := venc_dec hQ fQ []
  rw [List.append_nil] at d2
  have o2 := venc_oct oQ
  have o1 : ∀ z ∈ venc P ++ venc Q, z < 256 := fun z hz => by rcases List.mem_append.1 hz with h | h; exact venc_oct oP z h; exact o2 z h
  have la := lt_of_block ha
  have lb := lt_of_block hb
  have lp := h.ltp
  go_enter Try.func19, Try.ntmps19
  go_wp2_with (first | (go_at_call 20; have z := hr3; refine (vGet_ok _ g _ _ _ _ _ _ hr3 o2 d2).mono ?_; rintro _ w4 ⟨c4, rfl, hc4⟩; obtain ⟨k4, v4, g4, b4, n4⟩ := c4; obtain ⟨rfl, rfl, rfl, ho4, hf4, hi4, hr4, m4⟩ := hc4; simp only [Vm.val]; have hB4 := ho4.isB; obtain ⟨ad4, len4, cap4, rfl, _⟩ := hB4; have hb4 := m4.at hb3 (by simpa using hpb); have hA4 := st.1.moves m4 (by simpa using hpa) (by simpa using lp); obtain ⟨x0, x1, x2, y0, y1, y2⟩ := three_cells hb4; have hf4' : Fresh w (.slice ad4 len4 cap4) := (fun j hj => Nat.le_trans (Nat.le_trans m2.size st.2.size) (hf4 j hj)); have st4 := stored_box (k := Q.kind) (n := cn Q) hb4 ho4 hf4' lb) | (go_at_call 20; refine (vGet_ok _ g _ _ _ _ _ _ h o1 d1).mono ?_; rintro _ w2 ⟨c2, rfl, hc2⟩; obtain ⟨k2, v2, g2, b2, n2⟩ := c2; obtain ⟨rfl, rfl, rfl, ho2, hf2, hi2, hr2, m2⟩ := hc2; simp only [Vm.val]; have hB2 := ho2.isB; obtain ⟨ad2, len2, cap2, rfl, _⟩ := hB2; have ha2 := m2.at ha (by simpa using hpa); have hb2 := m2.at hb (by simpa using hpb); obtain ⟨x0, x1, x2, y0, y1, y2⟩ := three_cells ha2; have st := stored_box (k := P.kind) (n := cn P) ha2 ho2 hf2 la; have hr3 := hr2.moves st.2 (by simpa using Ne.symm hpa) (by simpa using hga); have hb3 := st.2.at hb2 (by simpa using Ne.symm hne)))
  go_end0
  refine ⟨rfl, hr4.moves st4.2 (by simpa using Ne.symm hpb) (by simpa using hgb), hA4.moves st4.2 (by simpa using hne) (by simpa using lb), st4.1, ?_⟩
  exact (((m2.mono (by simp)).then (st.2.mono (by simp))).then (m4.mono (by simp))).then (st4.2.mono (by simp))

/-- What Read does with it: both boxes hold what was written. -/
theorem back_read (v : Value) (qa qb : Nat) (P Q : Vm) (w : World) (hP : VWays P) (hQ : VWays Q) (fP : Pl.Fits P.n) (fQ : Pl.Fits Q.n) (oP : ∀ z ∈ P.bs, z < 256) (oQ : ∀ z ∈ Q.bs, z < 256) (hv : Own w v (venc P ++ venc Q))
    (ha : w.heap[qa]? = some (.cells #[.int .i64 0, .slice none 0 0, .float .f64 0] 28 (0, 0))) (hb : w.heap[qb]? = some (.cells #[.int .i64 0, .slice none 0 0, .float .f64 0] 28 (0, 0))) (hne : qa ≠ qb) :
    Calls Try.prog 17 #[v, .func (.func 19) #[] #[.pointer (some ⟨qa, 0, none⟩), .pointer (some ⟨qb, 0, none⟩)]] w fun e w' => e = .returned (.bool true) ∧ BoxHas w w' qa P.kind P.bs (cn P) ∧ BoxHas w w' qb Q.kind Q.bs (cn Q) ∧ Moves [qa, qb] w w' := by
  have la := lt_of_block ha
  have lb := lt_of_block hb
  have hpos : venc P ++ venc Q ≠ [] := by
    have := (venc_dec hP fP (venc Q)).1
    intro e
    rw [e] at this
    simp at this
  have hB := hv.isB
  obtain ⟨g, hgd⟩ : ∃ g, g = v.ownBlock.getD 0 := ⟨_, rfl⟩
  rw [← hgd] at hB
  have hgl := hB.lt hpos
  have hga : g ≠ qa := by
    intro e
    have hx := hv.ne ha (by decide)
    cases hq : v.ownBlock with
    | none =>
      rcases hv.2 with ⟨_, h0⟩ | ⟨gg, cap, cur, rfl, _⟩
      · exact hpos (List.eq_nil_of_length_eq_zero h0)
      · simp [Value.ownBlock] at hq
    | some k => rw [hq] at hgd hx; simp at hgd; subst hgd; subst e; exact hx rfl
  have hgb : g ≠ qb := by
    intro e
    have hx := hv.ne hb (by decide)
    cases hq : v.ownBlock with
    | none =>
      rcases hv.2 with ⟨_, h0⟩ | ⟨gg, cap, cur, rfl, _⟩
      · exact hpos (List.eq_nil_of_length_eq_zero h0)
      · simp [Value.ownBlock] at hq
    | some k => rw [hq] at hgd hx; simp at hgd; subst hgd; subst e; exact hx rfl
  refine (read_ret 19 #[.pointer (some ⟨qa, 0, none⟩), .pointer (some ⟨qb, 0, none⟩)] v g (venc P ++ venc Q) [] w hB (by omega) (fun w2 => ∃ w1 : World, w.heap.size < w1.heap.size ∧ BoxHas w1 w2 qa P.kind P.bs (cn P) ∧ BoxHas w1 w2 qb Q.kind Q.bs (cn Q) ∧ Moves [qa, qb] w w2) (fun _ _ => rfl) ?_).mono ?_
  · intro w1 hbg hm
    refine (back1_w w.heap.size g qa qb P Q w1 hP hQ fP fQ oP oQ hbg.1 (hm.at ha (by simp)) (hm.at hb (by simp)) hne (by omega) (by omega) hga hgb).mono ?_
    rintro _ w2 ⟨rfl, hr, h1, h2, m⟩
    refine ⟨rfl, ⟨hr, m.at hbg.2 (by simp; omega)⟩, w1, hbg.1.ltp, h1, h2, ?_⟩
    exact (hm.mono (by simp)).trans m (fun x hx => by
        simp at hx
        rcases hx with rfl | rfl | rfl
        · exact .inr (Nat.le_refl _)
        · exact .inl (by simp)
        · exact .inl (by simp))
  · rintro _ w' ⟨rfl, w2, ⟨w1, hlt, h1, h2, m⟩, m2⟩
    refine ⟨rfl, (h1.moves m2 (by simp; omega) (by simpa using hlt)).elder (by omega), (h2.moves m2 (by simp; omega) (by simpa using hlt)).elder (by omega), m.trans m2 (fun x hx => .inr (by simp at hx; omega))⟩
end Go.Proofs.Ythgoedifkabadaa
