/-
  Am6, SsaL: our texts of these names, laid into one.
-/
import Derived.Test.YtcamhlnkcoicpaaGreatCB22
import Derived.Test.YtcamhlnkcoicpaaGreatCB14
import Derived.Test.YtcamhlnkcoicpaaGreatCB16
/-
  What was written of an answer is read as itself; beginnings of it are not read.
-/
namespace Go.Proofs.YtcamhlnkcoicpaaGreat
open Go.RowKit

theorem dText_enc {most : Nat} (hm : most ≤ 1048576) (tx r : List Nat) (h : tx.length ≤ most) : dText most (be 4 tx.length ++ (tx ++ r)) = some (tx, r) := by
  obtain ⟨e1, e2, e3⟩ := take_of (bs := be 4 tx.length ++ (tx ++ r)) rfl (be_length 4 _)
  have hv : val (be 4 tx.length) = tx.length := val_be (by omega)
  have hok : textB (be 4 tx.length ++ (tx ++ r)) most = true := by
    unfold textB
    rw [e1, e2, hv]
    simp only [Bool.and_eq_true, decide_eq_true_eq, List.length_append]
    rw [be_length]
    omega
  unfold dText
  rw [if_pos hok, e1, e2, hv]
  simp
theorem dText_str (s : ByteArray) (r : List Nat) (h : s.size ≤ 16) : dText 16 (be 4 s.size ++ (zbs s ++ r)) = some (zbs s, r) := by
  have e : (zbs s).length = s.size := by rw [← sbs_zbs]; exact sbs_length s
  have q := dText_enc (most := 16) (by omega) (zbs s) r (by rw [e]; exact h)
  rw [e] at q
  exact q
theorem iter_enc {α : Type} {f : List Nat → Option (α × List Nat)} (enc : α → List Nat) (can : α → α) : ∀ (n : Nat) (xs : List α) (_ : xs.length = n) (_ : ∀ x ∈ xs, ∀ r, f (enc x ++ r) = some (can x, r)) (r : List Nat), iter f n ((xs.map enc).flatten ++ r) = some (xs.map can, r)
  | 0, xs, hn, _, r => by
    obtain rfl := List.eq_nil_of_length_eq_zero hn
    rfl
  | n + 1, xs, hn, h, r => by
    obtain ⟨ys, y, rfl⟩ : ∃ ys y, xs = ys ++ [y] := by
      have hne : xs ≠ [] := by intro e; rw [e] at hn; simp at hn
      exact ⟨xs.dropLast, xs.getLast hne, (List.dropLast_concat_getLast hne).symm⟩
    have hl : ys.length = n := by simpa using hn
    have q := iter_enc (f := f) enc can n ys hl (fun x hx => h x (by simp [hx])) (enc y ++ r)
    have e : ((ys ++ [y]).map enc).flatten ++ r = (ys.map enc).flatten ++ (enc y ++ r) := by simp
    rw [e, List.map_append]
    exact iter_step q (h y (by simp) r)
theorem dVal_enc {p : Pv} (h : pvr p = true) (hf : Pl.Fits p.n) (r : List Nat) : dVal (penc p ++ r) = some (pcanon p, r) := by
  have hv : (p.kind = 1 ∧ p.bs.length ≤ 16) ∨ p.kind = 2 := by
    unfold pvr vright Pv.vm at h
    simpa using h
  rcases hv with ⟨hk, hl⟩ | hk
  · have ek : kd p.kind = 1 := by rw [hk]; rfl
    have ep : penc p = [1] ++ be 4 p.bs.length ++ p.bs := venc_text (A := p.vm (.slice none 0 0) 0) ek
    have ec : pcanon p = ⟨1, p.bs, 0⟩ := by unfold pcanon; rw [ek]; rfl
    have e0 : penc p ++ r = [1] ++ (be 4 p.bs.length ++ (p.bs ++ r)) := by rw [ep]; simp
    obtain ⟨e1, e2, e3⟩ := take_of (bs := penc p ++ r) e0 (n := 1) rfl
    have hd := dText_enc (most := 16) (by omega) p.bs r hl
    obtain ⟨q1, q2, q3⟩ := dText_yes hd
    unfold dVal
    have c1 : (decide (1 ≤ (penc p ++ r).length) && decide (val ((penc p ++ r).take 1) = 1) && textB ((penc p ++ r).drop 1) 16) = true := by
      rw [e1, e2, textB_iff.2 q1]
      simp only [Bool.and_eq_true, decide_eq_true_eq]
      exact ⟨⟨e3, rfl⟩, trivial⟩
    rw [if_pos c1, e2, q2, q3, ec]
  · have ek : kd p.kind = 2 := by rw [hk]; rfl
    have ep : penc p = [2] ++ be 8 (Pl.canon p.n) := venc_num (A := p.vm (.slice none 0 0) 0) ek
    have ec : pcanon p = ⟨2, [], Pl.canon p.n⟩ := by unfold pcanon; rw [ek]; rfl
    have e0 : penc p ++ r = [2] ++ (be 8 (Pl.canon p.n) ++ r) := by rw [ep]; simp
    obtain ⟨e1, e2, e3⟩ := take_of (bs := penc p ++ r) e0 (n := 1) rfl
    obtain ⟨f1, f2, f3⟩ := take_of (bs := be 8 (Pl.canon p.n) ++ r) rfl (be_length 8 _)
    have hv8 : val (be 8 (Pl.canon p.n)) = Pl.canon p.n := val_be (Pl.canon_fits_lt hf)
    unfold dVal
    have c1 : ¬ (decide (1 ≤ (penc p ++ r).length) && decide (val ((penc p ++ r).take 1) = 1) && textB ((penc p ++ r).drop 1) 16) = true := by
      rw [e1]
      have : val [2] = 2 := rfl
      rw [this]
      simp
    have c2 : (decide (1 ≤ (penc p ++ r).length) && decide (val ((penc p ++ r).take 1) = 2) && (decide (8 ≤ ((penc p ++ r).drop 1).length) && decide (Pl.canon (val (((penc p ++ r).drop 1).take 8)) = val (((penc p ++ r).drop 1).take 8)))) = true := by
      rw [e1, e2, f1, hv8, Pl.canon_canon]
      simp only [Bool.and_eq_true, decide_eq_true_eq]
      exact ⟨⟨e3, rfl⟩, f3, trivial⟩
    rw [if_neg c1, if_pos c2, e2, f1, f2, hv8, ec]
theorem dSpan_enc {lo hi : ByteArray} (h : spR ⟨lo, hi⟩ = true) (h1 : lo.size ≤ 16) (h2 : hi.size ≤ 16) (r : List Nat) : dSpan (encX lo ++ (encX hi ++ r)) = some (⟨lo, hi⟩, r) := by
  have e0 : encX lo ++ (encX hi ++ r) = be 4 lo.size ++ (zbs lo ++ (be 4 hi.size ++ (zbs hi ++ r))) := by unfold encX; simp
  rw [e0]
  unfold dSpan
  rw [pbn_some (dText_str lo _ h1), pbn_some (dText_str hi _ h2)]
  simp only [zbs_back]
  rw [if_pos h]
theorem spR_size {lo hi : ByteArray} (h : spR ⟨lo, hi⟩ = true) : lo.size ≤ 16 ∧ hi.size ≤ 16 := by
  unfold spR spE at h
  simp at h
  exact h.1
end Go.Proofs.YtcamhlnkcoicpaaGreat
/-
  A drawn region each of whose operations writes a slot of its own, but the last, which waits for all the others: what it does is told of by itself.
-/
namespace Go.Proofs.YtcamhlnkcoicpaaGreat
open Go.RowKit

theorem region_ssaL {P : Program} {ops : Array Oper} {Q : Exit → Act → World → Prop} {id : Nat} {a0 : Act} {W : World} (hm : P.follows .mixedOrders = true) (n : Nat) (d : Nat → Nat) (sl : List Nat) (F : Nat → World → Value → Prop) (R : World → World → Prop)
    (hn : ops.size = n + 1) (ok : follows_ok ops = true) (hlast : (List.range n).all (fun k => waits ops n k) = true) (hd : ∀ i, i < n → d i < a0.tmps.size) (inj : ∀ i j, i < n → j < n → i ≠ j → d i ≠ d j) (hsl : ∀ i, i < n → d i ∈ sl)
    (hR0 : R W W.drew) (hRt : ∀ a b c, R a b → R b c → R a c) (hmono : ∀ i u u' v, F i u v → R u u' → F i u' v)
    (hstep : ∀ i, i < n → ∀ a w, R W w → a.tmps.size = a0.tmps.size → (∀ s, (∀ k, k < n → s ≠ d k) → a.tmps.getD s undef = a0.tmps.getD s undef) → (∀ k, k < n → waits ops i k = true → F k w (a.tmps.getD (d k) undef)) → ∀ K : Act → World → Prop, (∀ v w', F i w' v → R w w' → K (a.put (some (d i)) v) w') → wpOp P ops Q i K a w)
    (hfin : ∀ (u : Nat → Value) w, (∀ k, k < n → F k w (u (d k))) → R W w → wpOp P ops Q n (fun a w => Q .normal a w) { tmps := sl.foldl (fun t s => t.setIfInBounds s (u s)) a0.tmps, defers := a0.defers } w) :
    (Code.region id ops true).wp P Q a0 W := by
  have hl : ∀ k, k < n → waits ops n k = true := fun k hk => by
    rw [List.all_eq_true] at hlast
    exact hlast k (by simp [hk])
  have nup : ∀ {l : Array Bool} {i k : Nat}, ¬ up l k → k ≠ i → ¬ up (l.setIfInBounds i true) k := fun h hne hu => h (up_of hu hne)
  refine wp_region_inv hm (fun l a w => l.size = ops.size ∧ ((¬ up l n ∧ a.tmps.size = a0.tmps.size ∧ a.defers = a0.defers ∧ (∀ s, (∀ k, k < n → s ≠ d k) → a.tmps.getD s undef = a0.tmps.getD s undef) ∧ R W w ∧ ∀ k, k < n → up l k → F k w (a.tmps.getD (d k) undef)) ∨ ((∀ k, k < ops.size → up l k) ∧ Q .normal a w))) ?_ ?_ ?_
  · refine ⟨by simp, .inl ⟨fun hu => ?_, rfl, rfl, fun _ _ => rfl, hR0, fun k hk hu => ?_⟩⟩
    · unfold up at hu
      simp [hn] at hu
    · unfold up at hu
      simp [show k < ops.size by omega] at hu
  · rintro l a w ⟨h1, ⟨h0, h2, h3, h4, h5, h6⟩ | ⟨h2, _⟩⟩ i hi
    · have hun := ready_un hi
      have hlt : i < ops.size := by
        have := (Array.getElem?_eq_some_iff.1 hun).1
        omega
      by_cases hin : i = n
      · subst hin
        have hall : ∀ k, k < i → up l k := fun k hk => waits_up (hl k hk) hi
        have e := tmps_sets h2 sl (fun s hs => h4 s (fun k hk he => hs (by rw [he]; exact hsl k hk)))
        have key := hfin (fun s => a.tmps.getD s undef) w (fun k hk => h6 k hk (hall k hk)) h5
        try dsimp only at key
        rw [← e, ← h3] at key
        refine wpOp_mono (fun a' w' hQ => ⟨by simpa using h1, .inr ⟨fun k hk => ?_, hQ⟩⟩) key
        by_cases e2 : k = i
        · subst e2
          unfold up
          rw [Array.getElem?_setIfInBounds_self_of_lt (by omega)]
        · exact up_mono (hall k (by omega))
      · have hlt' : i < n := by omega
        refine hstep i hlt' a w h5 h2 h4 (fun k hk hw2 => h6 k hk (waits_up hw2 hi)) _ ?_
        intro v w' hv hR
        refine ⟨by simpa using h1, .inl ⟨nup h0 (by omega), by rw [size_put]; exact h2, by rw [defers_put]; exact h3, fun s hs => ?_, hRt _ _ _ h5 hR, fun k hk hu => ?_⟩⟩
        · rw [getD_put (hs i hlt')]
          exact h4 s hs
        · by_cases e : k = i
          · subst e
            rw [getD_put_self (by rw [h2]; exact hd k hk)]
            exact hv
          · rw [getD_put (inj k i hk hlt' e)]
            exact hmono k w w' _ (h6 k hk (up_of hu e)) hR
    · have hun := ready_un hi
      have hlt : i < ops.size := by
        have := (Array.getElem?_eq_some_iff.1 hun).1
        omega
      have := h2 i hlt
      unfold up at this
      rw [hun] at this
      simp at this
  · rintro l a w ⟨h1, ⟨h0, _⟩ | ⟨_, h2⟩⟩ hr
    · exact absurd (all_up ok h1 hr n (by omega)) h0
    · exact h2
end Go.Proofs.YtcamhlnkcoicpaaGreat
