/-
  The law's own list of values: its literal, whichever order its operations take; then the nine that are drawn.
-/
import Derived.Test.YthgoedifkabadaaSome1
namespace Go.Proofs.Ythgoedifkabadaa
open Go.RowKit

/-- What each operation of the literal leaves. -/
def SF (W : World) : Nat → World → Value → Prop
  | 3 => Raw W [97]
  | 4 => BGood
  | 6 => Raw W [97, 98]
  | 7 => BGood
  | 9 => BGood
  | 11 => BGood
  | 13 => LGood W 7
  | 14 => LGood W 7
  | _ => VGood
theorem SF.kept {W w w' : World} (k : Kept W w w') (i : Nat) {v : Value} (h : SF W i w v) : SF W i w' v := by
  unfold SF at h ⊢
  split at h <;> first | exact Raw.kept k h | exact BGood.kept k h | exact LGood.kept k h | exact VGood.kept k h

theorem wp_build' {P : Program} {o : Oper} {a : Act} {w : World} {K : Act → World → Prop} {Q : Exit → Act → World → Prop} (t : TypeId) (parts : Array (Nat × Operand)) (ho : o.op = .build t parts) (ps : List (Nat × Value)) (cells : Array Value)
    (hp : (parts.map fun (i, x) => (i, a.eval x)).toList = ps) (hc : P.built t ps = some cells) (h : K (a.put o.dst (.agg cells)) w) : o.wp P a w K Q := by
  have hc' : P.built t (parts.map fun (i, x) => (i, a.eval x)).toList = some cells := by rw [hp]; exact hc
  refine wp_build t parts ho (by rw [hc']; rfl) ?_
  rw [hc']
  exact h
theorem wp_buildSlice' {P : Program} {o : Oper} {a : Act} {w : World} {K : Act → World → Prop} {Q : Exit → Act → World → Prop} (t e : TypeId) (len : Nat) (parts : Array (Nat × Operand)) (ho : o.op = .buildSlice t len parts) (ps : List (Nat × Value)) (cells : Array Value) (z : Value) (size bytes : Nat)
    (hinfo : (P.info? e).map (fun i => (i.zero, i.size, i.bytes)) = some (some z, size, bytes)) (hu : P.underlying t = some (.slice e)) (hsmall : ¬ len * size > 2 ^ 24) (hpos : ¬ len * size = 0)
    (hp : (parts.map fun (i, x) => (i, a.eval x)).toList = ps) (hc : Instr.fill (fun i => some (i * size, size)) ((Array.range (len * size)).map (z.cells[· % z.cells.size]!)) ps = some cells)
    (h : K (a.put o.dst (.slice (some ⟨w.heap.size, 0, none⟩) len len)) (w.alloc (.cells cells e))) : o.wp P a w K Q := by
  obtain ⟨i0, hi, hz0, hz1, hz2⟩ := info_parts hinfo
  subst hz1
  exact wp_buildSlice t e len parts ho cells i0 z hu hi hz0 hsmall hpos (by rw [hp]; exact hc) h
theorem wp_convert1 {P : Program} {o : Oper} {a : Act} {w w' : World} {K : Act → World → Prop} {Q : Exit → Act → World → Prop} (t u : TypeId) (s : Nat) (ho : o.op = .convert t u (.tmp s)) (v v' : Value) (hs : a.tmps.getD s undef = v) (hr : (convert t u v).run P w = .ok v' w') (h : K (a.put o.dst v') w') : o.wp P a w K Q := by
  unfold Oper.wp execOp
  have e : a.eval (.tmp s) = v := hs
  simp only [ho, e, Sem.run_bind, hr, Result.andThen_ok]
  exact h
theorem wp_assign1 {P : Program} {o : Oper} {a : Act} {w : World} {K : Act → World → Prop} {Q : Exit → Act → World → Prop} (s : Nat) (ho : o.op = .assign (.tmp s)) (v : Value) (hs : a.tmps.getD s undef = v) (h : K (a.put o.dst v) w) : o.wp P a w K Q := by
  unfold Oper.wp execOp
  have e : a.eval (.tmp s) = v := hs
  simp only [ho, e]
  exact h

theorem val_info : (Try.prog.info? 28).map (fun i => (i.zero, i.size, i.bytes)) = some (some (.agg #[.int .i64 0, .slice none 0 0, .float .f64 0]), 3, 40) := by kernel_rfl
theorem fits_half : Pl.Fits 4602678819172646912 := by unfold Pl.Fits; omega
theorem seven_fill (k0 k1 k2 k3 k4 k5 k6 : Int) (s0 s1 s2 s3 s4 s5 s6 : Value) (x0 x1 x2 x3 x4 x5 x6 : Nat) : Instr.fill (fun i => some (i * 3, 3)) ((Array.range (7 * 3)).map ((Value.agg #[.int .i64 0, .slice none 0 0, .float .f64 0]).cells[· % (Value.agg #[.int .i64 0, .slice none 0 0, .float .f64 0]).cells.size]!))
    [(0, .agg #[.int .i64 k0, s0, .float .f64 x0]), (1, .agg #[.int .i64 k1, s1, .float .f64 x1]), (2, .agg #[.int .i64 k2, s2, .float .f64 x2]), (3, .agg #[.int .i64 k3, s3, .float .f64 x3]), (4, .agg #[.int .i64 k4, s4, .float .f64 x4]), (5, .agg #[.int .i64 k5, s5, .float .f64 x5]), (6, .agg #[.int .i64 k6, s6, .float .f64 x6])]
    = some #[.int .i64 k0, s0, .float .f64 x0, .int .i64 k1, s1, .float .f64 x1, .int .i64 k2, s2, .float .f64 x2, .int .i64 k3, s3, .float .f64 x3, .int .i64 k4, s4, .float .f64 x4, .int .i64 k5, s5, .float .f64 x5, .int .i64 k6, s6, .float .f64 x6] := by kernel_rfl

/-- The same, the frame that is left written out. -/
theorem region_ssaQ {P : Program} {ops : Array Oper} {Q : Exit → Act → World → Prop} {id : Nat} {a0 : Act} {W : World} (hm : P.follows .mixedOrders = true) (d : Nat → Nat) (sl : List Nat) (F : Nat → World → Value → Prop) (R : World → World → Prop)
    (ok : follows_ok ops = true) (hd : ∀ i, i < ops.size → d i < a0.tmps.size) (inj : ∀ i j, i < ops.size → j < ops.size → i ≠ j → d i ≠ d j) (hsl : ∀ i, i < ops.size → d i ∈ sl)
    (hR0 : R W W.drew) (hRt : ∀ a b c, R a b → R b c → R a c) (hmono : ∀ i u u' v, F i u v → R u u' → F i u' v)
    (hstep : ∀ i, i < ops.size → ∀ a w, R W w → a.tmps.size = a0.tmps.size → (∀ s, (∀ k, k < ops.size → s ≠ d k) → a.tmps.getD s undef = a0.tmps.getD s undef) → (∀ k, k < ops.size → waits ops i k = true → F k w (a.tmps.getD (d k) undef)) → ∀ K : Act → World → Prop, (∀ v w', F i w' v → R w w' → K (a.put (some (d i)) v) w') → wpOp P ops Q i K a w)
    (hQ : ∀ (u : Nat → Value) w, (∀ k, k < ops.size → F k w (u (d k))) → R W w → Q .normal { tmps := sl.foldl (fun t s => t.setIfInBounds s (u s)) a0.tmps, defers := a0.defers } w) :
    (Code.region id ops true).wp P Q a0 W := by
  refine region_ssa hm d F R ok hd inj hR0 hRt hmono hstep ?_
  intro a w hsz hdf hold hall hR
  have e := tmps_sets hsz sl (fun s hs => hold s (fun k hk he => hs (by rw [he]; exact hsl k hk)))
  have key := hQ (fun s => a.tmps.getD s undef) w hall hR
  try dsimp only at key
  rw [← e, ← hdf] at key
  exact key
end Go.Proofs.Ythgoedifkabadaa
