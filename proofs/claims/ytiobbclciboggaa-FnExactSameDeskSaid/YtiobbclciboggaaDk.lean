/- Desks: how they read; desks that read alike are equal. -/
import Derived.Test.YtiobbclciboggaaRws
import Derived.Test.YtiobbclciboggaaJobH
namespace Go.Proofs.Ytiobbclciboggaa
open Go.RowKit Go.ChangeShapes Go.WideShapes

structure Dk where
  rows : Rw
  sizes : List Int
  jobs : List Ac
  ways : List Int
def Dk.size (D : Dk) : Nat := D.rows.size + D.sizes.length + 4 * D.jobs.length + D.ways.length
/-- How much of a desk comes in, as the laws count it. -/
def Dk.sz (D : Dk) : Nat := D.rows.size + D.sizes.length + D.jobs.length + D.ways.length
/-- A value that reads as a desk. -/
def DkV (w : World) (v : Value) (D : Dk) : Prop := ∃ s1 s2 s3 z j y, v = .agg #[.int .i64 D.rows.vars, s1, s2, s3, z, j, y] ∧ SL w s1 D.rows.N ∧ SL w s2 D.rows.B ∧ SL w s3 D.rows.G ∧ IL w z D.sizes ∧ AV w j D.jobs ∧ IL w y D.ways
/-- .. and lies in blocks from lo on, below hi, its lists in different ones. -/
def DkD (lo hi : Nat) (w : World) (v : Value) (D : Dk) : Prop := ∃ s1 s2 s3 z j y, ∃ a b c d e : Nat, (lo ≤ a ∧ a ≤ b ∧ b ≤ c ∧ c ≤ d ∧ d ≤ e ∧ e ≤ hi) ∧ v = .agg #[.int .i64 D.rows.vars, s1, s2, s3, z, j, y] ∧
  FI lo a w s1 D.rows.N ∧ FI a b w s2 D.rows.B ∧ FI b c w s3 D.rows.G ∧ II c d w z D.sizes ∧ AI d e w j D.jobs ∧ II e hi w y D.ways
theorem DkV.below {w w' : World} {v : Value} {D : Dk} (h : DkV w v D) {B : Nat} (hb : Below B w w') (hB : w.heap.size ≤ B) : DkV w' v D := by
  obtain ⟨s1, s2, s3, z, j, y, e, h1, h2, h3, h4, h5, h6⟩ := h
  exact ⟨s1, s2, s3, z, j, y, e, h1.below hb hB, h2.below hb hB, h3.below hb hB, h4.below hb hB, h5.below hb hB, h6.below hb hB⟩
theorem DkD.dkv {lo hi : Nat} {w : World} {v : Value} {D : Dk} (h : DkD lo hi w v D) : DkV w v D := by
  obtain ⟨s1, s2, s3, z, j, y, a, b, c, d, e, -, rfl, h1, h2, h3, h4, h5, h6⟩ := h
  exact ⟨s1, s2, s3, z, j, y, rfl, h1.vl, h2.vl, h3.vl, h4.vl, h5.av, h6.vl⟩
theorem DkD.below {lo hi : Nat} {w w' : World} {v : Value} {D : Dk} (h : DkD lo hi w v D) {B : Nat} (hb : Below B w w') (hB : w.heap.size ≤ B) : DkD lo hi w' v D := by
  obtain ⟨s1, s2, s3, z, j, y, a, b, c, d, e, l, ev, h1, h2, h3, h4, h5, h6⟩ := h
  exact ⟨s1, s2, s3, z, j, y, a, b, c, d, e, l, ev, SI.below h1 hb hB, SI.below h2 hb hB, SI.below h3 hb hB, SI.below h4 hb hB, h5.below' hb hB, SI.below h6 hb hB⟩
theorem DkD.kept {lo hi lo2 hi2 : Nat} {w w' : World} {v : Value} {D : Dk} (h : DkD lo hi w v D) (ht : Turned lo2 hi2 w w') (hs : hi ≤ lo2 ∨ hi2 ≤ lo) : DkD lo hi w' v D := by
  obtain ⟨s1, s2, s3, z, j, y, a, b, c, d, e, l, ev, h1, h2, h3, h4, h5, h6⟩ := h
  obtain ⟨l1, l2, l3, l4, l5, l6⟩ := l
  exact ⟨s1, s2, s3, z, j, y, a, b, c, d, e, ⟨l1, l2, l3, l4, l5, l6⟩, ev, SI.kept h1 ht (by omega), SI.kept h2 ht (by omega), SI.kept h3 ht (by omega), SI.kept h4 ht (by omega), h5.kept' ht (by omega), SI.kept h6 ht (by omega)⟩
/-- Seven cells. -/
structure Box7 (w : World) (g : Nat) (a b c d e f h : Value) : Prop where
  c0 : w.cell? ⟨g, 0, none⟩ = some a
  c1 : w.cell? ⟨g, 1, none⟩ = some b
  c2 : w.cell? ⟨g, 2, none⟩ = some c
  c3 : w.cell? ⟨g, 3, none⟩ = some d
  c4 : w.cell? ⟨g, 4, none⟩ = some e
  c5 : w.cell? ⟨g, 5, none⟩ = some f
  c6 : w.cell? ⟨g, 6, none⟩ = some h
theorem Box7.keep {B : Nat} {w w' : World} {g : Nat} {a b c d e f h : Value} (x : Box7 w g a b c d e f h) (hb : Below B w w') (hg : g < B) : Box7 w' g a b c d e f h :=
  ⟨keep_cell x.c0 hb hg, keep_cell x.c1 hb hg, keep_cell x.c2 hb hg, keep_cell x.c3 hb hg, keep_cell x.c4 hb hg, keep_cell x.c5 hb hg, keep_cell x.c6 hb hg⟩
theorem Box7.kept {lo hi : Nat} {w w' : World} {g : Nat} {a b c d e f h : Value} (x : Box7 w g a b c d e f h) (ht : Turned lo hi w w') (hg : g < lo ∨ hi ≤ g) : Box7 w' g a b c d e f h :=
  ⟨keep_cell' x.c0 ht hg, keep_cell' x.c1 ht hg, keep_cell' x.c2 ht hg, keep_cell' x.c3 ht hg, keep_cell' x.c4 ht hg, keep_cell' x.c5 ht hg, keep_cell' x.c6 ht hg⟩
theorem Box7.mk' (w : World) (a b c d e f h : Value) (T : TypeId) : Box7 (w.alloc (.cells #[a, b, c, d, e, f, h] T)) w.heap.size a b c d e f h :=
  ⟨World.cell?_alloc_new _ _ _ _, World.cell?_alloc_new _ _ _ _, World.cell?_alloc_new _ _ _ _, World.cell?_alloc_new _ _ _ _, World.cell?_alloc_new _ _ _ _, World.cell?_alloc_new _ _ _ _, World.cell?_alloc_new _ _ _ _⟩
theorem Box7.lt {w : World} {g : Nat} {a b c d e f h : Value} (x : Box7 w g a b c d e f h) : g < w.heap.size := cell_block x.c0
set_option maxHeartbeats 2000000 in
theorem eqDesk_any (v u : Value) (D : Dk) (w : World) (o : D.sz ≤ 1048576) (hv : DkV w v D) (hu : DkV w u D) :
    Calls Try.prog 47 #[v, u] w (Says true w) := by
  obtain ⟨s1, s2, s3, z, j, y, rfl, g1, g2, g3, g4, g5, g6⟩ := hv
  obtain ⟨t1, t2, t3, z', j', y', rfl, k1, k2, k3, k4, k5, k6⟩ := hu
  have n1 : D.rows.size ≤ 1048576 := by unfold Dk.sz at o; omega
  have n2 : D.sizes.length ≤ 1048576 := by unfold Dk.sz at o; omega
  have n3 : D.jobs.length ≤ 1048576 := by unfold Dk.sz at o; omega
  have n4 : D.ways.length ≤ 1048576 := by unfold Dk.sz at o; omega
  have G0 : Hid (∀ W, Below w.heap.size w W → RV W (.agg #[.int .i64 D.rows.vars, s1, s2, s3]) D.rows ∧ RV W (.agg #[.int .i64 D.rows.vars, t1, t2, t3]) D.rows) := Lib.hid fun W h =>
    ⟨⟨s1, s2, s3, rfl, g1.below h (Nat.le_refl _), g2.below h (Nat.le_refl _), g3.below h (Nat.le_refl _)⟩, ⟨t1, t2, t3, rfl, k1.below h (Nat.le_refl _), k2.below h (Nat.le_refl _), k3.below h (Nat.le_refl _)⟩⟩
  have G4 : Hid (∀ W, Below w.heap.size w W → IL W z D.sizes ∧ IL W z' D.sizes) := Lib.hid fun W h => ⟨g4.below h (Nat.le_refl _), k4.below h (Nat.le_refl _)⟩
  have G5 : Hid (∀ W, Below w.heap.size w W → AV W j D.jobs ∧ AV W j' D.jobs) := Lib.hid fun W h => ⟨g5.below h (Nat.le_refl _), k5.below h (Nat.le_refl _)⟩
  have G6 : Hid (∀ W, Below w.heap.size w W → IL W y D.ways ∧ IL W y' D.ways) := Lib.hid fun W h => ⟨g6.below h (Nat.le_refl _), k6.below h (Nat.le_refl _)⟩
  have HB0 := Lib.hid (fun A B => (below_alloc w A).alloc (by simp) B)
  have X0 := Lib.hid (fun B => (Box7.mk' w (.int .i64 D.rows.vars) s1 s2 s3 z j y 56).keep (below_alloc _ B) (by simp))
  have Y0 : Hid (∀ A, Box7 ((w.alloc A).alloc (.cells #[.int .i64 D.rows.vars, t1, t2, t3, z', j', y'] 56)) (w.heap.size + 1) (.int .i64 D.rows.vars) t1 t2 t3 z' j' y') := Lib.hid (fun A => by
    have h := Box7.mk' (w.alloc A) (.int .i64 D.rows.vars) t1 t2 t3 z' j' y' 56
    rw [show (w.alloc A).heap.size = w.heap.size + 1 by simp] at h
    exact h)
  clear g1 g2 g3 g4 g5 g6 k1 k2 k3 k4 k5 k6 o
  go_enter Try.func47, Try.ntmps47
  go_wp2_with fail
  go_at_call 85; refine (eqRows_any _ _ D.rows _ n1 (G0.out _ (HB0.out _ _)).1 (G0.out _ (HB0.out _ _)).2).mono ?_; rintro e w1 ⟨rfl, b⟩
  have H1 := Lib.hid ((HB0.out _ _).trans (b.mono (HB0.out _ _).size))
  have X1 := Lib.hid ((X0.out _).keep b (X0.out _).lt)
  have Y1 := Lib.hid ((Y0.out _).keep b (Y0.out _).lt)
  clear b X0 Y0
  obtain ⟨c0, c1, c2, c3, c4, c5, c6⟩ := X1.out
  obtain ⟨d0, d1, d2, d3, d4, d5, d6⟩ := Y1.out
  go_wp2_with fail
  clear c0 c1 c2 c3 c4 c5 c6 d0 d1 d2 d3 d4 d5 d6
  go_at_call 19; refine (eqI64_says _ _ D.sizes _ n2 (G4.out _ H1.out).1 (G4.out _ H1.out).2).mono ?_; rintro e w2 ⟨rfl, b⟩
  have H2 := Lib.hid (H1.out.trans (b.mono H1.out.size))
  have X2 := Lib.hid (X1.out.keep b X1.out.lt)
  have Y2 := Lib.hid (Y1.out.keep b Y1.out.lt)
  clear b X1 Y1
  obtain ⟨c0, c1, c2, c3, c4, c5, c6⟩ := X2.out
  obtain ⟨d0, d1, d2, d3, d4, d5, d6⟩ := Y2.out
  go_wp2_with fail
  clear c0 c1 c2 c3 c4 c5 c6 d0 d1 d2 d3 d4 d5 d6
  go_at_call 86; refine (eqJobS_any _ _ D.jobs _ n3 (G5.out _ H2.out).1 (G5.out _ H2.out).2).mono ?_; rintro e w3 ⟨rfl, b⟩
  have H3 := Lib.hid (H2.out.trans (b.mono H2.out.size))
  have X3 := Lib.hid (X2.out.keep b X2.out.lt)
  have Y3 := Lib.hid (Y2.out.keep b Y2.out.lt)
  clear b X2 Y2
  obtain ⟨c0, c1, c2, c3, c4, c5, c6⟩ := X3.out
  obtain ⟨d0, d1, d2, d3, d4, d5, d6⟩ := Y3.out
  go_wp2_with fail
  clear c0 c1 c2 c3 c4 c5 c6 d0 d1 d2 d3 d4 d5 d6
  go_at_call 19; refine (eqI64_says _ _ D.ways _ n4 (G6.out _ H3.out).1 (G6.out _ H3.out).2).mono ?_; rintro e w4 ⟨rfl, b⟩
  have H4 := Lib.hid (H3.out.trans (b.mono H3.out.size))
  clear b X3 Y3
  go_wp2_with fail
  go_ret
  exact says rfl H4.out
end Go.Proofs.Ytiobbclciboggaa
