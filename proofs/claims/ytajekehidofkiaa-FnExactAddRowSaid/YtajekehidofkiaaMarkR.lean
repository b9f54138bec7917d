/- Marks in rows whose lists lie in blocks of their own, in any order. -/
import Derived.Test.YtajekehidofkiaaLaw
namespace Go.Proofs.Ytajekehidofkiaa
open Go.RowKit Go.ChangeShapes Go.WideShapes

/-- Rows that lie in blocks from lo on, below hi, each list in blocks of its own, in any order. -/
def RT (lo hi : Nat) (w : World) (v : Value) (R : Rw) : Prop := ∃ s1 s2 s3 a1 b1 a2 b2 a3 b3, (lo ≤ a1 ∧ a1 ≤ b1 ∧ b1 ≤ hi) ∧ (lo ≤ a2 ∧ a2 ≤ b2 ∧ b2 ≤ hi) ∧ (lo ≤ a3 ∧ a3 ≤ b3 ∧ b3 ≤ hi) ∧ ((b1 ≤ a2 ∨ b2 ≤ a1) ∧ (b1 ≤ a3 ∨ b3 ≤ a1) ∧ (b2 ≤ a3 ∨ b3 ≤ a2)) ∧ hi ≤ w.heap.size ∧ v = .agg #[.int .i64 R.vars, s1, s2, s3] ∧ FI a1 b1 w s1 R.N ∧ FI a2 b2 w s2 R.B ∧ FI a3 b3 w s3 R.G
theorem RD.rt {lo hi : Nat} {w : World} {v : Value} {R : Rw} (h : RD lo hi w v R) : RT lo hi w v R := by
  obtain ⟨s1, s2, s3, a, b, l1, l2, l3, e, h1, h2, h3⟩ := h
  exact ⟨s1, s2, s3, lo, a, a, b, b, hi, ⟨Nat.le_refl _, l1, by omega⟩, ⟨l1, l2, l3⟩, ⟨by omega, l3, Nat.le_refl _⟩, ⟨Or.inl (Nat.le_refl _), Or.inl l2, Or.inl (Nat.le_refl _)⟩, h3.1, e, h1, h2, h3⟩
theorem RT.below {lo hi : Nat} {w w' : World} {v : Value} {R : Rw} (h : RT lo hi w v R) {B : Nat} (hb : Below B w w') (hB : w.heap.size ≤ B) : RT lo hi w' v R := by
  obtain ⟨s1, s2, s3, a1, b1, a2, b2, a3, b3, l1, l2, l3, l4, l5, e, h1, h2, h3⟩ := h
  exact ⟨s1, s2, s3, a1, b1, a2, b2, a3, b3, l1, l2, l3, l4, Nat.le_trans l5 hb.size, e, SI.below h1 hb hB, SI.below h2 hb hB, SI.below h3 hb hB⟩
theorem RT.kept {lo hi lo2 hi2 : Nat} {w w' : World} {v : Value} {R : Rw} (h : RT lo hi w v R) (ht : Turned lo2 hi2 w w') (hs : hi ≤ lo2 ∨ hi2 ≤ lo) : RT lo hi w' v R := by
  obtain ⟨s1, s2, s3, a1, b1, a2, b2, a3, b3, l1, l2, l3, l4, l5, e, h1, h2, h3⟩ := h
  exact ⟨s1, s2, s3, a1, b1, a2, b2, a3, b3, l1, l2, l3, l4, Nat.le_trans l5 ht.size, e, SI.kept h1 ht (by omega), SI.kept h2 ht (by omega), SI.kept h3 ht (by omega)⟩
theorem RT.ri {lo hi : Nat} {w : World} {v : Value} {R : Rw} (h : RT lo hi w v R) : RI lo hi w v R := by
  obtain ⟨s1, s2, s3, a1, b1, a2, b2, a3, b3, l1, l2, l3, l4, l5, e, h1, h2, h3⟩ := h
  exact ⟨s1, s2, s3, e, SI.wide h1 l1.1 l1.2.2 l5, SI.wide h2 l2.1 l2.2.2 l5, SI.wide h3 l3.1 l3.2.2 l5⟩
theorem RT.rv {lo hi : Nat} {w : World} {v : Value} {R : Rw} (h : RT lo hi w v R) : RV w v R := h.ri.rv
theorem RT.wide {lo lo' hi hi' : Nat} {w : World} {v : Value} {R : Rw} (h : RT lo hi w v R) (h1 : lo' ≤ lo) (h2 : hi ≤ hi') (h3 : hi' ≤ w.heap.size) : RT lo' hi' w v R := by
  obtain ⟨s1, s2, s3, a1, b1, a2, b2, a3, b3, l1, l2, l3, l4, l5, e, g1, g2, g3⟩ := h
  exact ⟨s1, s2, s3, a1, b1, a2, b2, a3, b3, ⟨by omega, l1.2.1, by omega⟩, ⟨by omega, l2.2.1, by omega⟩, ⟨by omega, l3.2.1, by omega⟩, l4, h3, e, g1, g2, g3⟩
def marksQ (k : Int) (R : Rw) : Rw := ⟨R.vars, marks k R.N.length, marks (k + (R.N.length : Nat)) R.B.length, marks (k + (R.N.length : Nat) + (R.B.length : Nat)) R.G.length⟩
theorem marksQ_size (k : Int) (R : Rw) : (marksQ k R).size = R.size := by unfold marksQ Rw.size; simp [marks_len]
theorem Turned.allocQ (lo hi : Nat) (w : World) (o : Obj) : Turned lo hi w (w.alloc o) := Turned.of_below (below_alloc w o) (Nat.le_refl _)
theorem ret_intQ {a b : Int} (h : a = b) : Ending.returned (.int .i64 a) = .returned (.int .i64 b) := by rw [h]
def MarkedQ (lo hi : Nat) (v : Value) (k : Int) (R : Rw) (w : World) (e : Ending) (w' : World) : Prop := e = .returned (.int .i64 (k + (R.size : Nat))) ∧ RT lo hi w' v (marksQ k R) ∧ Turned lo hi w w'

set_option maxHeartbeats 1000000 in
theorem markRowsT_any (lo hi : Nat) (v : Value) (R : Rw) (k : Int) (w : World) (hv : RT lo hi w v R) (hn : R.size ≤ 1048576) (hk0 : 0 ≤ k) (hk1 : k ≤ 2097152) :
    Calls Try.prog 33 #[v, .int .i64 k] w (MarkedQ lo hi v k R w) := by
  obtain ⟨s1, s2, s3, a1, b1, a2, b2, a3, b3, l1, l2, l3, l4, l5, rfl, g1, g2, g3⟩ := hv
  have hn1 : R.N.length ≤ 1048576 := by unfold Rw.size at hn; omega
  have hn2 : R.B.length ≤ 1048576 := by unfold Rw.size at hn; omega
  have hn3 : R.G.length ≤ 1048576 := by unfold Rw.size at hn; omega
  have hhi : hi ≤ w.heap.size := l5
  have X0 := Lib.hid (Box4.mk' w (.int .i64 R.vars) s1 s2 s3 49)
  have G1 := Lib.hid (fun o => SI.below g1 (below_alloc w o) (Nat.le_refl _))
  have G2 := Lib.hid (fun o => SI.below g2 (below_alloc w o) (Nat.le_refl _))
  have G3 := Lib.hid (fun o => SI.below g3 (below_alloc w o) (Nat.le_refl _))
  have HS : Hid (k + (R.N.length : Nat) + (R.B.length : Nat) + (R.G.length : Nat) = k + (R.size : Nat)) := Lib.hid (by unfold Rw.size; omega)
  have hs : R.N.length + R.B.length + R.G.length ≤ 1048576 := by unfold Rw.size at hn; exact hn
  clear g1 g2 g3 hn
  go_enter Try.func33, Try.ntmps33
  go_wp2_with fail
  go_at_call 34; refine (markF32_any a1 b1 _ R.N k _ (G1.out _) hn1 hk0 (by omega)).mono ?_; rintro e w1 ⟨rfl, i1, t1⟩
  have T1 := Lib.hid ((Turned.allocQ lo hi w _).trans (t1.wide l1.1 l1.2.2))
  have I1 := Lib.hid i1
  have I2 := Lib.hid (SI.kept (G2.out _) t1 (by omega))
  have I3 := Lib.hid (SI.kept (G3.out _) t1 (by omega))
  have X1 := Lib.hid (X0.out.kept t1 (Or.inr (by omega)))
  clear i1 t1 X0 G2 G3
  obtain ⟨c0, c1, c2, c3⟩ := X1.out
  go_wp2_with fail
  clear c0 c1 c2 c3
  go_at_call 34; refine (markF32_any a2 b2 _ R.B (k + (R.N.length : Nat)) _ I2.out hn2 (by omega) (by omega)).mono ?_; rintro e w2 ⟨rfl, i2, t2⟩
  have T2 := Lib.hid (T1.out.trans (t2.wide l2.1 l2.2.2))
  have J1 := Lib.hid (SI.kept I1.out t2 (by omega))
  have J2 := Lib.hid i2
  have J3 := Lib.hid (SI.kept I3.out t2 (by omega))
  have X2 := Lib.hid (X1.out.kept t2 (Or.inr (by omega)))
  clear i2 t2 X1 I1 I2 I3
  obtain ⟨c0, c1, c2, c3⟩ := X2.out
  go_wp2_with fail
  clear c0 c1 c2 c3
  go_at_call 34; refine (markF32_any a3 b3 _ R.G (k + (R.N.length : Nat) + (R.B.length : Nat)) _ J3.out hn3 (by omega) (by omega)).mono ?_; rintro e w3 ⟨rfl, i3, t3⟩
  have T3 := Lib.hid (T2.out.trans (t3.wide l3.1 l3.2.2))
  have K1 := Lib.hid (SI.kept J1.out t3 (by omega))
  have K2 := Lib.hid (SI.kept J2.out t3 (by omega))
  have K3 := Lib.hid i3
  clear i3 t3
  go_wp2_with fail
  go_ret
  exact ⟨ret_intQ HS.out, ⟨s1, s2, s3, a1, b1, a2, b2, a3, b3, l1, l2, l3, l4, Nat.le_trans l5 T3.out.size, rfl, K1.out, K2.out, K3.out⟩, T3.out⟩
end Go.Proofs.Ytajekehidofkiaa
