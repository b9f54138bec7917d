/- Marks in desks: laid, and found again (never beside MkR, MarkR, HeldR). -/
import Derived.Test.YtiobbclciboggaaDk
namespace Go.Proofs.Ytiobbclciboggaa
open Go.RowKit Go.ChangeShapes Go.WideShapes

theorem Box4.kept {lo hi : Nat} {w w' : World} {g : Nat} {a b c d : Value} (h : Box4 w g a b c d) (ht : Turned lo hi w w') (hg : g < lo ∨ hi ≤ g) : Box4 w' g a b c d := ⟨keep_cell' h.c0 ht hg, keep_cell' h.c1 ht hg, keep_cell' h.c2 ht hg, keep_cell' h.c3 ht hg⟩
theorem Turned.alloc (lo hi : Nat) (w : World) (o : Obj) : Turned lo hi w (w.alloc o) := Turned.of_below (below_alloc w o) (Nat.le_refl _)
theorem ret_int2 {a b : Int} (h : a = b) : Ending.returned (.int .i64 a) = .returned (.int .i64 b) := by rw [h]
def marksR (k : Int) (R : Rw) : Rw := ⟨R.vars, marks k R.N.length, marks (k + (R.N.length : Nat)) R.B.length, marks (k + (R.N.length : Nat) + (R.B.length : Nat)) R.G.length⟩
theorem marksR_size (k : Int) (R : Rw) : (marksR k R).size = R.size := by unfold marksR Rw.size; simp [marks_len]
def MarkedR (lo hi : Nat) (v : Value) (k : Int) (R : Rw) (w : World) (e : Ending) (w' : World) : Prop := e = .returned (.int .i64 (k + (R.size : Nat))) ∧ RD lo hi w' v (marksR k R) ∧ Turned lo hi w w'
set_option maxHeartbeats 1000000 in
theorem markRows_any (lo hi : Nat) (v : Value) (R : Rw) (k : Int) (w : World) (hv : RD lo hi w v R) (hn : R.size ≤ 1048576) (hk0 : 0 ≤ k) (hk1 : k ≤ 2097152) :
    Calls Try.prog 87 #[v, .int .i64 k] w (MarkedR lo hi v k R w) := by
  obtain ⟨s1, s2, s3, a, b, l1, l2, l3, rfl, g1, g2, g3⟩ := hv
  have hn1 : R.N.length ≤ 1048576 := by unfold Rw.size at hn; omega
  have hn2 : R.B.length ≤ 1048576 := by unfold Rw.size at hn; omega
  have hn3 : R.G.length ≤ 1048576 := by unfold Rw.size at hn; omega
  have hhi : hi ≤ w.heap.size := g3.1
  have X0 := Lib.hid (Box4.mk' w (.int .i64 R.vars) s1 s2 s3 53)
  have G1 := Lib.hid (fun o => SI.below g1 (below_alloc w o) (Nat.le_refl _))
  have G2 := Lib.hid (fun o => SI.below g2 (below_alloc w o) (Nat.le_refl _))
  have G3 := Lib.hid (fun o => SI.below g3 (below_alloc w o) (Nat.le_refl _))
  have HS : Hid (k + (R.N.length : Nat) + (R.B.length : Nat) + (R.G.length : Nat) = k + (R.size : Nat)) := Lib.hid (by unfold Rw.size; omega)
  have hs : R.N.length + R.B.length + R.G.length ≤ 1048576 := by unfold Rw.size at hn; exact hn
  clear g1 g2 g3 hn
  go_enter Try.func87, Try.ntmps87
  go_wp2_with fail
  go_at_call 134; refine (markF32_any lo a _ R.N k _ (G1.out _) hn1 hk0 (by omega)).mono ?_; rintro e w1 ⟨rfl, i1, t1⟩
  have T1 := Lib.hid ((Turned.alloc lo hi w _).trans (t1.wide (Nat.le_refl _) (by omega)))
  have I1 := Lib.hid i1
  have I2 := Lib.hid (SI.kept (G2.out _) t1 (Or.inr (Nat.le_refl _)))
  have I3 := Lib.hid (SI.kept (G3.out _) t1 (Or.inr l2))
  have X1 := Lib.hid (X0.out.kept t1 (Or.inr (by omega)))
  clear i1 t1 X0 G2 G3
  obtain ⟨c0, c1, c2, c3⟩ := X1.out
  go_wp2_with fail
  clear c0 c1 c2 c3
  go_at_call 134; refine (markF32_any a b _ R.B (k + (R.N.length : Nat)) _ I2.out hn2 (by omega) (by omega)).mono ?_; rintro e w2 ⟨rfl, i2, t2⟩
  have T2 := Lib.hid (T1.out.trans (t2.wide l1 l3))
  have J1 := Lib.hid (SI.kept I1.out t2 (Or.inl (Nat.le_refl _)))
  have J2 := Lib.hid i2
  have J3 := Lib.hid (SI.kept I3.out t2 (Or.inr (Nat.le_refl _)))
  have X2 := Lib.hid (X1.out.kept t2 (Or.inr (by omega)))
  clear i2 t2 X1 I1 I2 I3
  obtain ⟨c0, c1, c2, c3⟩ := X2.out
  go_wp2_with fail
  clear c0 c1 c2 c3
  go_at_call 134; refine (markF32_any b hi _ R.G (k + (R.N.length : Nat) + (R.B.length : Nat)) _ J3.out hn3 (by omega) (by omega)).mono ?_; rintro e w3 ⟨rfl, i3, t3⟩
  have T3 := Lib.hid (T2.out.trans (t3.wide (by omega) (Nat.le_refl _)))
  have K1 := Lib.hid (SI.kept J1.out t3 (Or.inl l2))
  have K2 := Lib.hid (SI.kept J2.out t3 (Or.inl (Nat.le_refl _)))
  have K3 := Lib.hid i3
  clear i3 t3
  go_wp2_with fail
  go_ret
  exact ⟨ret_int2 HS.out, ⟨s1, s2, s3, a, b, l1, l2, l3, rfl, K1.out, K2.out, K3.out⟩, T3.out⟩
set_option maxHeartbeats 1000000 in
theorem heldRows_any (v : Value) (R : Rw) (k : Int) (w : World) (hv : RV w v (marksR k R)) (hn : R.size ≤ 1048576) (hk0 : 0 ≤ k) (hk1 : k ≤ 2097152) :
    Calls Try.prog 89 #[v, .int .i64 k] w fun e w' => e = .returned (.int .i64 (k + (R.size : Nat))) ∧ Below w.heap.size w w' := by
  obtain ⟨s1, s2, s3, rfl, g1, g2, g3⟩ := hv
  have G1 := Lib.hid (fun o => g1.below (below_alloc w o) (Nat.le_refl _))
  have G2 := Lib.hid (fun o => g2.below (below_alloc w o) (Nat.le_refl _))
  have G3 := Lib.hid (fun o => g3.below (below_alloc w o) (Nat.le_refl _))
  have hn1 : R.N.length ≤ 1048576 := by unfold Rw.size at hn; omega
  have hn2 : R.B.length ≤ 1048576 := by unfold Rw.size at hn; omega
  have hn3 : R.G.length ≤ 1048576 := by unfold Rw.size at hn; omega
  have hs : R.N.length + R.B.length + R.G.length ≤ 1048576 := by unfold Rw.size at hn; exact hn
  have HS : Hid (k + (R.N.length : Nat) + (R.B.length : Nat) + (R.G.length : Nat) = k + (R.size : Nat)) := Lib.hid (by unfold Rw.size; omega)
  have X0 := Lib.hid (Box4.mk' w (.int .i64 R.vars) s1 s2 s3 53)
  have HB := Lib.hid (fun o => below_alloc w o)
  clear g1 g2 g3 hn
  unfold marksR
  go_enter Try.func89, Try.ntmps89
  go_wp2_with fail
  go_at_call 135; refine (heldF32_any _ k R.N.length _ (G1.out _) hn1 hk0 (by omega)).mono ?_; rintro e w1 ⟨rfl, rfl⟩
  have p1 : ¬ (k + (R.N.length : Nat) < 0) := by omega
  go_wp2_with fail
  go_at_call 135; refine (heldF32_any _ (k + (R.N.length : Nat)) R.B.length _ (G2.out _) hn2 (by omega) (by omega)).mono ?_; rintro e w1 ⟨rfl, rfl⟩
  have p2 : ¬ (k + (R.N.length : Nat) + (R.B.length : Nat) < 0) := by omega
  go_wp2_with fail
  go_at_call 135; refine (heldF32_any _ (k + (R.N.length : Nat) + (R.B.length : Nat)) R.G.length _ (G3.out _) hn3 (by omega) (by omega)).mono ?_; rintro e w1 ⟨rfl, rfl⟩
  have p3 : ¬ (k + (R.N.length : Nat) + (R.B.length : Nat) + (R.G.length : Nat) < 0) := by omega
  go_wp2_with fail
  go_ret
  exact ⟨ret_int2 HS.out, HB.out _⟩
end Go.Proofs.Ytiobbclciboggaa
