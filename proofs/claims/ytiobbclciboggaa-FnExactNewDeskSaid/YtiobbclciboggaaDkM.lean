/- Marks in desks: laid, and found again. -/
import Derived.Test.YtiobbclciboggaaDkR
namespace Go.Proofs.Ytiobbclciboggaa
open Go.RowKit Go.ChangeShapes Go.WideShapes

def kZ (k : Int) (D : Dk) : Int := k + (D.rows.size : Nat)
def kJ (k : Int) (D : Dk) : Int := kZ k D + (D.sizes.length : Nat)
def kY (k : Int) (D : Dk) : Int := kJ k D + ((4 * D.jobs.length : Nat) : Int)
def marksDk (k : Int) (D : Dk) : Dk := ⟨marksR k D.rows, marksI (kZ k D) D.sizes.length, marksA (kJ k D) D.jobs.length, marksI (kY k D) D.ways.length⟩
theorem kEnd (k : Int) (D : Dk) : kY k D + (D.ways.length : Nat) = k + (D.size : Nat) := by unfold kY kJ kZ Dk.size; omega
def MarkedDk (lo hi : Nat) (v : Value) (k : Int) (D : Dk) (w : World) (e : Ending) (w' : World) : Prop := e = .returned (.int .i64 (k + (D.size : Nat))) ∧ DkD lo hi w' v (marksDk k D) ∧ Turned lo hi w w'
set_option maxHeartbeats 2000000 in
theorem markDesk_any (lo hi : Nat) (v : Value) (D : Dk) (k : Int) (w : World) (hv : DkD lo hi w v D) (o : D.size ≤ 1048576) (hk0 : 0 ≤ k) (hk1 : k ≤ 2097152) :
    Calls Try.prog 48 #[v, .int .i64 k] w (MarkedDk lo hi v k D w) := by
  obtain ⟨s1, s2, s3, z, j, y, a, b, c, d, e, ⟨l1, l2, l3, l4, l5, l6⟩, rfl, g1, g2, g3, g4, g5, g6⟩ := hv
  have n1 : D.rows.size ≤ 1048576 := by unfold Dk.size at o; omega
  have n2 : D.sizes.length ≤ 1048576 := by unfold Dk.size at o; omega
  have n3 : D.jobs.length ≤ 1048576 := by unfold Dk.size at o; omega
  have n4 : D.ways.length ≤ 1048576 := by unfold Dk.size at o; omega
  have hhi : hi ≤ w.heap.size := g6.1
  have P1 : Hid (kZ k D = k + (D.rows.size : Nat)) := Lib.hid rfl
  have P2 : Hid (kJ k D = kZ k D + (D.sizes.length : Nat)) := Lib.hid rfl
  have P3 : Hid (kY k D = kJ k D + ((4 * D.jobs.length : Nat) : Int)) := Lib.hid rfl
  have z1 : 0 ≤ kZ k D ∧ kZ k D ≤ 3145728 := by unfold kZ; omega
  have z2 : 0 ≤ kJ k D ∧ kJ k D ≤ 4194304 := by unfold kJ; omega
  have z3 : 0 ≤ kY k D ∧ kY k D ≤ 8388608 := by unfold kY; omega
  have P4 := Lib.hid (kEnd k D)
  have X0 := Lib.hid (Box7.mk' w (.int .i64 D.rows.vars) s1 s2 s3 z j y 56)
  have G0 : Hid (∀ A, RD lo c (w.alloc A) (.agg #[.int .i64 D.rows.vars, s1, s2, s3]) D.rows) := Lib.hid fun A => ⟨s1, s2, s3, a, b, l1, l2, l3, rfl, SI.below g1 (below_alloc w A) (Nat.le_refl _), SI.below g2 (below_alloc w A) (Nat.le_refl _), SI.below g3 (below_alloc w A) (Nat.le_refl _)⟩
  have G4 := Lib.hid (fun A => SI.below g4 (below_alloc w A) (Nat.le_refl _))
  have G5 := Lib.hid (fun A => g5.below' (below_alloc w A) (Nat.le_refl _))
  have G6 := Lib.hid (fun A => SI.below g6 (below_alloc w A) (Nat.le_refl _))
  clear g1 g2 g3 g4 g5 g6 o
  go_enter Try.func48, Try.ntmps48
  go_wp2_with fail
  go_at_call 87; refine (markRows_any lo c _ D.rows k _ (G0.out _) n1 hk0 (by omega)).mono ?_; rintro e1 w1 ⟨rfl, i, t⟩
  rw [← P1.out]
  have T1 := Lib.hid ((Turned.alloc lo hi w _).trans (t.wide (Nat.le_refl _) (by omega)))
  have F1 := Lib.hid i
  have F2 := Lib.hid (SI.kept (G4.out _) t (Or.inr (Nat.le_refl _)))
  have F3 := Lib.hid ((G5.out _).kept' t (Or.inr (by omega)))
  have F4 := Lib.hid (SI.kept (G6.out _) t (Or.inr (by omega)))
  have X1 := Lib.hid (X0.out.kept t (Or.inr (by omega)))
  clear i t X0 G0 G4 G5 G6
  obtain ⟨c0, c1, c2, c3, c4, c5, c6⟩ := X1.out
  go_wp2_with fail
  clear c0 c1 c2 c3 c4 c5 c6
  go_at_call 22; refine (markI64_any c d _ D.sizes _ _ F2.out n2 (by omega) (by omega)).mono ?_; rintro e1 w2 ⟨rfl, i, t⟩
  rw [← P2.out]
  have T2 := Lib.hid (T1.out.trans (t.wide (by omega) (by omega)))
  have I1 := Lib.hid (F1.out.kept t (Or.inl (Nat.le_refl _)))
  have I2 := Lib.hid i
  have I3 := Lib.hid (F3.out.kept' t (Or.inr (Nat.le_refl _)))
  have I4 := Lib.hid (SI.kept F4.out t (Or.inr (by omega)))
  have X2 := Lib.hid (X1.out.kept t (Or.inr (by omega)))
  clear i t X1 F1 F2 F3 F4
  obtain ⟨c0, c1, c2, c3, c4, c5, c6⟩ := X2.out
  go_wp2_with fail
  clear c0 c1 c2 c3 c4 c5 c6
  go_at_call 88; refine (markJobS_any d e _ D.jobs _ _ I3.out n3 (by omega) (by omega)).mono ?_; rintro e1 w3 ⟨rfl, i, t⟩
  rw [← P3.out]
  have T3 := Lib.hid (T2.out.trans (t.wide (by omega) (by omega)))
  have J1 := Lib.hid (I1.out.kept t (Or.inl (by omega)))
  have J2 := Lib.hid (SI.kept I2.out t (Or.inl (Nat.le_refl _)))
  have J3 := Lib.hid i
  have J4 := Lib.hid (SI.kept I4.out t (Or.inr (Nat.le_refl _)))
  have X3 := Lib.hid (X2.out.kept t (Or.inr (by omega)))
  clear i t X2 I1 I2 I3 I4
  obtain ⟨c0, c1, c2, c3, c4, c5, c6⟩ := X3.out
  go_wp2_with fail
  clear c0 c1 c2 c3 c4 c5 c6
  go_at_call 22; refine (markI64_any e hi _ D.ways _ _ J4.out n4 (by omega) (by omega)).mono ?_; rintro e1 w4 ⟨rfl, i, t⟩
  have T4 := Lib.hid (T3.out.trans (t.wide (by omega) (Nat.le_refl _)))
  have K1 := Lib.hid (J1.out.kept t (Or.inl (by omega)))
  have K2 := Lib.hid (SI.kept J2.out t (Or.inl (by omega)))
  have K3 := Lib.hid (J3.out.kept' t (Or.inl (Nat.le_refl _)))
  have K4 := Lib.hid i
  clear i t
  go_wp2_with fail
  go_ret
  obtain ⟨r1, r2, r3, a', b', m1, m2, m3, er, h1, h2, h3⟩ := K1.out
  have q : s1 = r1 ∧ s2 = r2 ∧ s3 = r3 := by
    have := er
    simp only [Value.agg.injEq, Array.mk.injEq, List.cons.injEq, and_true] at this
    exact ⟨this.2.1, this.2.2.1, this.2.2.2⟩
  obtain ⟨rfl, rfl, rfl⟩ := q
  exact ⟨ret_int2 P4.out, ⟨s1, s2, s3, z, j, y, a', b', c, d, e, ⟨m1, m2, m3, l4, l5, l6⟩, rfl, h1, h2, h3, K2.out, K3.out, K4.out⟩, T4.out⟩
set_option maxHeartbeats 2000000 in
theorem heldDesk_any (v : Value) (k : Int) (D : Dk) (w : World) (hv : DkV w v (marksDk k D)) (o : D.size ≤ 1048576) (hk0 : 0 ≤ k) (hk1 : k ≤ 2097152) :
    Calls Try.prog 49 #[v, .int .i64 k] w (fun e w' => e = .returned (.int .i64 (k + (D.size : Nat))) ∧ Below w.heap.size w w') := by
  obtain ⟨s1, s2, s3, z, j, y, rfl, g1, g2, g3, g4, g5, g6⟩ := hv
  have n1 : D.rows.size ≤ 1048576 := by unfold Dk.size at o; omega
  have n2 : D.sizes.length ≤ 1048576 := by unfold Dk.size at o; omega
  have n3 : D.jobs.length ≤ 1048576 := by unfold Dk.size at o; omega
  have n4 : D.ways.length ≤ 1048576 := by unfold Dk.size at o; omega
  have P1 : Hid (kZ k D = k + (D.rows.size : Nat)) := Lib.hid rfl
  have P2 : Hid (kJ k D = kZ k D + (D.sizes.length : Nat)) := Lib.hid rfl
  have P3 : Hid (kY k D = kJ k D + ((4 * D.jobs.length : Nat) : Int)) := Lib.hid rfl
  have z1 : 0 ≤ kZ k D ∧ kZ k D ≤ 3145728 := by unfold kZ; omega
  have z2 : 0 ≤ kJ k D ∧ kJ k D ≤ 4194304 := by unfold kJ; omega
  have z3 : 0 ≤ kY k D ∧ kY k D ≤ 8388608 := by unfold kY; omega
  have P4 := Lib.hid (kEnd k D)
  have ev : (marksDk k D).rows.vars = D.rows.vars := rfl
  have G0 : Hid (∀ W, Below w.heap.size w W → RV W (.agg #[.int .i64 D.rows.vars, s1, s2, s3]) (marksR k D.rows)) := Lib.hid fun W h => ⟨s1, s2, s3, rfl, g1.below h (Nat.le_refl _), g2.below h (Nat.le_refl _), g3.below h (Nat.le_refl _)⟩
  have G4 : Hid (∀ W, Below w.heap.size w W → IL W z (marksI (kZ k D) D.sizes.length)) := Lib.hid fun W h => g4.below h (Nat.le_refl _)
  have G5 : Hid (∀ W, Below w.heap.size w W → AV W j (marksA (kJ k D) D.jobs.length)) := Lib.hid fun W h => g5.below h (Nat.le_refl _)
  have G6 : Hid (∀ W, Below w.heap.size w W → IL W y (marksI (kY k D) D.ways.length)) := Lib.hid fun W h => g6.below h (Nat.le_refl _)
  have X0 := Lib.hid (Box7.mk' w (.int .i64 D.rows.vars) s1 s2 s3 z j y 56)
  have HB0 := Lib.hid (fun A => below_alloc w A)
  rw [ev]
  clear g1 g2 g3 g4 g5 g6 o ev
  go_enter Try.func49, Try.ntmps49
  go_wp2_with fail
  go_at_call 89; refine (heldRows_any _ D.rows k _ (G0.out _ (HB0.out _)) n1 hk0 (by omega)).mono ?_; rintro e1 w1 ⟨rfl, b⟩
  rw [← P1.out]
  have H1 := Lib.hid ((HB0.out _).trans (b.mono (HB0.out _).size))
  have X1 := Lib.hid (X0.out.keep b X0.out.lt)
  have q1 : decide (kZ k D < 0) = false := by simp; omega
  have q1' : ¬ (kZ k D < 0) := by omega
  clear b X0
  obtain ⟨c0, c1, c2, c3, c4, c5, c6⟩ := X1.out
  go_wp2_with fail
  clear c0 c1 c2 c3 c4 c5 c6
  go_at_call 23; refine (heldI64_says _ _ D.sizes.length _ (G4.out _ H1.out) n2 (by omega) (by omega)).mono ?_; rintro e1 w2 ⟨rfl, b⟩
  rw [← P2.out]
  have H2 := Lib.hid (H1.out.trans (b.mono H1.out.size))
  have X2 := Lib.hid (X1.out.keep b X1.out.lt)
  have q2 : decide (kJ k D < 0) = false := by simp; omega
  have q2' : ¬ (kJ k D < 0) := by omega
  clear b X1
  obtain ⟨c0, c1, c2, c3, c4, c5, c6⟩ := X2.out
  go_wp2_with fail
  clear c0 c1 c2 c3 c4 c5 c6
  go_at_call 90; refine (heldA_says _ _ D.jobs.length _ (G5.out _ H2.out) n3 (by omega) (by omega)).mono ?_; rintro e1 w3 ⟨rfl, b⟩
  rw [← P3.out]
  have H3 := Lib.hid (H2.out.trans (b.mono H2.out.size))
  have X3 := Lib.hid (X2.out.keep b X2.out.lt)
  have q3 : decide (kY k D < 0) = false := by simp; omega
  have q3' : ¬ (kY k D < 0) := by omega
  clear b X2
  obtain ⟨c0, c1, c2, c3, c4, c5, c6⟩ := X3.out
  go_wp2_with fail
  clear c0 c1 c2 c3 c4 c5 c6
  go_at_call 23; refine (heldI64_says _ _ D.ways.length _ (G6.out _ H3.out) n4 (by omega) (by omega)).mono ?_; rintro e1 w4 ⟨rfl, b⟩
  rw [P4.out]
  have H4 := Lib.hid (H3.out.trans (b.mono H3.out.size))
  have q4 : decide (k + (D.size : Int) < 0) = false := by simp; omega
  have q4' : ¬ (k + (D.size : Int) < 0) := by omega
  clear b X3
  go_wp2_with fail
  go_ret
  exact ⟨rfl, H4.out⟩
end Go.Proofs.Ytiobbclciboggaa
