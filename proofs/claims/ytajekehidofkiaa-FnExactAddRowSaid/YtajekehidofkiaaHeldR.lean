/- Marks in rows are found again. -/
import Derived.Test.YtajekehidofkiaaMarkR
namespace Go.Proofs.Ytajekehidofkiaa
open Go.RowKit Go.ChangeShapes Go.WideShapes

set_option maxHeartbeats 1000000 in
theorem heldRows_any (v : Value) (R : Rw) (k : Int) (w : World) (hv : RV w v (marksQ k R)) (hn : R.size ≤ 1048576) (hk0 : 0 ≤ k) (hk1 : k ≤ 2097152) :
    Calls Try.prog 35 #[v, .int .i64 k] w fun e w' => e = .returned (.int .i64 (k + (R.size : Nat))) ∧ Below w.heap.size w w' := by
  obtain ⟨s1, s2, s3, rfl, g1, g2, g3⟩ := hv
  have G1 := Lib.hid (fun o => g1.below (below_alloc w o) (Nat.le_refl _))
  have G2 := Lib.hid (fun o => g2.below (below_alloc w o) (Nat.le_refl _))
  have G3 := Lib.hid (fun o => g3.below (below_alloc w o) (Nat.le_refl _))
  have hn1 : R.N.length ≤ 1048576 := by unfold Rw.size at hn; omega
  have hn2 : R.B.length ≤ 1048576 := by unfold Rw.size at hn; omega
  have hn3 : R.G.length ≤ 1048576 := by unfold Rw.size at hn; omega
  have hs : R.N.length + R.B.length + R.G.length ≤ 1048576 := by unfold Rw.size at hn; exact hn
  have HS : Hid (k + (R.N.length : Nat) + (R.B.length : Nat) + (R.G.length : Nat) = k + (R.size : Nat)) := Lib.hid (by unfold Rw.size; omega)
  have X0 := Lib.hid (Box4.mk' w (.int .i64 R.vars) s1 s2 s3 49)
  have HB := Lib.hid (fun o => below_alloc w o)
  clear g1 g2 g3 hn
  unfold marksQ
  go_enter Try.func35, Try.ntmps35
  go_wp2_with fail
  go_at_call 62; refine (heldF32_any _ k R.N.length _ (G1.out _) hn1 hk0 (by omega)).mono ?_; rintro e w1 ⟨rfl, rfl⟩
  have p1 : ¬ (k + (R.N.length : Nat) < 0) := by omega
  go_wp2_with fail
  go_at_call 62; refine (heldF32_any _ (k + (R.N.length : Nat)) R.B.length _ (G2.out _) hn2 (by omega) (by omega)).mono ?_; rintro e w1 ⟨rfl, rfl⟩
  have p2 : ¬ (k + (R.N.length : Nat) + (R.B.length : Nat) < 0) := by omega
  go_wp2_with fail
  go_at_call 62; refine (heldF32_any _ (k + (R.N.length : Nat) + (R.B.length : Nat)) R.G.length _ (G3.out _) hn3 (by omega) (by omega)).mono ?_; rintro e w1 ⟨rfl, rfl⟩
  have p3 : ¬ (k + (R.N.length : Nat) + (R.B.length : Nat) + (R.G.length : Nat) < 0) := by omega
  go_wp2_with fail
  go_ret
  exact ⟨ret_intQ HS.out, HB.out _⟩
end Go.Proofs.Ytajekehidofkiaa
