/- Forms: what their marks hold. -/
import Derived.Test.YtnakpfbeeekmiaaFmM
import Derived.Test.YtnakpfbeeekmiaaLsH
namespace Go.Proofs.Ytnakpfbeeekmiaa
open Go.RowKit Go.ChangeShapes Go.WideShapes

theorem heldForm_any (v : Value) (k : Int) (N : Fm) (w : World) (hv : FmV w v (marksFm k N)) (hn : szL N.cs ≤ 1048576) (hk0 : 0 ≤ k) (hk1 : k ≤ 549755813888) :
    Calls Try.prog 36 #[v, .int .i64 k] w (fun e w' => e = .returned (.int .i64 (k + (totAt N.cs N.cs.length : Nat))) ∧ Below w.heap.size w w') := by
  obtain ⟨s1, rfl, g1⟩ := hv
  have G1 := Lib.hid (fun o => g1.below (below_alloc w o) (Nat.le_refl _))
  have ht : totAt N.cs N.cs.length ≤ 1048576 := by unfold szL at hn; omega
  have hB := Lib.hid (below_alloc w)
  clear g1
  go_enter Try.func36, Try.ntmps36
  go_wp2_with fail
  go_at_call 31; refine (heldSS_any _ k N.cs _ (G1.out _) hn hk0 hk1).mono ?_; rintro e w1 ⟨rfl, b⟩
  have B1 := Lib.hid ((hB.out _).trans (b.mono (by simp)))
  clear b
  go_wp2_with fail
  go_ret
  exact ⟨rfl, B1.out⟩
end Go.Proofs.Ytnakpfbeeekmiaa
