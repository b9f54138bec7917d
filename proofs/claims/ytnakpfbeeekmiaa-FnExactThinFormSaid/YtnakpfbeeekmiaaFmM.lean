/- Forms: their marks. -/
import Derived.Test.YtnakpfbeeekmiaaFm
import Derived.Test.YtnakpfbeeekmiaaLsM
namespace Go.Proofs.Ytnakpfbeeekmiaa
open Go.RowKit Go.ChangeShapes Go.WideShapes

/-- What forms hold behind marks from k on. -/
def marksFm (k : Int) (N : Fm) : Fm := ⟨N.letters, marksL k N.cs⟩
def MarkedFm (lo hi : Nat) (v : Value) (k : Int) (N : Fm) (w : World) (e : Ending) (w' : World) : Prop := e = .returned (.int .i64 (k + (totAt N.cs N.cs.length : Nat))) ∧ FmD lo hi w' v (marksFm k N) ∧ Turned lo hi w w'
theorem Turned.alloc' (lo hi : Nat) (w : World) (o : Obj) : Turned lo hi w (w.alloc o) := Turned.of_below (below_alloc w o) (Nat.le_refl _)
set_option maxHeartbeats 1000000 in
theorem markForm_any (lo hi : Nat) (v : Value) (N : Fm) (k : Int) (w : World) (hv : FmD lo hi w v N) (hn : szL N.cs ≤ 1048576) (hk0 : 0 ≤ k) (hk1 : k ≤ 549755813888) :
    Calls Try.prog 20 #[v, .int .i64 k] w (MarkedFm lo hi v k N w) := by
  obtain ⟨s1, rfl, g1⟩ := hv
  have G1 := Lib.hid (fun o => g1.below' (below_alloc w o) (Nat.le_refl _))
  clear g1
  go_enter Try.func20, Try.ntmps20
  go_wp2_with fail
  go_at_call 30; refine (markSS_any lo hi _ N.cs k _ (G1.out _) hn hk0 hk1).mono ?_; rintro e w1 ⟨rfl, i1, t1⟩
  have T1 := Lib.hid ((Turned.alloc' lo hi w _).trans t1)
  have I1 := Lib.hid i1
  clear i1 t1
  go_wp2_with fail
  go_ret
  exact ⟨rfl, ⟨s1, rfl, I1.out⟩, T1.out⟩
end Go.Proofs.Ytnakpfbeeekmiaa
