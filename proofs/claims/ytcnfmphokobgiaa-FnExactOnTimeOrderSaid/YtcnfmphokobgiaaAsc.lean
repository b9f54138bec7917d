/- The program's orders by a number, the least one first. -/
import Derived.Test.YtcnfmphokobgiaaCmp
namespace Go.Proofs.Ytcnfmphokobgiaa
open Go.RowKit Go.ChangeShapes Go.WideShapes

theorem ascending_any (m : Nat) (rs cs : Array Value) (w : World) :
    Calls Try.prog 54 #[.func (.func m) rs cs] w (fun e w' => e = .returned (.func (.func 108) #[] #[.pointer (some ⟨w.heap.size, 0, none⟩)]) ∧ w' = w.alloc (.cells #[.func (.func m) rs cs] 68)) := by
  go_enter Try.func54, Try.ntmps54
  go_wp2_with fail
  go_ret
  exact ⟨rfl, rfl⟩
end Go.Proofs.Ytcnfmphokobgiaa
