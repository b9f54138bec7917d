/- The program's orders by a number, the greatest one first. -/
import Derived.Test.YtcnfmphokobgiaaCmp
namespace Go.Proofs.Ytcnfmphokobgiaa
open Go.RowKit Go.ChangeShapes Go.WideShapes

theorem descending_any (m : Nat) (rs cs : Array Value) (w : World) :
    Calls Try.prog 64 #[.func (.func m) rs cs] w (fun e w' => e = .returned (.func (.func 114) #[] #[.pointer (some ⟨w.heap.size, 0, none⟩)]) ∧ w' = w.alloc (.cells #[.func (.func m) rs cs] 68)) := by
  go_enter Try.func64, Try.ntmps64
  go_wp2_with fail
  go_ret
  exact ⟨rfl, rfl⟩
end Go.Proofs.Ytcnfmphokobgiaa
