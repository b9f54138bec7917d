/- Sizes: both sides. -/
import Derived.Test.YtknonlbbakbpiaaSzS
import Derived.Test.YtknonlbbakbpiaaArF
import Derived.Test.YtknonlbbakbpiaaMix
import Derived.Test.YtknonlbbakbpiaaIl
import Derived.Deep.QuietTactic
import Derived.BigQuiet
namespace Go.Proofs.Ytknonlbbakbpiaa
open Go.RowKit Go.ChangeShapes Go.WideShapes

theorem isCount_is (t : Bool) (v : Value) (L : List Int) (w : World) (hv : IL w v L) (ht : fewB L.length = t) :
    Calls Try.prog 150 #[v] w (Tells t w) := by
  obtain ⟨ao, cap, rfl⟩ := hv.long
  have H := Lib.hid (show (decide (1 ≤ (L.length : Int)) && decide ((L.length : Int) ≤ 16)) = t from ht)
  clear ht hv
  go_enter Try.func150, Try.ntmps150
  go_wp2_with fail
  go_at_call 149; refine (isFrom_is t _ 1 16 _ H.out).mono ?_; rintro e w' ⟨rfl, m, rfl⟩
  go_wp2_with fail
  go_ret
  exact tells _ rfl
theorem sizesB_eq (L : List Int) : sizesB L = (fewB L.length && allIn L 1 1000) := by unfold sizesB; exact Bool.and_comm _ _
end Go.Proofs.Ytknonlbbakbpiaa
