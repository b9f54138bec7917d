/- Whether a room is such: the program. -/
import Derived.Test.YtbaaocgdpgoggaaSizes
namespace Go.Proofs.Ytbaaocgdpgoggaa
open Go.RowKit Go.ChangeShapes Go.WideShapes

theorem isRoom_is (t : Bool) (r : Int) (w : World) (h : inB r 0 1000 = t) :
    Calls Try.prog 155 #[.int .i64 r] w (Tells t w) := by
  have H := Lib.hid (show (decide (0 ≤ r) && decide (r ≤ 1000)) = t from h)
  clear h
  go_enter Try.func155, Try.ntmps155
  go_wp2_with fail
  go_at_call 73; refine (isFrom_is t r 0 1000 _ H.out).mono ?_; rintro e w' ⟨rfl, m, rfl⟩
  go_wp2_with fail
  go_ret
  exact tells _ rfl
end Go.Proofs.Ytbaaocgdpgoggaa
