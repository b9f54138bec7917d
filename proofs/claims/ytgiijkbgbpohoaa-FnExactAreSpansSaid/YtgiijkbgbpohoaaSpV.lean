/- Spans are valid: the model's function of that name. -/
import Derived.Test.YtgiijkbgbpohoaaSpS
namespace Go.Proofs.Ytgiijkbgbpohoaa
open Go.RowKit Go.ChangeShapes Go.WideShapes

theorem specAreSpans_any (v : Value) (Z : List Sp) (w : World) (hv : PV w v Z) (o : OKP Z) : Calls Try.prog 36 #[v] w (Says (spansB Z) w) := by
  have HV := Lib.hid hv
  obtain ⟨ao, cap, rfl⟩ := hv.long
  have hn := o.size
  clear hv o
  go_enter Try.func36, Try.ntmps36
  go_wp2_with fail
  go_at_call 61; refine (l06Spans_any _ Z _ HV.out hn).mono ?_; rintro e w' ⟨rfl, b⟩
  have B := Lib.hid b
  clear b
  go_wp2_with fail
  go_ret
  exact says rfl B.out
end Go.Proofs.Ytgiijkbgbpohoaa
