/- Jobs are valid: the model's function of that name. -/
import Derived.Test.YtgiijkbgbpohoaaJbS
namespace Go.Proofs.Ytgiijkbgbpohoaa
open Go.RowKit Go.ChangeShapes Go.WideShapes

theorem specAreJobs_any (v : Value) (Z : List Ac) (w : World) (hv : AV w v Z) (o : OKA Z) : Calls Try.prog 16 #[v] w (Says (jobsB Z) w) := by
  have HV := Lib.hid hv
  obtain ⟨ao, cap, rfl⟩ := hv.long
  have hn := o.size
  clear hv o
  go_enter Try.func16, Try.ntmps16
  go_wp2_with fail
  go_at_call 50; refine (l06Are_any _ Z _ HV.out hn).mono ?_; rintro e w' ⟨rfl, m, rfl⟩
  go_wp2_with fail
  go_ret
  exact (tells _ rfl : Tells _ _ _ _).says
end Go.Proofs.Ytgiijkbgbpohoaa
