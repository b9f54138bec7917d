/- Jobs and machines: both sides' tests. -/
import Derived.Test.YtgiijkbgbpohoaaLp0
import Derived.Test.YtgiijkbgbpohoaaJbS
import Derived.Test.YtgiijkbgbpohoaaJbI
namespace Go.Proofs.Ytgiijkbgbpohoaa
open Go.RowKit Go.ChangeShapes Go.WideShapes

theorem l06Mach_is (t : Bool) (v : Value) (Z : List Ac) (m : Int) (w : World) (hv : AV w v Z) (hn : Z.length ≤ 1048576) (ht : macB Z m = t) :
    Calls Try.prog 69 #[v, .int .i64 m] w (Tells t w) := by
  subst ht
  have HV := Lib.hid hv
  obtain ⟨ao, cap, rfl⟩ := hv.long
  clear hv
  unfold macB
  cases h1 : jobsB Z with
  | false =>
    have H1 := Lib.hid h1
    clear h1
    go_enter Try.func69, Try.ntmps69
    go_wp2_with fail
    go_at_call 50; refine (l06Are_is false _ Z _ HV.out hn H1.out).mono ?_; rintro e w1 ⟨rfl, m1, rfl⟩
    go_wp2_with fail
    go_ret
    exact tells _ rfl
  | true =>
    have H1 := Lib.hid h1
    clear h1
    cases h2 : inB m 1 8 with
    | false =>
      have H2 := Lib.hid (show (decide (1 ≤ m) && decide (m ≤ 8)) = false from h2)
      clear h2
      go_enter Try.func69, Try.ntmps69
      go_wp2_with fail
      go_at_call 50; refine (l06Are_is true _ Z _ HV.out hn H1.out).mono ?_; rintro e w1 ⟨rfl, m1, rfl⟩
      go_wp2_with fail
      go_at_call 67; refine (l00In_is false m 1 8 _ H2.out).mono ?_; rintro e w1 ⟨rfl, m2, rfl⟩
      go_wp2_with fail
      go_ret
      exact tells _ rfl
    | true =>
      have H2 := Lib.hid (show (decide (1 ≤ m) && decide (m ≤ 8)) = true from h2)
      clear h2
      go_enter Try.func69, Try.ntmps69
      go_wp2_with fail
      go_at_call 50; refine (l06Are_is true _ Z _ HV.out hn H1.out).mono ?_; rintro e w1 ⟨rfl, m1, rfl⟩
      go_wp2_with fail
      go_at_call 67; refine (l00In_is true m 1 8 _ H2.out).mono ?_; rintro e w1 ⟨rfl, m2, rfl⟩
      go_wp2_with fail
      go_ret
      exact tells _ rfl
theorem forMach_is (t : Bool) (v : Value) (Z : List Ac) (m : Int) (w : World) (hv : AV w v Z) (hn : Z.length ≤ 1048576) (ht : macB Z m = t) :
    Calls Try.prog 71 #[v, .int .i64 m] w (Says t w) := by
  subst ht
  have HV := Lib.hid hv
  obtain ⟨ao, cap, rfl⟩ := hv.long
  clear hv
  unfold macB
  cases h1 : jobsB Z with
  | false =>
    have H1 := Lib.hid h1
    clear h1
    go_enter Try.func71, Try.ntmps71
    go_wp2_with fail
    go_at_call 18; refine (areJobs_is false _ Z _ HV.out hn H1.out).mono ?_; rintro e w1 ⟨rfl, b1⟩
    have B1 := Lib.hid b1
    clear b1
    go_wp2_with fail
    go_ret
    exact says rfl B1.out
  | true =>
    have H1 := Lib.hid h1
    clear h1
    cases h2 : inB m 1 8 with
    | false =>
      have H2 := Lib.hid (show (decide (1 ≤ m) && decide (m ≤ 8)) = false from h2)
      clear h2
      go_enter Try.func71, Try.ntmps71
      go_wp2_with fail
      go_at_call 18; refine (areJobs_is true _ Z _ HV.out hn H1.out).mono ?_; rintro e w1 ⟨rfl, b1⟩
      have B1 := Lib.hid b1
      clear b1
      go_wp2_with fail
      go_at_call 54; refine (isFrom_is false m 1 8 _ H2.out).mono ?_; rintro e w2 ⟨rfl, m2, rfl⟩
      go_wp2_with fail
      go_ret
      exact says rfl (below_drewN B1.out _)
    | true =>
      have H2 := Lib.hid (show (decide (1 ≤ m) && decide (m ≤ 8)) = true from h2)
      clear h2
      go_enter Try.func71, Try.ntmps71
      go_wp2_with fail
      go_at_call 18; refine (areJobs_is true _ Z _ HV.out hn H1.out).mono ?_; rintro e w1 ⟨rfl, b1⟩
      have B1 := Lib.hid b1
      clear b1
      go_wp2_with fail
      go_at_call 54; refine (isFrom_is true m 1 8 _ H2.out).mono ?_; rintro e w2 ⟨rfl, m2, rfl⟩
      go_wp2_with fail
      go_ret
      exact says rfl (below_drewN B1.out _)
end Go.Proofs.Ytgiijkbgbpohoaa
