/- Jobs and machines: both sides' tests. -/
import Derived.Test.YtcnfmphokobgiaaLp0
import Derived.Test.YtcnfmphokobgiaaJbS
import Derived.Test.YtcnfmphokobgiaaJbI
namespace Go.Proofs.Ytcnfmphokobgiaa
open Go.RowKit Go.ChangeShapes Go.WideShapes

theorem l06Mach_is (t : Bool) (v : Value) (Z : List Ac) (m : Int) (w : World) (hv : AV w v Z) (hn : Z.length ≤ 1048576) (ht : macB Z m = t) :
    Calls Try.prog 59 #[v, .int .i64 m] w (Tells t w) := by
  subst ht
  have HV := Lib.hid hv
  obtain ⟨ao, cap, rfl⟩ := hv.long
  clear hv
  unfold macB
  cases h1 : jobsB Z with
  | false =>
    have H1 := Lib.hid h1
    clear h1
    go_enter Try.func59, Try.ntmps59
    go_wp2_with fail
    go_at_call 49; refine (l06Are_is false _ Z _ HV.out hn H1.out).mono ?_; rintro e w1 ⟨rfl, m1, rfl⟩
    go_wp2_with fail
    go_ret
    exact tells _ rfl
  | true =>
    have H1 := Lib.hid h1
    clear h1
    cases h2 : inB m 1 8 with
    | false =>
      have H2 := Lib.hid (show (decide (1 ≤ m) && decide (m ≤ 8)) = false from h2)
      clear h2
      go_enter Try.func59, Try.ntmps59
      go_wp2_with fail
      go_at_call 49; refine (l06Are_is true _ Z _ HV.out hn H1.out).mono ?_; rintro e w1 ⟨rfl, m1, rfl⟩
      go_wp2_with fail
      go_at_call 110; refine (l00In_is false m 1 8 _ H2.out).mono ?_; rintro e w1 ⟨rfl, m2, rfl⟩
      go_wp2_with fail
      go_ret
      exact tells _ rfl
    | true =>
      have H2 := Lib.hid (show (decide (1 ≤ m) && decide (m ≤ 8)) = true from h2)
      clear h2
      go_enter Try.func59, Try.ntmps59
      go_wp2_with fail
      go_at_call 49; refine (l06Are_is true _ Z _ HV.out hn H1.out).mono ?_; rintro e w1 ⟨rfl, m1, rfl⟩
      go_wp2_with fail
      go_at_call 110; refine (l00In_is true m 1 8 _ H2.out).mono ?_; rintro e w1 ⟨rfl, m2, rfl⟩
      go_wp2_with fail
      go_ret
      exact tells _ rfl
theorem forMach_is (t : Bool) (v : Value) (Z : List Ac) (m : Int) (w : World) (hv : AV w v Z) (hn : Z.length ≤ 1048576) (ht : macB Z m = t) :
    Calls Try.prog 62 #[v, .int .i64 m] w (Says t w) := by
  subst ht
  have HV := Lib.hid hv
  obtain ⟨ao, cap, rfl⟩ := hv.long
  clear hv
  unfold macB
  cases h1 : jobsB Z with
  | false =>
    have H1 := Lib.hid h1
    clear h1
    go_enter Try.func62, Try.ntmps62
    go_wp2_with fail
    go_at_call 52; refine (areJobs_is false _ Z _ HV.out hn H1.out).mono ?_; rintro e w1 ⟨rfl, b1⟩
    have B1 := Lib.hid b1
    clear b1
    go_wp2_with fail
    go_ret
    exact says rfl B1.out
  | true =>
    have H1 := Lib.hid h1
    clear h1
    cases h2 : inB m 1 8 with
    | false =>
      have H2 := Lib.hid (show (decide (1 ≤ m) && decide (m ≤ 8)) = false from h2)
      clear h2
      go_enter Try.func62, Try.ntmps62
      go_wp2_with fail
      go_at_call 52; refine (areJobs_is true _ Z _ HV.out hn H1.out).mono ?_; rintro e w1 ⟨rfl, b1⟩
      have B1 := Lib.hid b1
      clear b1
      go_wp2_with fail
      go_at_call 104; refine (isFrom_is false m 1 8 _ H2.out).mono ?_; rintro e w2 ⟨rfl, m2, rfl⟩
      go_wp2_with fail
      go_ret
      exact says rfl (below_drewN B1.out _)
    | true =>
      have H2 := Lib.hid (show (decide (1 ≤ m) && decide (m ≤ 8)) = true from h2)
      clear h2
      go_enter Try.func62, Try.ntmps62
      go_wp2_with fail
      go_at_call 52; refine (areJobs_is true _ Z _ HV.out hn H1.out).mono ?_; rintro e w1 ⟨rfl, b1⟩
      have B1 := Lib.hid b1
      clear b1
      go_wp2_with fail
      go_at_call 104; refine (isFrom_is true m 1 8 _ H2.out).mono ?_; rintro e w2 ⟨rfl, m2, rfl⟩
      go_wp2_with fail
      go_ret
      exact says rfl (below_drewN B1.out _)
end Go.Proofs.Ytcnfmphokobgiaa
