/- Sizes: both sides. -/
import Derived.Test.YtiobbclciboggaaSzS
import Derived.Test.YtiobbclciboggaaArF
import Derived.Test.YtiobbclciboggaaMix
import Derived.Test.YtiobbclciboggaaIl
import Derived.Deep.QuietTactic
import Derived.BigQuiet
namespace Go.Proofs.Ytiobbclciboggaa
open Go.RowKit Go.ChangeShapes Go.WideShapes

theorem isCount_is (t : Bool) (v : Value) (L : List Int) (w : World) (hv : IL w v L) (ht : fewB L.length = t) :
    Calls Try.prog 147 #[v] w (Tells t w) := by
  obtain ⟨ao, cap, rfl⟩ := hv.long
  have H := Lib.hid (show (decide (1 ≤ (L.length : Int)) && decide ((L.length : Int) ≤ 16)) = t from ht)
  clear ht hv
  go_enter Try.func147, Try.ntmps147
  go_wp2_with fail
  go_at_call 66; refine (isFrom_is t _ 1 16 _ H.out).mono ?_; rintro e w' ⟨rfl, m, rfl⟩
  go_wp2_with fail
  go_ret
  exact tells _ rfl
theorem sizesB_eq (L : List Int) : sizesB L = (fewB L.length && allIn L 1 1000) := by unfold sizesB; exact Bool.and_comm _ _
set_option maxHeartbeats 1000000 in
theorem implSizes_any (v : Value) (L : List Int) (w : World) (hv : IL w v L) (hn : L.length ≤ 1048576) :
    Calls Try.prog 102 #[v] w (Tells (sizesB L) w) := by
  rw [sizesB_eq]
  have HV := Lib.hid hv
  cases h1 : fewB L.length with
  | false =>
    have H1 := Lib.hid h1
    clear h1 hv
    go_enter Try.func102, Try.ntmps102
    go_wp2_with fail
    go_at_call 147; refine (isCount_is false _ L _ HV.out H1.out).mono ?_; rintro e w' ⟨rfl, m, rfl⟩
    go_wp2_with fail
    go_ret
    exact tells _ rfl
  | true =>
    have H1 := Lib.hid h1
    cases h2 : allIn L 1 1000 with
    | false =>
      have H2 := Lib.hid h2
      clear h1 h2 hv
      go_enter Try.func102, Try.ntmps102
      go_wp2_with fail
      go_at_call 147; refine (isCount_is true _ L _ HV.out H1.out).mono ?_; rintro e w' ⟨rfl, m, rfl⟩
      go_wp2_with fail
      go_at_call 116; refine (areFrom_is false 1 _ L 1000 _ (VL.drewN HV.out _) hn H2.out).mono ?_; rintro e w' ⟨rfl, m2, rfl⟩
      go_wp2_with fail
      go_ret
      exact tells _ rfl
    | true =>
      have H2 := Lib.hid h2
      clear h1 h2 hv
      go_enter Try.func102, Try.ntmps102
      go_wp2_with fail
      go_at_call 147; refine (isCount_is true _ L _ HV.out H1.out).mono ?_; rintro e w' ⟨rfl, m, rfl⟩
      go_wp2_with fail
      go_at_call 116; refine (areFrom_is true 1 _ L 1000 _ (VL.drewN HV.out _) hn H2.out).mono ?_; rintro e w' ⟨rfl, m2, rfl⟩
      go_wp2_with fail
      go_ret
      exact tells _ rfl
theorem implSizes_is (t : Bool) (v : Value) (L : List Int) (w : World) (hv : IL w v L) (hn : L.length ≤ 1048576) (ht : sizesB L = t) :
    Calls Try.prog 102 #[v] w (Tells t w) := by subst ht; exact implSizes_any v L w hv hn
end Go.Proofs.Ytiobbclciboggaa
