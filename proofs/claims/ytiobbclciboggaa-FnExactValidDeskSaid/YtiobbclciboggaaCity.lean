/- AreCities: the program's side. -/
import Derived.Test.YtiobbclciboggaaCitI
namespace Go.Proofs.Ytiobbclciboggaa
open Go.RowKit Go.ChangeShapes Go.WideShapes

theorem citiesOf_yes (k : Nat) (v : Value) (L : List Int) (w : World) (hv : IL w v L) (hn : L.length ≤ 1048576) (h : cityB L = true) (hk : rootN L.length = k) :
    Calls Try.prog 169 #[v] w (SaysCit k v w) := by
  subst hk
  have := citiesOf_any v L w hv hn
  rw [h] at this
  exact this
theorem citiesOf_no (v : Value) (L : List Int) (w : World) (hv : IL w v L) (hn : L.length ≤ 1048576) (h : cityB L = false) :
    Calls Try.prog 169 #[v] w (SaysNoCit w) := by
  have := citiesOf_any v L w hv hn
  rw [h] at this
  exact this
theorem implAreCities_any (v : Value) (L : List Int) (w : World) (hv : IL w v L) (o : OKI L) :
    Calls Try.prog 151 #[v] w (Says (cityB L) w) := by
  have hn := o.size
  have HV := Lib.hid hv
  obtain ⟨ao, cap, rfl⟩ := hv.long
  clear hv
  cases h : cityB L with
  | true =>
    have H := Lib.hid h
    obtain ⟨k, hk⟩ : ∃ k, rootN L.length = k := ⟨_, rfl⟩
    have HK := Lib.hid hk
    clear h hk
    go_enter Try.func151, Try.ntmps151
    go_wp2_with fail
    go_at_call 169; refine (citiesOf_yes k _ L _ HV.out hn H.out HK.out).mono ?_; rintro e w1 ⟨B, rfl, hr⟩
    have HR := Lib.hid hr
    clear hr
    go_wp2_with fail
    go_ret
    exact says rfl (HR.out.below.trans ((below_alloc w1 _).mono HR.out.below.size))
  | false =>
    have H := Lib.hid h
    clear h
    go_enter Try.func151, Try.ntmps151
    go_wp2_with fail
    go_at_call 169; refine (citiesOf_no _ L _ HV.out hn H.out).mono ?_; rintro e w1 ⟨rfl, hr⟩
    have HR := Lib.hid hr
    clear hr
    go_wp2_with fail
    go_ret
    exact says rfl (HR.out.trans ((below_alloc w1 _).mono HR.out.size))
end Go.Proofs.Ytiobbclciboggaa
