/- When jobs end in an order: the model's function of that name. -/
import Derived.Test.YtgiijkbgbpohoaaEnS
namespace Go.Proofs.Ytgiijkbgbpohoaa
open Go.RowKit Go.ChangeShapes Go.WideShapes

set_option maxHeartbeats 1000000 in
theorem specEndsOf_any (v : Value) (Z : List Ac) (u : Value) (T : List Int) (w : World) (hv : AV w v Z) (hu : IL w u T) (oZ : OKA Z) (_ : OKI T) :
    Calls Try.prog 20 #[v, u] w (SaysJB (endsL Z T) (jvalB Z T) w) := by
  have HV := Lib.hid hv
  have HU := Lib.hid hu
  have hn := oZ.size
  obtain ⟨ao, cap, rfl⟩ := hv.long
  obtain ⟨ao2, cap2, rfl⟩ := hu.long
  clear hv hu
  cases h : jvalB Z T with
  | false =>
    have H := Lib.hid h
    have HE := Lib.hid (endsL_no h)
    clear h
    go_enter Try.func20, Try.ntmps20
    go_wp2_with fail
    go_at_call 57; refine (l06Valid_is false _ _ Z T _ HV.out HU.out hn H.out).mono ?_; rintro e w1 ⟨rfl, b1⟩
    have B1 := Lib.hid b1
    clear b1
    go_wp2_with fail
    go_ret2
    exact ⟨_, rfl, by rw [HE.out]; exact SI.nil _ (Nat.le_refl _) _ _, B1.out⟩
  | true =>
    have H := Lib.hid h
    have HE := Lib.hid (endsL_yes h)
    have J := Lib.hid (jval_ok h)
    clear h
    go_enter Try.func20, Try.ntmps20
    go_wp2_with fail
    go_at_call 57; refine (l06Valid_is true _ _ Z T _ HV.out HU.out hn H.out).mono ?_; rintro e w1 ⟨rfl, b1⟩
    have B1 := Lib.hid b1
    clear b1
    go_wp2_with fail
    go_at_call 58; refine (l06Ends_any _ _ Z T _ (HV.out.below B1.out (Nat.le_refl _)) (HU.out.below B1.out (Nat.le_refl _)) J.out.1 J.out.2).mono ?_; rintro e w2 ⟨B, rfl, hr⟩
    have R := Lib.hid hr
    clear hr
    go_wp2_with fail
    go_ret2
    exact ⟨_, rfl, by rw [HE.out]; exact SI.wide (R.out.arr.si (lo := w.heap.size) (Nat.le_trans B1.out.size R.out.ge) R.out.lt) (Nat.le_refl _) (Nat.le_refl _) (Nat.le_refl _), B1.out.trans (R.out.below.mono B1.out.size)⟩
end Go.Proofs.Ytgiijkbgbpohoaa
