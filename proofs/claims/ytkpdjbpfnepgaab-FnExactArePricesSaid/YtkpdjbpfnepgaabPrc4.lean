/- Prices of rows: the model's side, for all arguments. -/
import Derived.Test.YtkpdjbpfnepgaabPrc3
namespace Go.Proofs.Ytkpdjbpfnepgaab
open Go.RowKit Go.ChangeShapes Go.WideShapes
theorem specArePrices_any (v : Value) (R : Rw) (u : Value) (Y : List Nat) (a : Nat) (w : World) (hv : RV w v R) (hu : SL w u Y) (oR : OKR R) (oY : OKF Y) (_oa : a < 4294967296) :
    Calls Try.prog 22 #[v, u, .float .f32 a] w (Says (arePrB R Y a) w) := by
  cases h1 : pricedB R Y with
  | false =>
    rw [arePr_no1 h1]
    have hx := oY.size
    have hn := oR.size
    have HU := Lib.hid hu
    have HB := Lib.hid (below_alloc w)
    obtain ⟨s1, s2, s3, rfl, g1, g2, g3⟩ := hv
    have HP := Lib.hid (RP.box w g1 g2 g3)
    have H1 := Lib.hid h1
    clear g1 g2 g3 h1 hu
    go_enter Try.func22, Try.ntmps22
    go_wp2_with fail
    go_at_call 66; refine (l02Priced_is false _ _ s2 _ R _ Y _ HP.out (HU.out.below (HB.out _) (Nat.le_refl _)) hn hx H1.out).mono ?_; rintro e w1 ⟨rfl, n1, rfl⟩
    go_wp2_with fail
    go_ret
    exact says rfl (below_drewN (HB.out _) _)
  | true =>
    cases h2 : leastB a with
    | true => exact specArePrices_yes v R u Y a w hv hu oR oY h1 h2
    | false =>
      rw [arePr_no2 h2]
      have hx := oY.size
      have hn := oR.size
      have HU := Lib.hid hu
      have HB := Lib.hid (below_alloc w)
      obtain ⟨s1, s2, s3, rfl, g1, g2, g3⟩ := hv
      have HP := Lib.hid (RP.box w g1 g2 g3)
      have H1 := Lib.hid h1
      have H2 := Lib.hid h2
      clear g1 g2 g3 h1 h2 hu
      go_enter Try.func22, Try.ntmps22
      go_wp2_with fail
      go_at_call 66; refine (l02Priced_is true _ _ s2 _ R _ Y _ HP.out (HU.out.below (HB.out _) (Nat.le_refl _)) hn hx H1.out).mono ?_; rintro e w1 ⟨rfl, n1, rfl⟩
      go_wp2_with fail
      go_at_call 56; refine (l02Lst_is false _ _ H2.out).mono ?_; rintro e w2 ⟨rfl, n2, rfl⟩
      go_wp2_with fail
      go_ret
      exact says rfl (below_drewN (HB.out _) _)
end Go.Proofs.Ytkpdjbpfnepgaab
