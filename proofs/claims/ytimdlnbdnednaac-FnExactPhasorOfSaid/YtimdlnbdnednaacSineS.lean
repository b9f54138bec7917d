/- The sine of some turns: the model's function. -/
import Derived.Test.YtimdlnbdnednaacSineW
namespace Go.Proofs.Ytimdlnbdnednaac
open Go.RowKit
attribute [local go_sem] run_add run_sub run_mul run_quo Fl.cls_ares Fl.ord_bits run_neg

theorem partC_of (x : Nat) {b0 : Bool} (h0 : ltC (part0 x) (litC 0) = b0) : partC x = bif b0 then addC (part0 x) (litC 4607182418800017408) else part0 x := by
  unfold partC; rw [h0]

/-- Turns that are finite and not whole. -/
structure Small (x : Nat) : Prop where
  self : (Fl.ordC .f64 (Fl.arC .sub .f64 (Fl.cls .f64 x) (Fl.cls .f64 x)) (Fl.cls .f64 0) != some Ordering.eq) = false
  up : (Fl.ordC .f64 (Fl.cls .f64 x) (Fl.cls .f64 4841369599423283200) == some Ordering.gt || Fl.ordC .f64 (Fl.cls .f64 x) (Fl.cls .f64 4841369599423283200) == some Ordering.eq) = false
  down : (Fl.ordC .f64 (Fl.cls .f64 x) (Fl.cls .f64 14064741636278059008) == some Ordering.lt || Fl.ordC .f64 (Fl.cls .f64 x) (Fl.cls .f64 14064741636278059008) == some Ordering.eq) = false
  int : floatToIntVal .f64 x .i64 = some (toI x)

set_option maxHeartbeats 2000000 in
theorem l01SineWide_any (x : Nat) (hx : Small x) (w : World) : Calls Try.prog 62 #[.float .f64 x] w (Ans64 (sineC x) w) := by
  obtain ⟨hself, hup, hdown, hv⟩ := hx
  have hcv := conv_int x hv
  clear hv
  cases h0 : ltC (part0 x) (litC 0) <;> cases h1 : geC (partC x) (litC 4602678819172646912) <;> cases h2 : gtC (half (partC x)) (litC 4598175219545276416)
  all_goals
    have HP := Lib.hid (partC_of x h0)
    have HZ := Lib.hid (zC_of x h1 h2)
    have HS := Lib.hid (sineC_of x h1)
    unfold half at h2
    rw [h1] at h2
    rw [HP.out] at h1 h2
    simp only [ltC, geC, gtC, litC, subC, addC, intC, part0, cond_false, cond_true] at h0 h1 h2
    go_enter Try.func62, Try.ntmps62
    go_wp2
    generalize hzz : Fl.ares _ BinOp.mul FloatKind.f64 _ 4618760256179416344 = zz
    generalize huu : Fl.ares _ BinOp.mul FloatKind.f64 zz zz = uu
    have hz : Fl.cls .f64 zz = zC x := by rw [← hzz, HZ.out, HP.out]; simp only [Fl.cls_ares]; rfl
    have hu : Fl.cls .f64 uu = mulC (zC x) (zC x) := by rw [← huu, Fl.cls_ares, hz]; rfl
    have HZz := Lib.hid hz
    have HU := Lib.hid hu
    clear hzz huu hz hu h1 h2 h0 hself hup hdown hcv
    go_loopw [7, 8] (fun p k wr => ∃ j : Nat, j ≤ 8 ∧ k = .int .i64 (8 - (j : Int)) ∧ SumIs (mulC (zC x) (zC x)) j p ∧ ∃ n, wr = w.drewN n) (fun _ k _ => (intOf k).toNat)
    case atStart => exact ⟨0, by omega, rfl, ⟨_, rfl, rfl⟩, _, rfl⟩
    case round =>
      obtain ⟨j, hj, rfl, ⟨q, rfl, hq⟩, m, rfl⟩ := hrel
      have HQ := Lib.hid hq
      clear hq
      by_cases hlt : j < 8
      · go_wp2
        go_roundw
        case rel => exact ⟨j + 1, by omega, by go_num, sum_step HU.out HQ.out _ _ _ (wrap_prod j hlt), _, rfl⟩
        case measure => simp [intOf]; omega
      · obtain rfl : j = 8 := by omega
        go_wp2
        refine bodyPost_ret (results_tmp rfl _ _ _) rfl ?_
        exact ⟨_, _, rfl, rfl, by rw [HS.out]; simp only [cls_neg, Fl.cls_ares, HZz.out, HQ.out]; rfl⟩
end Go.Proofs.Ytimdlnbdnednaac
