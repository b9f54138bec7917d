/- The sine of some turns: both sides' loops. -/
import Derived.Test.YtimdlnbdnednaacSineC
namespace Go.Proofs.Ytimdlnbdnednaac
open Go.RowKit
attribute [local go_sem] run_add run_sub run_mul run_quo Fl.cls_ares Fl.ord_bits run_neg

def Ans64 (C : Option Nat) (w : World) (e : Ending) (w' : World) : Prop := ∃ r n, e = .returned (.float .f64 r) ∧ w' = w.drewN n ∧ Fl.cls .f64 r = C
theorem conv_int (x : Nat) (hv : floatToIntVal .f64 x .i64 = some (toI x)) (W : World) : (convert 22 2 (.float .f64 x)).run Try.prog W = .ok (.int .i64 (toI x)) W :=
  run_convert_float_int W _ _ .f64 .i64 x (toI x) (by rw [Try.underlying22]; rfl) Try.underlying2 hv

theorem partOfTurn_any (x : Nat) (hv : floatToIntVal .f64 x .i64 = some (toI x)) (w : World) : Calls Try.prog 41 #[.float .f64 x] w (Ans64 (partC x) w) := by
  have hcv := conv_int x hv
  clear hv
  cases h : ltC (part0 x) (litC 0) with
  | true =>
    have hP : Hid (partC x = addC (part0 x) (litC 4607182418800017408)) := Lib.hid (by unfold partC; rw [h]; rfl)
    simp only [ltC, part0, subC, litC, intC] at h
    go_enter Try.func41, Try.ntmps41
    go_wp2
    refine bodyPost_ret (results_tmp rfl _ _ _) rfl ?_
    exact ⟨_, _, rfl, rfl, by rw [hP.out, Fl.cls_ares, Fl.cls_ares]; rfl⟩
  | false =>
    have hP : Hid (partC x = part0 x) := Lib.hid (by unfold partC; rw [h]; rfl)
    simp only [ltC, part0, subC, litC, intC] at h
    go_enter Try.func41, Try.ntmps41
    go_wp2
    refine bodyPost_ret (results_tmp rfl _ _ _) rfl ?_
    exact ⟨_, _, rfl, rfl, by rw [hP.out, Fl.cls_ares]; rfl⟩

def SumIs (u : Option Nat) (j : Nat) (s : Value) : Prop := ∃ r, s = .float .f64 r ∧ Fl.cls .f64 r = sumC u j
theorem sum_step {u : Option Nat} {U : Nat} (hu : Fl.cls .f64 U = u) {j r : Nat} {n : Int} (hr : Fl.cls .f64 r = sumC u j) (w1 w2 w3 : World) (hn : n = 2 * (8 - (j : Int)) * (2 * (8 - (j : Int)) + 1)) :
    SumIs u (j + 1) (.float .f64 (Fl.ares w1 .sub .f64 4607182418800017408 (Fl.ares w2 .quo .f64 (Fl.ares w3 .mul .f64 U r) (floatOfInt .f64 n)))) :=
  ⟨_, rfl, by rw [Fl.cls_ares, Fl.cls_ares, Fl.cls_ares, hr, hu, hn]; rfl⟩

theorem wrap_prod (j : Nat) (h : j < 8) : wrap64 (2 * (8 - (j : Int)) * (2 * (8 - (j : Int)) + 1)) = 2 * (8 - (j : Int)) * (2 * (8 - (j : Int)) + 1) := by
  rcases (by omega : j = 0 ∨ j = 1 ∨ j = 2 ∨ j = 3 ∨ j = 4 ∨ j = 5 ∨ j = 6 ∨ j = 7) with rfl | rfl | rfl | rfl | rfl | rfl | rfl | rfl <;> exact IntWalk.wrap64_in _ (by omega)
/-- A slot that holds a double of a class. -/
def Is (C : Option Nat) (v : Value) : Prop := ∃ r, v = .float .f64 r ∧ Fl.cls .f64 r = C
theorem zC_of (x : Nat) {b1 b2 : Bool} (h1 : geC (partC x) (litC 4602678819172646912) = b1) (h2 : gtC (half (partC x)) (litC 4598175219545276416) = b2) :
    zC x = mulC (bif b2 then subC (litC 4602678819172646912) (bif b1 then subC (partC x) (litC 4602678819172646912) else partC x) else (bif b1 then subC (partC x) (litC 4602678819172646912) else partC x)) (litC 4618760256179416344) := by
  unfold zC fold
  rw [h2]
  unfold half
  rw [h1]
theorem sineC_of (x : Nat) {b1 : Bool} (h1 : geC (partC x) (litC 4602678819172646912) = b1) :
    sineC x = bif b1 then negC (mulC (zC x) (sumC (mulC (zC x) (zC x)) 8)) else mulC (zC x) (sumC (mulC (zC x) (zC x)) 8) := by
  unfold sineC; rw [h1]

set_option maxHeartbeats 2000000 in
theorem wideSine_any (x : Nat) (hv : floatToIntVal .f64 x .i64 = some (toI x)) (w : World) : Calls Try.prog 42 #[.float .f64 x] w (Ans64 (sineC x) w) := by
  have HV := Lib.hid hv
  clear hv
  cases h1 : geC (partC x) (litC 4602678819172646912) <;> cases h2 : gtC (half (partC x)) (litC 4598175219545276416)
  all_goals
    have HZ := Lib.hid (zC_of x h1 h2)
    have HS := Lib.hid (sineC_of x h1)
    unfold half at h2
    rw [h1] at h2
    simp only [geC, gtC, litC, subC, cond_false, cond_true] at h1 h2
    go_enter Try.func42, Try.ntmps42
    go_wp2_with fail
    go_at_call 41; refine (partOfTurn_any x HV.out _).mono ?_; rintro e w' ⟨r, n, rfl, rfl, hc⟩
    go_wp2
    generalize hzz : Fl.ares _ BinOp.mul FloatKind.f64 _ 4618760256179416344 = zz
    generalize huu : Fl.ares _ BinOp.mul FloatKind.f64 zz zz = uu
    have hz : Fl.cls .f64 zz = zC x := by rw [← hzz, HZ.out]; simp only [Fl.cls_ares, hc]; rfl
    have hu : Fl.cls .f64 uu = mulC (zC x) (zC x) := by rw [← huu, Fl.cls_ares, hz]; rfl
    have HZz := Lib.hid hz
    have HU := Lib.hid hu
    clear hzz huu hz hu h1 h2 hc
    go_loopw [7, 8] (fun p k wr => ∃ j : Nat, j ≤ 8 ∧ k = .int .i64 (8 - (j : Int)) ∧ SumIs (mulC (zC x) (zC x)) j p ∧ ∃ n, wr = w.drewN n) (fun _ k _ => (intOf k).toNat)
    case atStart => exact ⟨0, by omega, rfl, ⟨_, rfl, rfl⟩, _, rfl⟩
    case round =>
      obtain ⟨j, hj, rfl, ⟨q, rfl, hq⟩, m, rfl⟩ := hrel
      have HQ := Lib.hid hq
      clear hq
      by_cases hlt : j < 8
      · go_wp2
        go_roundw
        case rel => exact ⟨j + 1, by omega, by go_num, sum_step HU.out HQ.out _ _ _ (wrap_prod j hlt), _, rfl⟩
        case measure => simp [intOf]; omega
      · obtain rfl : j = 8 := by omega
        go_wp2
        refine bodyPost_ret (results_tmp rfl _ _ _) rfl ?_
        exact ⟨_, _, rfl, rfl, by rw [HS.out]; simp only [cls_neg, Fl.cls_ares, HZz.out, HQ.out]; rfl⟩
end Go.Proofs.Ytimdlnbdnednaac
