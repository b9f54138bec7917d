/- cmp.Compare of integers; orders by a key. -/
import Derived.Test.YtbaaocgdpgoggaaIns1
import Derived.Test.YtbaaocgdpgoggaaStb
import Derived.Deep.QuietTactic
import Derived.BigQuiet
namespace Go.Proofs.Ytbaaocgdpgoggaa
open Go.RowKit Go.ChangeShapes Go.WideShapes

theorem isNaNC (a : Int) (w : World) : Calls Try.prog 161 #[.int .i64 a] w (fun e w' => e = .returned (.bool false) ∧ w = w') := by
  have h : ((a : Int) != a) = false := by simp
  go_enter Try.func161, Try.ntmps161
  go_wp2_with fail
  go_ret
  exact ⟨rfl, rfl⟩
theorem compare_any (a b : Int) (w : World) : Calls Try.prog 90 #[.int .i64 a, .int .i64 b] w (fun e w' => e = .returned (.int .i64 (cmpI a b)) ∧ w = w') := by
  unfold cmpI
  by_cases h : a < b
  · rw [if_pos h]
    go_enter Try.func90, Try.ntmps90
    go_wp2_with (go_at_call 161; refine (isNaNC _ _).mono ?_; rintro e w' ⟨rfl, rfl⟩)
    go_ret
    exact ⟨rfl, rfl⟩
  · rw [if_neg h]
    by_cases h2 : b < a
    · rw [if_pos h2]
      have d : decide (a > b) = true := by simp; omega
      go_enter Try.func90, Try.ntmps90
      go_wp2_with (go_at_call 161; refine (isNaNC _ _).mono ?_; rintro e w' ⟨rfl, rfl⟩)
      go_ret
      exact ⟨rfl, rfl⟩
    · rw [if_neg h2]
      have d : decide (a > b) = false := by simp; omega
      go_enter Try.func90, Try.ntmps90
      go_wp2_with (go_at_call 161; refine (isNaNC _ _).mono ?_; rintro e w' ⟨rfl, rfl⟩)
      go_ret
      exact ⟨rfl, rfl⟩
theorem ltC_asc (K : Nat → Int) : ltC (fun x y => cmpI (K x) (K y)) = ltK K := by
  funext x y; exact cmpI_neg _ _
theorem ltC_desc (K : Nat → Int) : ltC (fun x y => cmpI (K y) (K x)) = ltK fun i => - K i := by
  funext x y
  show decide (cmpI (K y) (K x) < 0) = decide (- K x < - K y)
  rw [cmpI_neg]
  by_cases h : K y < K x
  · rw [decide_eq_true h, decide_eq_true (by omega)]
  · rw [decide_eq_false h, decide_eq_false (by omega)]
end Go.Proofs.Ytbaaocgdpgoggaa
