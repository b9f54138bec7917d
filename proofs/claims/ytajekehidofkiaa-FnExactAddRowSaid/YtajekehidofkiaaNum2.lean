/- Tests on lists of singles, on both sides. -/
import Derived.Test.YtajekehidofkiaaFinL
import Derived.Test.YtajekehidofkiaaNum
import Derived.Deep.QuietTactic
import Derived.BigQuiet
import Derived.BigGuardPart
namespace Go.Proofs.Ytajekehidofkiaa
open Go.RowKit Go.ChangeShapes Go.WideShapes

/-! ### areAtLeast -/
theorem areAtLeast_any (l : Nat) (v : Value) (Z : List Nat) (w : World) (hv : SL w v Z) (hn : Z.length ≤ 1048576) :
    Calls Try.prog 85 #[.float .f32 l, v] w (Tells (noLess l Z) w) := by
  rcases hv with ⟨rfl, ao, cap, rfl⟩ | ⟨b, off, cap, rfl, hpos, hbl, hcell⟩
  · go_enter Try.func85, Try.ntmps85
    go_wp2
    refine wp_loop_rounds 1 ?_
    rw [rounds_succ]
    go_wp2
    go_ret
    exact tells 0 rfl
  · go_enter Try.func85, Try.ntmps85
    go_wp2
    go_loop [9] (fun i => ∃ k : Nat, k ≤ Z.length ∧ i = .int .i64 k ∧ (∀ j, j < k → (!ltB (Z.getD j 0) l) = true)) (fun i => Z.length - (intOf i).toNat)
    case atStart => exact ⟨0, Nat.zero_le _, rfl, fun j hj => by omega⟩
    case round =>
      obtain ⟨k, hk, rfl, hall⟩ := hrel
      have HA := Lib.hid hall
      clear hall
      by_cases hlt : k < Z.length
      · have hc1 := hcell k hlt
        have HG := Lib.hid (getD_at hlt)
        clear hcell
        rw [getD_at hlt] at hc1
        cases hf : ltB Z[k] l with
        | false =>
          have HF := Lib.hid hf
          unfold ltB at hf
          go_wp2
          go_round
          case rel => exact ⟨k + 1, by omega, by go_num, fun j hj => by
            by_cases e : j = k
            · subst e; rw [HG.out, HF.out]; rfl
            · exact HA.out j (by omega)⟩
          case measure => simp [intOf]; omega
        | true =>
          have HF := Lib.hid hf
          unfold ltB at hf
          go_wp2
          go_ret
          exact tells 0 (all_false hlt (by rw [HG.out, HF.out]; rfl)).symm
      · obtain rfl : k = Z.length := by omega
        clear hcell
        go_wp2
        go_ret
        exact tells 0 (all_true HA.out).symm

/-! ### finite, and at least 0 -/
theorem l00In_any (n lo hi : Int) (w : World) : Calls Try.prog 64 #[.int .i64 n, .int .i64 lo, .int .i64 hi] w (Tells (decide (lo ≤ n) && decide (n ≤ hi)) w) := by
  by_cases h1 : lo ≤ n
  · by_cases h2 : n ≤ hi
    · rw [decide_eq_true h1, decide_eq_true h2]
      go_enter Try.func64, Try.ntmps64
      go_wp2
      go_ret
      exact tells 0 (by simp)
    · rw [decide_eq_true h1, decide_eq_false h2]
      go_enter Try.func64, Try.ntmps64
      go_wp2
      go_ret
      exact tells 0 (by simp)
  · rw [decide_eq_false h1]
    go_enter Try.func64, Try.ntmps64
    go_wp2
    go_ret
    exact tells 0 (by simp)
end Go.Proofs.Ytajekehidofkiaa
