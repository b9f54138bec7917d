/- Marks of lists of jobs are found again. -/
import Derived.Test.YtiobbclciboggaaJobK
namespace Go.Proofs.Ytiobbclciboggaa
open Go.RowKit Go.ChangeShapes Go.WideShapes

set_option maxHeartbeats 400000 in
theorem heldJobS_any (v : Value) (k : Int) (n : Nat) (w : World) (hv : AV w v (marksA k n)) (hn : n ≤ 1048576) (hk0 : 0 ≤ k) (hk1 : k ≤ 1099511627776) :
    Calls Try.prog 90 #[v, .int .i64 k] w fun e w' => e = .returned (.int .i64 (k + ((4 * n : Nat) : Int))) ∧ w = w' := by
  rcases hv with ⟨h0, ao, cap, rfl⟩ | ⟨b, off, cap, rfl, hpos, hbl, hcell⟩
  · have hn0 : n = 0 := by have := marksA_len k n; rw [h0] at this; simpa using this.symm
    subst hn0
    clear h0
    go_enter Try.func90, Try.ntmps90
    go_wp2
    refine wp_loop_rounds 1 ?_
    rw [rounds_succ]
    go_wp2
    go_ret
    exact ⟨by simp, rfl⟩
  · rw [marksA_len] at hpos hcell ⊢
    have HC := Lib.hid hcell
    clear hcell
    go_enter Try.func90, Try.ntmps90
    go_wp2
    go_loop [1, 5] (fun kk i => ∃ j : Nat, j ≤ n ∧ i = .int .i64 j ∧ kk = .int .i64 (k + 4 * (j : Int))) (fun _ i => n - (intOf i).toNat)
    case atStart => exact ⟨0, Nat.zero_le _, rfl, by simp⟩
    case round =>
      obtain ⟨j, hj, rfl, rfl⟩ := hrel
      by_cases hlt : j < n
      · obtain ⟨c0, c1, c2, c3⟩ := HC.out j hlt
        rw [marksA_at hlt] at c0 c1 c2 c3
        unfold mkA at c0 c1 c2 c3
        go_wp2_with fail
        go_round
        case rel => exact ⟨j + 1, by omega, by go_num, by go_num⟩
        case measure => simp [intOf]; omega
      · obtain rfl : j = n := by omega
        go_wp2
        go_ret
        exact ⟨ret_mark, rfl⟩
theorem heldA_says (v : Value) (k : Int) (n : Nat) (w : World) (hv : AV w v (marksA k n)) (hn : n ≤ 1048576) (hk0 : 0 ≤ k) (hk1 : k ≤ 1099511627776) :
    Calls Try.prog 90 #[v, .int .i64 k] w fun e w' => e = .returned (.int .i64 (k + ((4 * n : Nat) : Int))) ∧ Below w.heap.size w w' :=
  (heldJobS_any v k n w hv hn hk0 hk1).mono fun _ _ ⟨h1, h2⟩ => ⟨h1, by rw [← h2]; exact Below.refl _ _⟩
end Go.Proofs.Ytiobbclciboggaa
