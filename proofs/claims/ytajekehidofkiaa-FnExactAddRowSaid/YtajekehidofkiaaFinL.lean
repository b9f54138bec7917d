/- Finite lists of singles, on both sides. -/
import Derived.Test.YtajekehidofkiaaNum
import Derived.Deep.QuietTactic
import Derived.BigQuiet
import Derived.BigGuardPart
namespace Go.Proofs.Ytajekehidofkiaa
open Go.RowKit Go.ChangeShapes Go.WideShapes

theorem SL.long' {w : World} {v : Value} {Z : List Nat} (h : SL w v Z) : ∃ ao cap, v = .slice ao Z.length cap := VL.len (mk := Value.float .f32) (d := (0 : Nat)) h

theorem l02Finite_any (v : Value) (Z : List Nat) (w : World) (hv : SL w v Z) (hn : Z.length ≤ 1048576) :
    Calls Try.prog 83 #[v] w (Tells (finAll Z) w) := by
  rcases hv with ⟨rfl, ao, cap, rfl⟩ | ⟨b, off, cap, rfl, hpos, hbl, hcell⟩
  · go_enter Try.func83, Try.ntmps83
    go_wp2
    refine wp_loop_rounds 1 ?_
    rw [rounds_succ]
    go_wp2
    go_ret
    exact tells 0 rfl
  · go_enter Try.func83, Try.ntmps83
    go_wp2
    go_loopw [3] (fun i wr => ∃ k : Nat, k ≤ Z.length ∧ i = .int .i64 k ∧ (∀ j, j < k → fin32 (Z.getD j 0) = true) ∧ ∃ n, wr = w.drewN n) (fun i _ => Z.length - (intOf i).toNat)
    case atStart => exact ⟨0, Nat.zero_le _, rfl, fun j hj => by omega, 0, rfl⟩
    case round =>
      obtain ⟨k, hk, rfl, hall, n, rfl⟩ := hrel
      have HA := Lib.hid hall
      clear hall
      by_cases hlt : k < Z.length
      · have hc1 := hcell k hlt
        have HG := Lib.hid (getD_at hlt)
        clear hcell
        rw [getD_at hlt] at hc1
        cases hf : fin32 Z[k] with
        | true =>
          have HF := Lib.hid hf
          clear hf
          go_wp2_with (go_at_call 100; refine (l01Finite_any _ _).mono ?_; rintro e w' ⟨rfl, m, rfl⟩; rw [HF.out])
          go_roundw
          case rel => exact ⟨k + 1, by omega, by go_num, fun j hj => by
            by_cases e : j = k
            · subst e; rw [HG.out]; exact HF.out
            · exact HA.out j (by omega), _, rfl⟩
          case measure => simp [intOf]; omega
        | false =>
          have HF := Lib.hid hf
          clear hf
          go_wp2_with (go_at_call 100; refine (l01Finite_any _ _).mono ?_; rintro e w' ⟨rfl, m, rfl⟩; rw [HF.out])
          go_ret
          exact tells _ (all_false hlt (by rw [HG.out]; exact HF.out)).symm
      · obtain rfl : k = Z.length := by omega
        clear hcell
        go_wp2
        go_ret
        exact tells _ (all_true HA.out).symm

/-! ### areFinite -/
def finN (n : Int) (Z : List Nat) : Bool := decide ((Z.length : Int) = n) && finAll Z
theorem areFinite_no (n : Int) (v : Value) (Z : List Nat) (w : World) (hv : SL w v Z) (hne : (Z.length : Int) ≠ n) :
    Calls Try.prog 84 #[.int .i64 n, v] w (Tells (finN n Z) w) := by
  obtain ⟨ao, cap, rfl⟩ := SL.long' hv
  have hb : ((Z.length : Int) != n) = true := by simpa using hne
  have hr : finN n Z = false := by unfold finN; rw [decide_eq_false hne]; rfl
  rw [hr]
  clear hr hv hne
  go_enter Try.func84, Try.ntmps84
  go_wp2
  go_ret
  exact tells 0 rfl
theorem areFinite_yes (v : Value) (Z : List Nat) (w : World) (hv : SL w v Z) (hn : Z.length ≤ 1048576) :
    Calls Try.prog 84 #[.int .i64 (Z.length : Nat), v] w (Tells (finAll Z) w) := by
  rcases hv with ⟨rfl, ao, cap, rfl⟩ | ⟨b, off, cap, rfl, hpos, hbl, hcell⟩
  · go_enter Try.func84, Try.ntmps84
    go_wp2
    refine wp_loop_rounds 1 ?_
    rw [rounds_succ]
    go_wp2
    go_ret
    exact tells 0 rfl
  · go_enter Try.func84, Try.ntmps84
    go_wp2
    go_loopw [13] (fun i wr => ∃ k : Nat, k ≤ Z.length ∧ i = .int .i64 k ∧ (∀ j, j < k → fin32 (Z.getD j 0) = true) ∧ ∃ n, wr = w.drewN n) (fun i _ => Z.length - (intOf i).toNat)
    case atStart => exact ⟨0, Nat.zero_le _, rfl, fun j hj => by omega, 0, rfl⟩
    case round =>
      obtain ⟨k, hk, rfl, hall, n, rfl⟩ := hrel
      have HA := Lib.hid hall
      clear hall
      by_cases hlt : k < Z.length
      · have hc1 := hcell k hlt
        have HG := Lib.hid (getD_at hlt)
        clear hcell
        rw [getD_at hlt] at hc1
        cases hf : fin32 Z[k] with
        | true =>
          have HF := Lib.hid hf
          clear hf
          go_wp2_with (go_at_call 101; refine (implFinite_any _ _).mono ?_; rintro e w' ⟨rfl, m, rfl⟩; rw [HF.out])
          go_roundw
          case rel => exact ⟨k + 1, by omega, by go_num, fun j hj => by
            by_cases e : j = k
            · subst e; rw [HG.out]; exact HF.out
            · exact HA.out j (by omega), _, rfl⟩
          case measure => simp [intOf]; omega
        | false =>
          have HF := Lib.hid hf
          clear hf
          go_wp2_with (go_at_call 101; refine (implFinite_any _ _).mono ?_; rintro e w' ⟨rfl, m, rfl⟩; rw [HF.out])
          go_ret
          exact tells _ (all_false hlt (by rw [HG.out]; exact HF.out)).symm
      · obtain rfl : k = Z.length := by omega
        clear hcell
        go_wp2
        go_ret
        exact tells _ (all_true HA.out).symm
theorem areFinite_any (n : Int) (v : Value) (Z : List Nat) (w : World) (hv : SL w v Z) (hn : Z.length ≤ 1048576) :
    Calls Try.prog 84 #[.int .i64 n, v] w (Tells (finN n Z) w) := by
  by_cases h : (Z.length : Int) = n
  · subst h
    have e : finN (Z.length : Nat) Z = finAll Z := by unfold finN; rw [decide_eq_true rfl, Bool.true_and]
    rw [e]
    exact areFinite_yes v Z w hv hn
  · exact areFinite_no n v Z w hv h

theorem l02Least_any (x : Nat) (w : World) : Calls Try.prog 87 #[.float .f32 x] w (Tells (leastB x) w) := by
  unfold leastB geB
  cases hf : fin32 x with
  | true =>
    have HF := Lib.hid hf
    clear hf
    go_enter Try.func87, Try.ntmps87
    go_wp2_with (go_at_call 100; refine (l01Finite_any _ _).mono ?_; rintro e w' ⟨rfl, m, rfl⟩; rw [HF.out])
    go_ret
    exact tells _ (by simp)
  | false =>
    have HF := Lib.hid hf
    clear hf
    go_enter Try.func87, Try.ntmps87
    go_wp2_with (go_at_call 100; refine (l01Finite_any _ _).mono ?_; rintro e w' ⟨rfl, m, rfl⟩; rw [HF.out])
    go_ret
    exact tells _ rfl
end Go.Proofs.Ytajekehidofkiaa
