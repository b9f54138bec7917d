/- Whether all integers of a list are from one to another: the program. -/
import Derived.Test.YtnakpfbeeekmiaaMix
import Derived.Test.YtnakpfbeeekmiaaIl
import Derived.Deep.QuietTactic
import Derived.BigQuiet
namespace Go.Proofs.Ytnakpfbeeekmiaa
open Go.RowKit Go.ChangeShapes Go.WideShapes

theorem drew_more {w wr : World} (h : ∃ m, wr = w.drewN m) : ∀ n, ∃ m, wr.drewN n = w.drewN m := by
  obtain ⟨m, rfl⟩ := h
  exact fun n => ⟨_, World.drewN_drewN _ _ _⟩
set_option maxHeartbeats 1000000 in
theorem areFrom_any (lo : Int) (v : Value) (L : List Int) (hi : Int) (w : World) (hv : IL w v L) (hn : L.length ≤ 1048576) :
    Calls Try.prog 112 #[.int .i64 lo, v, .int .i64 hi] w (Tells (allIn L lo hi) w) := by
  rcases hv with ⟨rfl, ao, cap, rfl⟩ | ⟨b, off, cap, rfl, hpos, hbl, hcell⟩
  · go_enter Try.func112, Try.ntmps112
    go_wp2
    refine wp_loop_rounds 1 ?_
    rw [rounds_succ]
    go_wp2
    go_ret
    exact tells 0 rfl
  · have HC := Lib.hid hcell
    clear hcell
    go_enter Try.func112, Try.ntmps112
    go_wp2
    go_loopw [11] (fun i wr => ∃ k : Nat, k ≤ L.length ∧ i = .int .i64 k ∧ (∀ j, j < k → inB (L.getD j 0) lo hi = true) ∧ ∃ m, wr = w.drewN m) (fun i _ => L.length - (intOf i).toNat)
    case atStart => exact ⟨0, Nat.zero_le _, rfl, fun j hj => by omega, 0, rfl⟩
    case round =>
      obtain ⟨k, hk, rfl, hall, hwr⟩ := hrel
      have HL := Lib.hid hall
      have HW := Lib.hid (drew_more hwr)
      clear hall
      by_cases hlt : k < L.length
      · have c1 : wr.cell? ⟨b, off + k, none⟩ = some (.int .i64 (L.getD k 0)) := by obtain ⟨n, rfl⟩ := hwr; exact HC.out k hlt
        obtain ⟨y, hy⟩ : ∃ y, y = L.getD k 0 := ⟨_, rfl⟩
        rw [← hy] at c1
        have HY := Lib.hid hy
        clear hy hwr
        cases ht : inB y lo hi with
        | false =>
          have T := Lib.hid (show (decide (lo ≤ y) && decide (y ≤ hi)) = false from ht)
          clear ht
          go_wp2_with (go_at_call 56; refine (isFrom_is _ y lo hi _ T.out).mono ?_; rintro e w' ⟨rfl, m, rfl⟩)
          go_ret
          obtain ⟨m2, h2⟩ := HW.out m
          exact ⟨ret_bool (allIn_no hlt (by rw [← HY.out]; exact T.out)).symm, m2, h2⟩
        | true =>
          have T := Lib.hid (show (decide (lo ≤ y) && decide (y ≤ hi)) = true from ht)
          clear ht
          go_wp2_with (go_at_call 56; refine (isFrom_is _ y lo hi _ T.out).mono ?_; rintro e w' ⟨rfl, m, rfl⟩)
          go_roundw
          case rel => exact ⟨k + 1, by omega, by go_num, fun j hj => by
            by_cases e : j = k
            · subst e; rw [← HY.out]; exact T.out
            · exact HL.out j (by omega), HW.out m⟩
          case measure => simp [intOf]; omega
      · obtain rfl : k = L.length := by omega
        have HWR := Lib.hid hwr
        clear hwr
        go_wp2
        go_ret
        exact ⟨ret_bool (rngAll HL.out).symm, HWR.out⟩
theorem areFrom_is (t : Bool) (lo : Int) (v : Value) (L : List Int) (hi : Int) (w : World) (hv : IL w v L) (hn : L.length ≤ 1048576) (ht : allIn L lo hi = t) :
    Calls Try.prog 112 #[.int .i64 lo, v, .int .i64 hi] w (Tells t w) := by subst ht; exact areFrom_any lo v L hi w hv hn
end Go.Proofs.Ytnakpfbeeekmiaa
