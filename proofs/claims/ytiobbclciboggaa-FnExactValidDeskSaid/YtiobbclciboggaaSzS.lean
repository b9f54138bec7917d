/- Sizes: the model. -/
import Derived.Test.YtiobbclciboggaaArF
import Derived.Test.YtiobbclciboggaaMix
import Derived.Test.YtiobbclciboggaaIl
import Derived.Deep.QuietTactic
import Derived.BigQuiet
namespace Go.Proofs.Ytiobbclciboggaa
open Go.RowKit Go.ChangeShapes Go.WideShapes

theorem fewB_cases {n : Nat} : (fewB n = true ∧ 1 ≤ (n : Int) ∧ (n : Int) ≤ 16) ∨ (fewB n = false ∧ (n : Int) < 1) ∨ (fewB n = false ∧ 1 ≤ (n : Int) ∧ 16 < (n : Int)) := by
  unfold fewB
  by_cases h1 : 1 ≤ (n : Int)
  · by_cases h2 : (n : Int) ≤ 16
    · exact Or.inl ⟨by simp [h1, h2], h1, h2⟩
    · exact Or.inr (Or.inr ⟨by simp; omega, h1, by omega⟩)
  · exact Or.inr (Or.inl ⟨by simp; omega, by omega⟩)
set_option maxHeartbeats 1000000 in
theorem l04Sizes_any (v : Value) (L : List Int) (w : World) (hv : IL w v L) (hn : L.length ≤ 1048576) :
    Calls Try.prog 142 #[v] w (Tells (sizesB L) w) := by
  unfold sizesB
  rcases hv with ⟨rfl, ao, cap, rfl⟩ | ⟨b, off, cap, rfl, hpos, hbl, hcell⟩
  · go_enter Try.func142, Try.ntmps142
    go_wp2
    refine wp_loop_rounds 1 ?_
    rw [rounds_succ]
    go_wp2
    go_ret
    exact tells 0 rfl
  · have HC := Lib.hid hcell
    clear hcell
    go_enter Try.func142, Try.ntmps142
    go_wp2
    go_loopw [3] (fun i wr => ∃ k : Nat, k ≤ L.length ∧ i = .int .i64 k ∧ (∀ j, j < k → inB (L.getD j 0) 1 1000 = true) ∧ ∃ m, wr = w.drewN m) (fun i _ => L.length - (intOf i).toNat)
    case atStart => exact ⟨0, Nat.zero_le _, rfl, fun j hj => by omega, 0, rfl⟩
    case round =>
      obtain ⟨k, hk, rfl, hall, hwr⟩ := hrel
      have HL := Lib.hid hall
      have HW := Lib.hid (drew_more hwr)
      clear hall
      by_cases hlt : k < L.length
      · have c1 : wr.cell? ⟨b, off + k, none⟩ = some (.int .i64 (L.getD k 0)) := by obtain ⟨n, rfl⟩ := hwr; exact HC.out k hlt
        obtain ⟨y, hy⟩ : ∃ y, y = L.getD k 0 := ⟨_, rfl⟩
        rw [← hy] at c1
        have HY := Lib.hid hy
        clear hy hwr
        cases ht : inB y 1 1000 with
        | false =>
          have T := Lib.hid (show (decide (1 ≤ y) && decide (y ≤ 1000)) = false from ht)
          clear ht
          go_wp2_with (go_at_call 64; refine (l00In_is _ y 1 1000 _ T.out).mono ?_; rintro e w' ⟨rfl, m, rfl⟩)
          go_ret
          obtain ⟨m2, h2⟩ := HW.out m
          exact ⟨ret_bool (by rw [allIn_no hlt (by rw [← HY.out]; exact T.out), Bool.false_and]), m2, h2⟩
        | true =>
          have T := Lib.hid (show (decide (1 ≤ y) && decide (y ≤ 1000)) = true from ht)
          clear ht
          go_wp2_with (go_at_call 64; refine (l00In_is _ y 1 1000 _ T.out).mono ?_; rintro e w' ⟨rfl, m, rfl⟩)
          go_roundw
          case rel => exact ⟨k + 1, by omega, by go_num, fun j hj => by
            by_cases e : j = k
            · subst e; rw [← HY.out]; exact T.out
            · exact HL.out j (by omega), HW.out m⟩
          case measure => simp [intOf]; omega
      · obtain rfl : k = L.length := by omega
        have HWR := Lib.hid hwr
        have HA : Hid (allIn L 1 1000 = true) := Lib.hid (rngAll HL.out)
        clear hwr
        rcases fewB_cases (n := L.length) with ⟨f, f1, f2⟩ | ⟨f, f1⟩ | ⟨f, f1, f2⟩
        · have F := Lib.hid f
          clear f
          go_wp2
          go_ret
          exact ⟨ret_bool (by rw [HA.out, F.out]; simp <;> omega), HWR.out⟩
        · omega
        · have F := Lib.hid f
          clear f
          go_wp2
          go_ret
          exact ⟨ret_bool (by rw [HA.out, F.out]; simp <;> omega), HWR.out⟩
theorem l04Sizes_is (t : Bool) (v : Value) (L : List Int) (w : World) (hv : IL w v L) (hn : L.length ≤ 1048576) (ht : sizesB L = t) :
    Calls Try.prog 142 #[v] w (Tells t w) := by subst ht; exact l04Sizes_any v L w hv hn
end Go.Proofs.Ytiobbclciboggaa
