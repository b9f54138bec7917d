/- Is an integer in a list? Both sides. -/
import Derived.Test.YtnakpfbeeekmiaaIl
import Derived.Test.YtnakpfbeeekmiaaInS
import Derived.Outline
namespace Go.Proofs.Ytnakpfbeeekmiaa
open Go.RowKit Go.ChangeShapes Go.WideShapes

theorem any_yes {S : List Int} {x : Int} {k : Nat} (hk : k < S.length) (h : (S.getD k 0 == x) = true) : inS S x = true := by
  unfold inS
  rw [List.any_eq_true]
  exact ⟨k, List.mem_range.2 hk, h⟩
theorem any_no {S : List Int} {x : Int} (h : ∀ k, k < S.length → (S.getD k 0 == x) = false) : inS S x = false := by
  unfold inS
  rw [Bool.eq_false_iff]
  intro hc
  obtain ⟨k, hk, h1⟩ := List.any_eq_true.1 hc
  rw [h k (List.mem_range.1 hk)] at h1; cases h1

theorem l00Has_any (v : Value) (S : List Int) (x : Int) (w : World) (hv : IL w v S) (hn : S.length ≤ 1048576) :
    Calls Try.prog 69 #[v, .int .i64 x] w fun e w' => e = .returned (.bool (inS S x)) ∧ w = w' := by
  rcases hv with ⟨rfl, ao, cap, rfl⟩ | ⟨b, off, cap, rfl, hpos, hbl, hcell⟩
  · go_enter Try.func69, Try.ntmps69
    go_wp2
    refine wp_loop_rounds 1 ?_
    rw [rounds_succ]
    go_wp2
    go_ret
    exact ⟨rfl, rfl⟩
  · have HC := Lib.hid hcell
    clear hcell
    go_enter Try.func69, Try.ntmps69
    go_wp2
    go_loop [5] (fun i => ∃ k : Nat, k ≤ S.length ∧ i = .int .i64 k ∧ ∀ j, j < k → (S.getD j 0 == x) = false) (fun i => S.length - (intOf i).toNat)
    case atStart => exact ⟨0, Nat.zero_le _, rfl, fun j hj => by omega⟩
    case round =>
      obtain ⟨k, hk, rfl, hall⟩ := hrel
      have HL := Lib.hid hall
      clear hall
      by_cases hlt : k < S.length
      · have c1 := HC.out k hlt
        obtain ⟨y, hy⟩ : ∃ y, y = S.getD k 0 := ⟨_, rfl⟩
        rw [← hy] at c1
        have HY := Lib.hid hy
        clear hy
        cases ht : (y == x) with
        | true =>
          have T := Lib.hid ht
          go_wp2_with fail
          go_ret
          exact ⟨ret_bool (any_yes hlt (by rw [← HY.out]; exact T.out)).symm, rfl⟩
        | false =>
          have T := Lib.hid ht
          go_wp2_with fail
          go_round
          case rel => exact ⟨k + 1, by omega, by go_num, fun j hj => by
            by_cases e : j = k
            · subst e; rw [← HY.out]; exact T.out
            · exact HL.out j (by omega)⟩
          case measure => simp [intOf]; omega
      · obtain rfl : k = S.length := by omega
        go_wp2_with fail
        go_ret
        exact ⟨ret_bool (any_no HL.out).symm, rfl⟩
/-- The index at which a list holds a number first, -1 if it does not. -/
def IndexOf (S : List Int) (x : Int) (w : World) (e : Ending) (w' : World) : Prop := ∃ n : Int, e = .returned (.int .i64 n) ∧ decide (n ≥ 0) = inS S x ∧ w = w'
theorem index_any (v : Value) (S : List Int) (x : Int) (w : World) (hv : IL w v S) (hn : S.length ≤ 1048576) :
    Calls Try.prog 90 #[v, .int .i64 x] w (IndexOf S x w) := by
  rcases hv with ⟨rfl, ao, cap, rfl⟩ | ⟨b, off, cap, rfl, hpos, hbl, hcell⟩
  · go_enter Try.func90, Try.ntmps90
    go_wp2
    refine wp_loop_rounds 1 ?_
    rw [rounds_succ]
    go_wp2
    go_ret
    exact ⟨_, rfl, by show decide ((-1 : Int) ≥ 0) = false; decide, rfl⟩
  · have HC := Lib.hid hcell
    clear hcell
    go_enter Try.func90, Try.ntmps90
    go_wp2
    go_loop [8] (fun i => ∃ k : Nat, k ≤ S.length ∧ i = .int .i64 k ∧ ∀ j, j < k → (S.getD j 0 == x) = false) (fun i => S.length - (intOf i).toNat)
    case atStart => exact ⟨0, Nat.zero_le _, rfl, fun j hj => by omega⟩
    case round =>
      obtain ⟨k, hk, rfl, hall⟩ := hrel
      have HL := Lib.hid hall
      clear hall
      by_cases hlt : k < S.length
      · have c1 := HC.out k hlt
        obtain ⟨y, hy⟩ : ∃ y, y = S.getD k 0 := ⟨_, rfl⟩
        rw [← hy] at c1
        have HY := Lib.hid hy
        clear hy
        cases ht : (x == y) with
        | true =>
          have T := Lib.hid (show (y == x) = true by rw [BEq.comm]; exact ht)
          go_wp2_with fail
          go_ret
          exact ⟨_, rfl, by rw [any_yes hlt (by rw [← HY.out]; exact T.out)]; simp, rfl⟩
        | false =>
          have T := Lib.hid (show (y == x) = false by rw [BEq.comm]; exact ht)
          go_wp2_with fail
          go_round
          case rel => exact ⟨k + 1, by omega, by go_num, fun j hj => by
            by_cases e : j = k
            · subst e; rw [← HY.out]; exact T.out
            · exact HL.out j (by omega)⟩
          case measure => simp [intOf]; omega
      · obtain rfl : k = S.length := by omega
        go_wp2_with fail
        go_ret
        exact ⟨_, rfl, by rw [any_no HL.out]; decide, rfl⟩
theorem contains_any (v : Value) (S : List Int) (x : Int) (w : World) (hv : IL w v S) (hn : S.length ≤ 1048576) :
    Calls Try.prog 71 #[v, .int .i64 x] w fun e w' => e = .returned (.bool (inS S x)) ∧ w = w' := by
  have HV := Lib.hid hv
  obtain ⟨ao, cap, rfl⟩ := hv.long
  clear hv
  go_enter Try.func71, Try.ntmps71
  go_wp2_with fail
  go_at_call 90; refine (index_any _ S x _ HV.out hn).mono ?_; rintro e w' ⟨n, rfl, hd, rfl⟩
  have HD := Lib.hid hd
  clear hd
  go_wp2_with fail
  go_ret
  exact ⟨ret_bool HD.out, rfl⟩
end Go.Proofs.Ytnakpfbeeekmiaa
