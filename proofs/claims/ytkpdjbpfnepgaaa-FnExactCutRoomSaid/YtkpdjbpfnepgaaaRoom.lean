/- The room out of a set of nodes: both sides. -/
import Derived.Test.YtkpdjbpfnepgaaaFlow3
namespace Go.Proofs.Ytkpdjbpfnepgaaa
open Go.RowKit Go.ChangeShapes Go.WideShapes

theorem any_yes {S : List Int} {x : Int} {k : Nat} (hk : k < S.length) (h : (S.getD k 0 == x) = true) : inS S x = true := by
  unfold inS
  rw [List.any_eq_true]
  exact ⟨k, List.mem_range.2 hk, h⟩
theorem any_no {S : List Int} {x : Int} (h : ∀ k, k < S.length → (S.getD k 0 == x) = false) : inS S x = false := by
  unfold inS
  rw [Bool.eq_false_iff]
  intro hc
  obtain ⟨k, hk, h1⟩ := List.any_eq_true.1 hc
  rw [h k (List.mem_range.1 hk)] at h1; cases h1

theorem l00Has_any (v : Value) (S : List Int) (x : Int) (w : World) (hv : IL w v S) (hn : S.length ≤ 1048576) :
    Calls Try.prog 68 #[v, .int .i64 x] w fun e w' => e = .returned (.bool (inS S x)) ∧ w = w' := by
  rcases hv with ⟨rfl, ao, cap, rfl⟩ | ⟨b, off, cap, rfl, hpos, hbl, hcell⟩
  · go_enter Try.func68, Try.ntmps68
    go_wp2
    refine wp_loop_rounds 1 ?_
    rw [rounds_succ]
    go_wp2
    go_ret
    exact ⟨rfl, rfl⟩
  · have HC := Lib.hid hcell
    clear hcell
    go_enter Try.func68, Try.ntmps68
    go_wp2
    go_loop [5] (fun i => ∃ k : Nat, k ≤ S.length ∧ i = .int .i64 k ∧ ∀ j, j < k → (S.getD j 0 == x) = false) (fun i => S.length - (intOf i).toNat)
    case atStart => exact ⟨0, Nat.zero_le _, rfl, fun j hj => by omega⟩
    case round =>
      obtain ⟨k, hk, rfl, hall⟩ := hrel
      have HL := Lib.hid hall
      clear hall
      by_cases hlt : k < S.length
      · have c1 := HC.out k hlt
        obtain ⟨y, hy⟩ : ∃ y, y = S.getD k 0 := ⟨_, rfl⟩
        rw [← hy] at c1
        have HY := Lib.hid hy
        clear hy
        cases ht : (y == x) with
        | true =>
          have T := Lib.hid ht
          go_wp2_with fail
          go_ret
          exact ⟨ret_bool (any_yes hlt (by rw [← HY.out]; exact T.out)).symm, rfl⟩
        | false =>
          have T := Lib.hid ht
          go_wp2_with fail
          go_round
          case rel => exact ⟨k + 1, by omega, by go_num, fun j hj => by
            by_cases e : j = k
            · subst e; rw [← HY.out]; exact T.out
            · exact HL.out j (by omega)⟩
          case measure => simp [intOf]; omega
      · obtain rfl : k = S.length := by omega
        go_wp2_with fail
        go_ret
        exact ⟨ret_bool (any_no HL.out).symm, rfl⟩
/-- The index at which a list holds a number first, -1 if it does not. -/
def IndexOf (S : List Int) (x : Int) (w : World) (e : Ending) (w' : World) : Prop := ∃ n : Int, e = .returned (.int .i64 n) ∧ decide (n ≥ 0) = inS S x ∧ w = w'
theorem index_any (v : Value) (S : List Int) (x : Int) (w : World) (hv : IL w v S) (hn : S.length ≤ 1048576) :
    Calls Try.prog 85 #[v, .int .i64 x] w (IndexOf S x w) := by
  rcases hv with ⟨rfl, ao, cap, rfl⟩ | ⟨b, off, cap, rfl, hpos, hbl, hcell⟩
  · go_enter Try.func85, Try.ntmps85
    go_wp2
    refine wp_loop_rounds 1 ?_
    rw [rounds_succ]
    go_wp2
    go_ret
    exact ⟨_, rfl, by show decide ((-1 : Int) ≥ 0) = false; decide, rfl⟩
  · have HC := Lib.hid hcell
    clear hcell
    go_enter Try.func85, Try.ntmps85
    go_wp2
    go_loop [8] (fun i => ∃ k : Nat, k ≤ S.length ∧ i = .int .i64 k ∧ ∀ j, j < k → (S.getD j 0 == x) = false) (fun i => S.length - (intOf i).toNat)
    case atStart => exact ⟨0, Nat.zero_le _, rfl, fun j hj => by omega⟩
    case round =>
      obtain ⟨k, hk, rfl, hall⟩ := hrel
      have HL := Lib.hid hall
      clear hall
      by_cases hlt : k < S.length
      · have c1 := HC.out k hlt
        obtain ⟨y, hy⟩ : ∃ y, y = S.getD k 0 := ⟨_, rfl⟩
        rw [← hy] at c1
        have HY := Lib.hid hy
        clear hy
        cases ht : (x == y) with
        | true =>
          have T := Lib.hid (show (y == x) = true by rw [BEq.comm]; exact ht)
          go_wp2_with fail
          go_ret
          exact ⟨_, rfl, by rw [any_yes hlt (by rw [← HY.out]; exact T.out)]; simp, rfl⟩
        | false =>
          have T := Lib.hid (show (y == x) = false by rw [BEq.comm]; exact ht)
          go_wp2_with fail
          go_round
          case rel => exact ⟨k + 1, by omega, by go_num, fun j hj => by
            by_cases e : j = k
            · subst e; rw [← HY.out]; exact T.out
            · exact HL.out j (by omega)⟩
          case measure => simp [intOf]; omega
      · obtain rfl : k = S.length := by omega
        go_wp2_with fail
        go_ret
        exact ⟨_, rfl, by rw [any_no HL.out]; decide, rfl⟩
theorem contains_any (v : Value) (S : List Int) (x : Int) (w : World) (hv : IL w v S) (hn : S.length ≤ 1048576) :
    Calls Try.prog 70 #[v, .int .i64 x] w fun e w' => e = .returned (.bool (inS S x)) ∧ w = w' := by
  have HV := Lib.hid hv
  obtain ⟨ao, cap, rfl⟩ := hv.long
  clear hv
  go_enter Try.func70, Try.ntmps70
  go_wp2_with fail
  go_at_call 85; refine (index_any _ S x _ HV.out hn).mono ?_; rintro e w' ⟨n, rfl, hd, rfl⟩
  have HD := Lib.hid hd
  clear hd
  go_wp2_with fail
  go_ret
  exact ⟨ret_bool HD.out, rfl⟩

/-- The two tests of a set's number. -/
structure SetT (n : Int) (S : List Int) (i : Nat) (t1 t2 t3 : Bool) : Prop where
  e1 : (decide (0 ≤ S.getD i 0) && decide (S.getD i 0 ≤ n - 1)) = t1
  e2 : decide (0 < i) = t2
  e3 : decide (S.getD i 0 ≤ S.getD (i - 1) 0) = t3
def setA (n : Int) (S : List Int) (i : Nat) : Bool := (decide (0 ≤ S.getD i 0) && decide (S.getD i 0 ≤ n - 1)) && !(decide (0 < i) && decide (S.getD i 0 ≤ S.getD (i - 1) 0))
theorem SetT.is {n : Int} {S : List Int} {i : Nat} {t1 t2 t3 : Bool} (h : SetT n S i t1 t2 t3) : setA n S i = (t1 && !(t2 && t3)) := by
  obtain ⟨rfl, rfl, rfl⟩ := h
  rfl
theorem setT (n : Int) (S : List Int) (i : Nat) : ∃ t1 t2 t3, SetT n S i t1 t2 t3 := ⟨_, _, _, rfl, rfl, rfl⟩
theorem setB_no {n : Int} {S : List Int} {i : Nat} (hi : i < S.length) (h : setA n S i = false) : setB n S = false := by unfold setB; exact rangeNot hi h
theorem setB_yes {n : Int} {S : List Int} (h : ∀ i, i < S.length → setA n S i = true) : setB n S = true := by unfold setB; exact rangeAll h
set_option maxHeartbeats 4000000 in
theorem l03Set_any (v : Value) (S : List Int) (n : Int) (w : World) (hv : IL w v S) (hn : S.length ≤ 1048576) (n1 : 2 ≤ n) (n2 : n ≤ 16) :
    Calls Try.prog 67 #[v, .int .i64 n] w (Tells (setB n S) w) := by
  have HWR := Lib.hid (in64_sub n1 n2)
  rcases hv with ⟨rfl, ao, cap, rfl⟩ | ⟨b, off, cap, rfl, hpos, hbl, hcell⟩
  · go_enter Try.func67, Try.ntmps67
    go_wp2
    refine wp_loop_rounds 1 ?_
    rw [rounds_succ]
    go_wp2
    go_ret
    exact tells 0 rfl
  · have HC := Lib.hid hcell
    clear hcell
    go_enter Try.func67, Try.ntmps67
    go_wp2
    go_loopw [8] (fun i wr => ∃ k : Nat, k ≤ S.length ∧ i = .int .i64 k ∧ (∀ j, j < k → setA n S j = true) ∧ ∃ m, wr = w.drewN m) (fun i _ => S.length - (intOf i).toNat)
    case atStart => exact ⟨0, Nat.zero_le _, rfl, fun j hj => by omega, 0, rfl⟩
    case round =>
      obtain ⟨k, hk, rfl, hall, hwr⟩ := hrel
      have HL := Lib.hid hall
      have HW := Lib.hid (drew_more hwr)
      clear hall
      by_cases hlt : k < S.length
      · have c1 : wr.cell? ⟨b, off + k, none⟩ = some (.int .i64 (S.getD k 0)) := by obtain ⟨n, rfl⟩ := hwr; exact HC.out k hlt
        have c2 : wr.cell? ⟨b, off + (k - 1), none⟩ = some (.int .i64 (S.getD (k - 1) 0)) := by obtain ⟨n, rfl⟩ := hwr; exact HC.out (k - 1) (by omega)
        obtain ⟨t1, t2, t3, tt⟩ := setT n S k
        have T := Lib.hid tt
        have h1 := tt.e1
        have h2 := tt.e2
        have h3 := tt.e3
        generalize S.getD k 0 = y at c1 h1 h3
        generalize S.getD (k - 1) 0 = z at c2 h3
        have T1 := Lib.hid h1
        have hw := HWR.out
        clear h1 tt hwr
        cases t1 with
        | false =>
          clear h2 h3
          go_wp2_with fail
          go_quiet ((go_at_call 61; with_reducible exact Calls.quiet_of (l00In_is _ y 0 (n - 1) _ T1.out)))
          go_wp2_with fail
          go_ret
          exact Tells.of HW.out (setB_no hlt (by rw [T.out.is]; rfl))
        | true =>
          cases t2 with
          | false =>
            have hk0 : k = 0 := by simpa using h2
            have hg : decide ((k : Int) > 0) = false := by simp; omega
            have HK0 := Lib.hid hk0
            clear h3 hk0
            go_wp2_with fail
            go_quiet ((go_at_call 61; with_reducible exact Calls.quiet_of (l00In_is _ y 0 (n - 1) _ T1.out)))
            go_wp2_with fail
            go_roundw
            case rel => exact ⟨k + 1, by omega, by go_num, fun j hj => by
              by_cases e : j = k
              · subst e; rw [T.out.is]; rfl
              · exact HL.out j (by omega), HW.out _⟩
            case measure => simp [intOf]; omega
          | true =>
            have hk1 : 0 < k := by simpa using h2
            have hg : decide ((k : Int) > 0) = true := by simp; omega
            have hq : IntKind.i64.wrap ((k : Int) - 1) = ((k - 1 : Nat) : Int) := by rw [IntWalk.i64_in _ (by omega)]; omega
            have hq1 : (0 : Int) ≤ ((k - 1 : Nat) : Int) := by omega
            have hq2 : ((k - 1 : Nat) : Int) < (S.length : Int) := by omega
            have hq3 : (((k - 1 : Nat) : Int)).toNat = k - 1 := by omega
            cases t3 with
            | true =>
              go_wp2_with fail
              go_quiet ((go_at_call 61; with_reducible exact Calls.quiet_of (l00In_is _ y 0 (n - 1) _ T1.out)))
              go_wp2_with fail
              go_ret
              exact Tells.of HW.out (setB_no hlt (by rw [T.out.is]; rfl))
            | false =>
              go_wp2_with fail
              go_quiet ((go_at_call 61; with_reducible exact Calls.quiet_of (l00In_is _ y 0 (n - 1) _ T1.out)))
              go_wp2_with fail
              go_roundw
              case rel => exact ⟨k + 1, by omega, by go_num, fun j hj => by
                by_cases e : j = k
                · subst e; rw [T.out.is]; rfl
                · exact HL.out j (by omega), HW.out _⟩
              case measure => simp [intOf]; omega
      · obtain rfl : k = S.length := by omega
        clear hwr
        go_wp2_with fail
        go_ret
        exact Tells.of (m := 0) HW.out (setB_yes HL.out)
end Go.Proofs.Ytkpdjbpfnepgaaa
