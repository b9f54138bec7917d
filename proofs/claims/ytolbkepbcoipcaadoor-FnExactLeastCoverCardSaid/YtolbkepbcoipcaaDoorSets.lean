/- Sets of numbers below n: both sides. -/
import Derived.Test.YtolbkepbcoipcaaDoorSizes
import Derived.Laws.ShiftsVar
namespace Go.Proofs.YtolbkepbcoipcaaDoor
open Go.RowKit Go.ChangeShapes Go.WideShapes

theorem pow_in {n : Int} (h2 : n ≤ 16) : (1 : Int) ≤ 2 ^ n.toNat ∧ (2 : Int) ^ n.toNat ≤ 65536 := by
  have h := two_le (i := n.toNat) (by omega)
  have : (0 : Int) < 2 ^ n.toNat := Int.pow_pos (by decide)
  omega
theorem setOfAll_is (n : Int) (w : World) (h1 : 1 ≤ n) (h2 : n ≤ 16) :
    Calls Tryd.prog 31 #[.int .i64 n] w (fun e w' => e = .returned (.int .i64 (2 ^ n.toNat - 1)) ∧ w = w') := by
  obtain ⟨p1, p2⟩ := pow_in h2
  go_enter Tryd.func31, Tryd.ntmps31
  go_wp2
  go_ret
  exact ⟨rfl, rfl⟩
set_option maxHeartbeats 1000000 in
theorem implSets_any (n : Int) (v : Value) (L : List Int) (w : World) (hv : IL w v L) (hn : L.length ≤ 1048576) :
    Calls Tryd.prog 28 #[.int .i64 n, v] w (Tells (setsB n L) w) := by
  unfold setsB
  have HV := Lib.hid hv
  cases h0 : inB n 1 16 with
  | false =>
    have H0 := Lib.hid (show (decide (1 ≤ n) && decide (n ≤ 16)) = false from h0)
    clear h0 hv
    go_enter Tryd.func28, Tryd.ntmps28
    go_wp2_with fail
    go_at_call 38; refine (isFrom_is false n 1 16 _ H0.out).mono ?_; rintro e w' ⟨rfl, m, rfl⟩
    go_wp2_with fail
    go_ret
    exact tells _ rfl
  | true =>
    have hb := inB_ok h0
    obtain ⟨b1, b2⟩ := hb
    have H0 := Lib.hid (show (decide (1 ≤ n) && decide (n ≤ 16)) = true from h0)
    clear h0
    cases h1 : fewB L.length with
    | false =>
      have H1 := Lib.hid h1
      clear h1 hv
      go_enter Tryd.func28, Tryd.ntmps28
      go_wp2_with fail
      go_at_call 38; refine (isFrom_is true n 1 16 _ H0.out).mono ?_; rintro e w' ⟨rfl, m, rfl⟩
      go_wp2_with fail
      go_at_call 36; refine (isCount_is false _ L _ (VL.drewN HV.out _) H1.out).mono ?_; rintro e w' ⟨rfl, m2, rfl⟩
      go_wp2_with fail
      go_ret
      exact tells _ rfl
    | true =>
      have H1 := Lib.hid h1
      cases h2 : allIn L 0 (2 ^ n.toNat - 1) with
      | false =>
        have H2 := Lib.hid h2
        clear h1 h2 hv
        go_enter Tryd.func28, Tryd.ntmps28
        go_wp2_with fail
        go_at_call 38; refine (isFrom_is true n 1 16 _ H0.out).mono ?_; rintro e w' ⟨rfl, m, rfl⟩
        go_wp2_with fail
        go_at_call 36; refine (isCount_is true _ L _ (VL.drewN HV.out _) H1.out).mono ?_; rintro e w' ⟨rfl, m2, rfl⟩
        go_wp2_with fail
        go_at_call 31; refine (setOfAll_is n _ b1 b2).mono ?_; rintro e w' ⟨rfl, rfl⟩
        go_wp2_with fail
        go_at_call 37; refine (areFrom_is false 0 _ L _ _ (VL.drewN HV.out _) hn H2.out).mono ?_; rintro e w' ⟨rfl, m3, rfl⟩
        go_wp2_with fail
        go_ret
        exact tells _ rfl
      | true =>
        have H2 := Lib.hid h2
        clear h1 h2 hv
        go_enter Tryd.func28, Tryd.ntmps28
        go_wp2_with fail
        go_at_call 38; refine (isFrom_is true n 1 16 _ H0.out).mono ?_; rintro e w' ⟨rfl, m, rfl⟩
        go_wp2_with fail
        go_at_call 36; refine (isCount_is true _ L _ (VL.drewN HV.out _) H1.out).mono ?_; rintro e w' ⟨rfl, m2, rfl⟩
        go_wp2_with fail
        go_at_call 31; refine (setOfAll_is n _ b1 b2).mono ?_; rintro e w' ⟨rfl, rfl⟩
        go_wp2_with fail
        go_at_call 37; refine (areFrom_is true 0 _ L _ _ (VL.drewN HV.out _) hn H2.out).mono ?_; rintro e w' ⟨rfl, m3, rfl⟩
        go_wp2_with fail
        go_ret
        exact tells _ rfl
set_option maxHeartbeats 2000000 in
theorem l04Sets_any (n : Int) (v : Value) (L : List Int) (w : World) (hv : IL w v L) (hn : L.length ≤ 1048576) :
    Calls Tryd.prog 26 #[.int .i64 n, v] w (Tells (setsB n L) w) := by
  unfold setsB
  cases h0 : inB n 1 16 with
  | false =>
    have H0 := Lib.hid (show (decide (1 ≤ n) && decide (n ≤ 16)) = false from h0)
    obtain ⟨ao, cap, rfl⟩ := hv.long
    clear h0 hv
    go_enter Tryd.func26, Tryd.ntmps26
    go_wp2_with fail
    go_at_call 32; refine (l00In_is false n 1 16 _ H0.out).mono ?_; rintro e w' ⟨rfl, m, rfl⟩
    go_wp2_with fail
    go_ret
    exact tells _ rfl
  | true =>
    have H0 := Lib.hid (show (decide (1 ≤ n) && decide (n ≤ 16)) = true from h0)
    obtain ⟨b1, b2⟩ := inB_ok h0
    obtain ⟨p1, p2⟩ := pow_in b2
    clear h0
    rcases fewB_cases (n := L.length) with ⟨f, f1, f2⟩ | ⟨f, f1⟩ | ⟨f, f1, f2⟩
    · have F := Lib.hid f
      clear f
      rcases hv with ⟨rfl, ao, cap, rfl⟩ | ⟨b, off, cap, rfl, hpos, hbl, hcell⟩
      · simp at f1
      have HC := Lib.hid hcell
      clear hcell
      go_enter Tryd.func26, Tryd.ntmps26
      go_wp2_with fail
      go_at_call 32; refine (l00In_is true n 1 16 _ H0.out).mono ?_; rintro e w' ⟨rfl, m, rfl⟩
      have hw0 : ∃ m', w.drewN m = w.drewN m' := ⟨m, rfl⟩
      have HW0 := Lib.hid hw0
      clear hw0
      go_wp2_with fail
      go_loopw [5] (fun i wr => ∃ k : Nat, k ≤ L.length ∧ i = .int .i64 k ∧ (∀ j, j < k → inB (L.getD j 0) 0 (2 ^ n.toNat - 1) = true) ∧ ∃ m, wr = w.drewN m) (fun i _ => L.length - (intOf i).toNat)
      case atStart => exact ⟨0, Nat.zero_le _, rfl, fun j hj => by omega, HW0.out⟩
      case round =>
        obtain ⟨k, hk, rfl, hall, hwr⟩ := hrel
        have HL := Lib.hid hall
        have HW := Lib.hid (drew_more hwr)
        clear hall
        by_cases hlt : k < L.length
        · have c1 : wr.cell? ⟨b, off + k, none⟩ = some (.int .i64 (L.getD k 0)) := by obtain ⟨n, rfl⟩ := hwr; exact HC.out k hlt
          obtain ⟨y, hy⟩ : ∃ y, y = L.getD k 0 := ⟨_, rfl⟩
          rw [← hy] at c1
          have HY := Lib.hid hy
          clear hy hwr
          cases ht : inB y 0 (2 ^ n.toNat - 1) with
          | false =>
            have T := Lib.hid (show (decide (0 ≤ y) && decide (y ≤ 2 ^ n.toNat - 1)) = false from ht)
            clear ht
            go_wp2_with fail
            go_at_call 32; refine (l00In_is false y 0 (2 ^ n.toNat - 1) _ T.out).mono ?_; rintro e w' ⟨rfl, m, rfl⟩
            go_wp2_with fail
            go_ret
            obtain ⟨m2, h2⟩ := HW.out m
            exact ⟨ret_bool (by rw [allIn_no hlt (by rw [← HY.out]; exact T.out), Bool.and_false, Bool.and_false]), m2, h2⟩
          | true =>
            have T := Lib.hid (show (decide (0 ≤ y) && decide (y ≤ 2 ^ n.toNat - 1)) = true from ht)
            clear ht
            go_wp2_with fail
            go_at_call 32; refine (l00In_is true y 0 (2 ^ n.toNat - 1) _ T.out).mono ?_; rintro e w' ⟨rfl, m, rfl⟩
            go_wp2_with fail
            go_roundw
            case rel => exact ⟨k + 1, by omega, by go_num, fun j hj => by
              by_cases e : j = k
              · subst e; rw [← HY.out]; exact T.out
              · exact HL.out j (by omega), HW.out m⟩
            case measure => simp [intOf]; omega
        · obtain rfl : k = L.length := by omega
          have HWR := Lib.hid hwr
          have HA : Hid (allIn L 0 (2 ^ n.toNat - 1) = true) := Lib.hid (rngAll HL.out)
          clear hwr
          go_wp2_with fail
          go_ret
          exact ⟨ret_bool (by rw [HA.out, F.out]; rfl), HWR.out⟩
    · have F := Lib.hid f
      obtain ⟨ao, cap, rfl⟩ := hv.long
      clear f hv
      go_enter Tryd.func26, Tryd.ntmps26
      go_wp2_with fail
      go_at_call 32; refine (l00In_is true n 1 16 _ H0.out).mono ?_; rintro e w' ⟨rfl, m, rfl⟩
      go_wp2_with fail
      go_ret
      exact tells _ (by rw [F.out]; rfl)
    · have F := Lib.hid f
      obtain ⟨ao, cap, rfl⟩ := hv.long
      clear f hv
      go_enter Tryd.func26, Tryd.ntmps26
      go_wp2_with fail
      go_at_call 32; refine (l00In_is true n 1 16 _ H0.out).mono ?_; rintro e w' ⟨rfl, m, rfl⟩
      go_wp2_with fail
      go_ret
      exact tells _ (by rw [F.out]; rfl)
theorem l04Sets_is (t : Bool) (n : Int) (v : Value) (L : List Int) (w : World) (hv : IL w v L) (hn : L.length ≤ 1048576) (ht : setsB n L = t) :
    Calls Tryd.prog 26 #[.int .i64 n, v] w (Tells t w) := by subst ht; exact l04Sets_any n v L w hv hn
theorem implSets_is (t : Bool) (n : Int) (v : Value) (L : List Int) (w : World) (hv : IL w v L) (hn : L.length ≤ 1048576) (ht : setsB n L = t) :
    Calls Tryd.prog 28 #[.int .i64 n, v] w (Tells t w) := by subst ht; exact implSets_any n v L w hv hn
end Go.Proofs.YtolbkepbcoipcaaDoor
