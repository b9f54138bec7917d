/- Sizes: both sides. -/
import Derived.Test.YtolbkepbcoipcaaMix
import Derived.Test.YtolbkepbcoipcaaIl
import Derived.Deep.QuietTactic
import Derived.BigQuiet
namespace Go.Proofs.Ytolbkepbcoipcaa
open Go.RowKit Go.ChangeShapes Go.WideShapes

theorem drew_more {w wr : World} (h : ∃ m, wr = w.drewN m) : ∀ n, ∃ m, wr.drewN n = w.drewN m := by
  obtain ⟨m, rfl⟩ := h
  exact fun n => ⟨_, World.drewN_drewN _ _ _⟩
set_option maxHeartbeats 1000000 in
theorem areFrom_any (lo : Int) (v : Value) (L : List Int) (hi : Int) (w : World) (hv : IL w v L) (hn : L.length ≤ 1048576) :
    Calls Try.prog 36 #[.int .i64 lo, v, .int .i64 hi] w (Tells (allIn L lo hi) w) := by
  rcases hv with ⟨rfl, ao, cap, rfl⟩ | ⟨b, off, cap, rfl, hpos, hbl, hcell⟩
  · go_enter Try.func36, Try.ntmps36
    go_wp2
    refine wp_loop_rounds 1 ?_
    rw [rounds_succ]
    go_wp2
    go_ret
    exact tells 0 rfl
  · have HC := Lib.hid hcell
    clear hcell
    go_enter Try.func36, Try.ntmps36
    go_wp2
    go_loopw [11] (fun i wr => ∃ k : Nat, k ≤ L.length ∧ i = .int .i64 k ∧ (∀ j, j < k → inB (L.getD j 0) lo hi = true) ∧ ∃ m, wr = w.drewN m) (fun i _ => L.length - (intOf i).toNat)
    case atStart => exact ⟨0, Nat.zero_le _, rfl, fun j hj => by omega, 0, rfl⟩
    case round =>
      obtain ⟨k, hk, rfl, hall, hwr⟩ := hrel
      have HL := Lib.hid hall
      have HW := Lib.hid (drew_more hwr)
      clear hall
      by_cases hlt : k < L.length
      · have c1 : wr.cell? ⟨b, off + k, none⟩ = some (.int .i64 (L.getD k 0)) := by obtain ⟨n, rfl⟩ := hwr; exact HC.out k hlt
        obtain ⟨y, hy⟩ : ∃ y, y = L.getD k 0 := ⟨_, rfl⟩
        rw [← hy] at c1
        have HY := Lib.hid hy
        clear hy hwr
        cases ht : inB y lo hi with
        | false =>
          have T := Lib.hid (show (decide (lo ≤ y) && decide (y ≤ hi)) = false from ht)
          clear ht
          go_wp2_with (go_at_call 38; refine (isFrom_is _ y lo hi _ T.out).mono ?_; rintro e w' ⟨rfl, m, rfl⟩)
          go_ret
          obtain ⟨m2, h2⟩ := HW.out m
          exact ⟨ret_bool (allIn_no hlt (by rw [← HY.out]; exact T.out)).symm, m2, h2⟩
        | true =>
          have T := Lib.hid (show (decide (lo ≤ y) && decide (y ≤ hi)) = true from ht)
          clear ht
          go_wp2_with (go_at_call 38; refine (isFrom_is _ y lo hi _ T.out).mono ?_; rintro e w' ⟨rfl, m, rfl⟩)
          go_roundw
          case rel => exact ⟨k + 1, by omega, by go_num, fun j hj => by
            by_cases e : j = k
            · subst e; rw [← HY.out]; exact T.out
            · exact HL.out j (by omega), HW.out m⟩
          case measure => simp [intOf]; omega
      · obtain rfl : k = L.length := by omega
        have HWR := Lib.hid hwr
        clear hwr
        go_wp2
        go_ret
        exact ⟨ret_bool (rngAll HL.out).symm, HWR.out⟩
theorem areFrom_is (t : Bool) (lo : Int) (v : Value) (L : List Int) (hi : Int) (w : World) (hv : IL w v L) (hn : L.length ≤ 1048576) (ht : allIn L lo hi = t) :
    Calls Try.prog 36 #[.int .i64 lo, v, .int .i64 hi] w (Tells t w) := by subst ht; exact areFrom_any lo v L hi w hv hn
theorem isCount_is (t : Bool) (v : Value) (L : List Int) (w : World) (hv : IL w v L) (ht : fewB L.length = t) :
    Calls Try.prog 35 #[v] w (Tells t w) := by
  obtain ⟨ao, cap, rfl⟩ := hv.long
  have H := Lib.hid (show (decide (1 ≤ (L.length : Int)) && decide ((L.length : Int) ≤ 16)) = t from ht)
  clear ht hv
  go_enter Try.func35, Try.ntmps35
  go_wp2_with fail
  go_at_call 38; refine (isFrom_is t _ 1 16 _ H.out).mono ?_; rintro e w' ⟨rfl, m, rfl⟩
  go_wp2_with fail
  go_ret
  exact tells _ rfl
theorem sizesB_eq (L : List Int) : sizesB L = (fewB L.length && allIn L 1 1000) := by unfold sizesB; exact Bool.and_comm _ _
set_option maxHeartbeats 1000000 in
theorem implSizes_any (v : Value) (L : List Int) (w : World) (hv : IL w v L) (hn : L.length ≤ 1048576) :
    Calls Try.prog 14 #[v] w (Tells (sizesB L) w) := by
  rw [sizesB_eq]
  have HV := Lib.hid hv
  cases h1 : fewB L.length with
  | false =>
    have H1 := Lib.hid h1
    clear h1 hv
    go_enter Try.func14, Try.ntmps14
    go_wp2_with fail
    go_at_call 35; refine (isCount_is false _ L _ HV.out H1.out).mono ?_; rintro e w' ⟨rfl, m, rfl⟩
    go_wp2_with fail
    go_ret
    exact tells _ rfl
  | true =>
    have H1 := Lib.hid h1
    cases h2 : allIn L 1 1000 with
    | false =>
      have H2 := Lib.hid h2
      clear h1 h2 hv
      go_enter Try.func14, Try.ntmps14
      go_wp2_with fail
      go_at_call 35; refine (isCount_is true _ L _ HV.out H1.out).mono ?_; rintro e w' ⟨rfl, m, rfl⟩
      go_wp2_with fail
      go_at_call 36; refine (areFrom_is false 1 _ L 1000 _ (VL.drewN HV.out _) hn H2.out).mono ?_; rintro e w' ⟨rfl, m2, rfl⟩
      go_wp2_with fail
      go_ret
      exact tells _ rfl
    | true =>
      have H2 := Lib.hid h2
      clear h1 h2 hv
      go_enter Try.func14, Try.ntmps14
      go_wp2_with fail
      go_at_call 35; refine (isCount_is true _ L _ HV.out H1.out).mono ?_; rintro e w' ⟨rfl, m, rfl⟩
      go_wp2_with fail
      go_at_call 36; refine (areFrom_is true 1 _ L 1000 _ (VL.drewN HV.out _) hn H2.out).mono ?_; rintro e w' ⟨rfl, m2, rfl⟩
      go_wp2_with fail
      go_ret
      exact tells _ rfl
theorem fewB_cases {n : Nat} : (fewB n = true ∧ 1 ≤ (n : Int) ∧ (n : Int) ≤ 16) ∨ (fewB n = false ∧ (n : Int) < 1) ∨ (fewB n = false ∧ 1 ≤ (n : Int) ∧ 16 < (n : Int)) := by
  unfold fewB
  by_cases h1 : 1 ≤ (n : Int)
  · by_cases h2 : (n : Int) ≤ 16
    · exact Or.inl ⟨by simp [h1, h2], h1, h2⟩
    · exact Or.inr (Or.inr ⟨by simp; omega, h1, by omega⟩)
  · exact Or.inr (Or.inl ⟨by simp; omega, by omega⟩)
set_option maxHeartbeats 1000000 in
theorem l04Sizes_any (v : Value) (L : List Int) (w : World) (hv : IL w v L) (hn : L.length ≤ 1048576) :
    Calls Try.prog 34 #[v] w (Tells (sizesB L) w) := by
  unfold sizesB
  rcases hv with ⟨rfl, ao, cap, rfl⟩ | ⟨b, off, cap, rfl, hpos, hbl, hcell⟩
  · go_enter Try.func34, Try.ntmps34
    go_wp2
    refine wp_loop_rounds 1 ?_
    rw [rounds_succ]
    go_wp2
    go_ret
    exact tells 0 rfl
  · have HC := Lib.hid hcell
    clear hcell
    go_enter Try.func34, Try.ntmps34
    go_wp2
    go_loopw [3] (fun i wr => ∃ k : Nat, k ≤ L.length ∧ i = .int .i64 k ∧ (∀ j, j < k → inB (L.getD j 0) 1 1000 = true) ∧ ∃ m, wr = w.drewN m) (fun i _ => L.length - (intOf i).toNat)
    case atStart => exact ⟨0, Nat.zero_le _, rfl, fun j hj => by omega, 0, rfl⟩
    case round =>
      obtain ⟨k, hk, rfl, hall, hwr⟩ := hrel
      have HL := Lib.hid hall
      have HW := Lib.hid (drew_more hwr)
      clear hall
      by_cases hlt : k < L.length
      · have c1 : wr.cell? ⟨b, off + k, none⟩ = some (.int .i64 (L.getD k 0)) := by obtain ⟨n, rfl⟩ := hwr; exact HC.out k hlt
        obtain ⟨y, hy⟩ : ∃ y, y = L.getD k 0 := ⟨_, rfl⟩
        rw [← hy] at c1
        have HY := Lib.hid hy
        clear hy hwr
        cases ht : inB y 1 1000 with
        | false =>
          have T := Lib.hid (show (decide (1 ≤ y) && decide (y ≤ 1000)) = false from ht)
          clear ht
          go_wp2_with (go_at_call 40; refine (l00In_is _ y 1 1000 _ T.out).mono ?_; rintro e w' ⟨rfl, m, rfl⟩)
          go_ret
          obtain ⟨m2, h2⟩ := HW.out m
          exact ⟨ret_bool (by rw [allIn_no hlt (by rw [← HY.out]; exact T.out), Bool.false_and]), m2, h2⟩
        | true =>
          have T := Lib.hid (show (decide (1 ≤ y) && decide (y ≤ 1000)) = true from ht)
          clear ht
          go_wp2_with (go_at_call 40; refine (l00In_is _ y 1 1000 _ T.out).mono ?_; rintro e w' ⟨rfl, m, rfl⟩)
          go_roundw
          case rel => exact ⟨k + 1, by omega, by go_num, fun j hj => by
            by_cases e : j = k
            · subst e; rw [← HY.out]; exact T.out
            · exact HL.out j (by omega), HW.out m⟩
          case measure => simp [intOf]; omega
      · obtain rfl : k = L.length := by omega
        have HWR := Lib.hid hwr
        have HA : Hid (allIn L 1 1000 = true) := Lib.hid (rngAll HL.out)
        clear hwr
        rcases fewB_cases (n := L.length) with ⟨f, f1, f2⟩ | ⟨f, f1⟩ | ⟨f, f1, f2⟩
        · have F := Lib.hid f
          clear f
          go_wp2
          go_ret
          exact ⟨ret_bool (by rw [HA.out, F.out]; simp <;> omega), HWR.out⟩
        · omega
        · have F := Lib.hid f
          clear f
          go_wp2
          go_ret
          exact ⟨ret_bool (by rw [HA.out, F.out]; simp <;> omega), HWR.out⟩
theorem specSizes_any (v : Value) (L : List Int) (w : World) (hv : IL w v L) (hn : L.length ≤ 1048576) :
    Calls Try.prog 12 #[v] w (Tells (sizesB L) w) := by
  have HV := Lib.hid hv
  obtain ⟨ao, cap, rfl⟩ := hv.long
  clear hv
  go_enter Try.func12, Try.ntmps12
  go_wp2_with fail
  go_at_call 34; refine (l04Sizes_any _ L _ HV.out hn).mono ?_; rintro e w' ⟨rfl, m, rfl⟩
  go_wp2_with fail
  go_ret
  exact tells _ rfl
theorem l04Sizes_is (t : Bool) (v : Value) (L : List Int) (w : World) (hv : IL w v L) (hn : L.length ≤ 1048576) (ht : sizesB L = t) :
    Calls Try.prog 34 #[v] w (Tells t w) := by subst ht; exact l04Sizes_any v L w hv hn
theorem implSizes_is (t : Bool) (v : Value) (L : List Int) (w : World) (hv : IL w v L) (hn : L.length ≤ 1048576) (ht : sizesB L = t) :
    Calls Try.prog 14 #[v] w (Tells t w) := by subst ht; exact implSizes_any v L w hv hn
theorem specAreSizes_any (v : Value) (L : List Int) (w : World) (hv : IL w v L) (o : OKI L) : Calls Try.prog 12 #[v] w (Says (sizesB L) w) := (specSizes_any v L w hv o.size).mono fun _ _ h => h.says
theorem implAreSizes_any (v : Value) (L : List Int) (w : World) (hv : IL w v L) (o : OKI L) : Calls Try.prog 14 #[v] w (Says (sizesB L) w) := (implSizes_any v L w hv o.size).mono fun _ _ h => h.says
end Go.Proofs.Ytolbkepbcoipcaa
