/- Sizes that fit in a room: both sides' tests. -/
import Derived.Test.YtbaaocgdpgoggaaSizes
import Derived.Deep.LoopGhost
import Derived.WalkSpells
namespace Go.Proofs.Ytbaaocgdpgoggaa
open Go.RowKit Go.ChangeShapes Go.WideShapes

def leB (S : List Int) (r : Int) : Bool := decide (∀ i, i < S.length → S.getD i 0 ≤ r)
def fitsB (S : List Int) (r : Int) : Bool := sizesB S && (inB r 0 1000 && leB S r)
theorem leB_no {S : List Int} {r : Int} {k : Nat} (hk : k < S.length) (h : r < S.getD k 0) : leB S r = false := by
  unfold leB
  simp only [decide_eq_false_iff_not]
  intro h1
  have := h1 k hk
  omega
theorem leB_yes {S : List Int} {r : Int} (h : ∀ i, i < S.length → S.getD i 0 ≤ r) : leB S r = true := by unfold leB; simpa using h
theorem leB_all {S : List Int} {r : Int} (h : leB S r = true) : ∀ i, i < S.length → S.getD i 0 ≤ r := by unfold leB at h; simpa using h
theorem fits_no0 {S : List Int} {r : Int} (h : sizesB S = false) : fitsB S r = false := by unfold fitsB; rw [h, Bool.false_and]
theorem fits_no1 {S : List Int} {r : Int} (h : inB r 0 1000 = false) : fitsB S r = false := by unfold fitsB; rw [h, Bool.false_and, Bool.and_false]
theorem fits_no2 {S : List Int} {r : Int} (h : leB S r = false) : fitsB S r = false := by unfold fitsB; rw [h, Bool.and_false, Bool.and_false]
theorem fits_eq {S : List Int} {r : Int} (h1 : sizesB S = true) (h2 : inB r 0 1000 = true) : fitsB S r = leB S r := by unfold fitsB; rw [h1, h2, Bool.true_and, Bool.true_and]
theorem fits_ok {S : List Int} {r : Int} (h : fitsB S r = true) : sizesB S = true ∧ inB r 0 1000 = true ∧ leB S r = true := by unfold fitsB at h; simpa [Bool.and_eq_true] using h
/-- The greatest of the first k + 1. -/
def maxF (S : List Int) : Nat → Int
  | 0 => S.getD 0 0
  | k + 1 => max (maxF S k) (S.getD (k + 1) 0)
theorem maxF_le {S : List Int} {r : Int} : ∀ k, maxF S k ≤ r ↔ ∀ i, i ≤ k → S.getD i 0 ≤ r
  | 0 => ⟨fun h i hi => by obtain rfl := Nat.le_zero.1 hi; exact h, fun h => h 0 (Nat.le_refl _)⟩
  | k + 1 => by
    have ih := maxF_le (S := S) (r := r) k
    unfold maxF
    constructor
    · intro h i hi
      by_cases e : i = k + 1
      · subst e; omega
      · exact ih.1 (by omega) i (by omega)
    · intro h
      have h1 := ih.2 (fun i hi => h i (by omega))
      have h2 := h (k + 1) (Nat.le_refl _)
      omega
theorem maxF_leB {S : List Int} {r : Int} (h : 1 ≤ S.length) : leB S r = decide (maxF S (S.length - 1) ≤ r) := by
  have h1 := maxF_le (S := S) (r := r) (S.length - 1)
  unfold leB
  by_cases h2 : maxF S (S.length - 1) ≤ r
  · have h3 := h1.1 h2
    rw [decide_eq_true h2, decide_eq_true (fun i hi => h3 i (by omega))]
  · rw [decide_eq_false h2, decide_eq_false (fun h3 => h2 (h1.2 fun i hi => h3 i (by omega)))]
theorem roomIs (t : Bool) (r : Int) (w : World) (h : inB r 0 1000 = t) :
    Calls Try.prog 155 #[.int .i64 r] w (Tells t w) := by
  have H := Lib.hid (show (decide (0 ≤ r) && decide (r ≤ 1000)) = t from h)
  clear h
  go_enter Try.func155, Try.ntmps155
  go_wp2_with fail
  go_at_call 73; refine (isFrom_is t r 0 1000 _ H.out).mono ?_; rintro e w' ⟨rfl, m, rfl⟩
  go_wp2_with fail
  go_ret
  exact tells _ rfl
set_option maxHeartbeats 1000000 in
theorem slicesMax_any (v : Value) (S : List Int) (w : World) (hv : IL w v S) (h1 : 1 ≤ S.length) (hn : S.length ≤ 1048576) :
    Calls Try.prog 159 #[v] w (fun e w' => e = .returned (.int .i64 (maxF S (S.length - 1))) ∧ w = w') := by
  rcases hv with ⟨rfl, ao, cap, rfl⟩ | ⟨b, off, cap, rfl, hpos, hbl, hcell⟩
  · simp at h1
  have HC := Lib.hid hcell
  have x0 : w.cell? ⟨b, off, none⟩ = some (.int .i64 (maxF S 0)) := hcell 0 hpos
  generalize hm : maxF S 0 = y0 at x0
  have HM0 := Lib.hid hm
  clear hcell hm
  go_enter Try.func159, Try.ntmps159
  go_wp2_with fail
  go_loopg [3, 4] S.length (fun gk s3 s4 wr => ∃ k : Nat, k < S.length ∧ gk + k = S.length ∧ s3 = .int .i64 (maxF S k) ∧ s4 = .int .i64 ((k : Int) + 1) ∧ w = wr)
  case atStart => exact ⟨0, hpos, by omega, by rw [HM0.out], rfl, rfl⟩
  case round =>
    obtain ⟨k, hk, hgk, rfl, rfl, rfl⟩ := hrel
    by_cases hlt : k + 1 < S.length
    · have x1 := HC.out (k + 1) hlt
      have lk : (k : Int) + 1 < (S.length : Int) := by omega
      have lk2 : (0 : Int) ≤ (k : Int) + 1 := by omega
      have lk3 : ((k : Int) + 1).toNat = k + 1 := by omega
      have HM : Hid (maxF S (k + 1) = max (maxF S k) (S.getD (k + 1) 0)) := Lib.hid rfl
      generalize S.getD (k + 1) 0 = y at x1 HM
      generalize maxF S k = x at HM
      by_cases hxy : x ≤ y
      · have HM2 : Hid (maxF S (k + 1) = y) := Lib.hid (by rw [HM.out]; omega)
        go_wp2_with fail
        all_goals
          go_roundg (gk - 1)
          case measure => omega
          case rel => exact ⟨k + 1, hlt, by omega, by rw [HM2.out] <;> (first | rfl | (congr 1; omega)), by go_num, rfl⟩
      · have HM2 : Hid (maxF S (k + 1) = x) := Lib.hid (by rw [HM.out]; omega)
        go_wp2_with fail
        all_goals
          go_roundg (gk - 1)
          case measure => omega
          case rel => exact ⟨k + 1, hlt, by omega, by rw [HM2.out] <;> (first | rfl | (congr 1; omega)), by go_num, rfl⟩
    · have lk : ¬ (k : Int) + 1 < (S.length : Int) := by omega
      have HK : Hid (k = S.length - 1) := Lib.hid (by omega)
      generalize hx : maxF S k = x
      have HX := Lib.hid hx
      clear hx
      go_wp2_with fail
      go_ret
      exact ⟨ret_int (by rw [← HK.out]; exact HX.out.symm), rfl⟩
set_option maxHeartbeats 2000000 in
theorem areForBins_any (v : Value) (S : List Int) (r : Int) (w : World) (hv : IL w v S) (hn : S.length ≤ 1048576) :
    Calls Try.prog 87 #[v, .int .i64 r] w (Tells (fitsB S r) w) := by
  have HV := Lib.hid hv
  obtain ⟨ao, cap, rfl⟩ := hv.long
  clear hv
  cases h1 : sizesB S with
  | false =>
    rw [fits_no0 h1]
    have H1 := Lib.hid h1
    clear h1
    go_enter Try.func87, Try.ntmps87
    go_wp2_with fail
    go_at_call 153; refine (implSizes_is false _ S _ HV.out hn H1.out).mono ?_; rintro e w' ⟨rfl, m, rfl⟩
    go_wp2_with fail
    go_ret
    exact tells _ rfl
  | true =>
    have H1 := Lib.hid h1
    have OK := Lib.hid (sizesB_ok h1)
    clear h1
    cases h2 : inB r 0 1000 with
    | false =>
      rw [fits_no1 h2]
      have H2 := Lib.hid h2
      clear h2
      go_enter Try.func87, Try.ntmps87
      go_wp2_with fail
      go_at_call 153; refine (implSizes_is true _ S _ HV.out hn H1.out).mono ?_; rintro e w' ⟨rfl, m, rfl⟩
      go_wp2_with fail
      go_at_call 155; refine (roomIs false r _ H2.out).mono ?_; rintro e w' ⟨rfl, m2, rfl⟩
      go_wp2_with fail
      go_ret
      exact tells _ rfl
    | true =>
      rw [fits_eq H1.out h2, maxF_leB OK.out.l1]
      have H2 := Lib.hid h2
      clear h2
      go_enter Try.func87, Try.ntmps87
      go_wp2_with fail
      go_at_call 153; refine (implSizes_is true _ S _ HV.out hn H1.out).mono ?_; rintro e w' ⟨rfl, m, rfl⟩
      go_wp2_with fail
      go_at_call 155; refine (roomIs true r _ H2.out).mono ?_; rintro e w' ⟨rfl, m2, rfl⟩
      go_wp2_with fail
      go_at_call 159; refine (slicesMax_any _ S _ (VL.drewN HV.out _) OK.out.l1 hn).mono ?_; rintro e w' ⟨rfl, rfl⟩
      generalize hx : maxF S (S.length - 1) = x
      have HX := Lib.hid hx
      clear hx
      go_wp2_with fail
      go_ret
      exact tells _ (by rw [HX.out])
theorem areForBins_is (t : Bool) (v : Value) (S : List Int) (r : Int) (w : World) (hv : IL w v S) (hn : S.length ≤ 1048576) (ht : fitsB S r = t) :
    Calls Try.prog 87 #[v, .int .i64 r] w (Tells t w) := by subst ht; exact areForBins_any v S r w hv hn
set_option maxHeartbeats 2000000 in
theorem l04Fits_any (v : Value) (S : List Int) (r : Int) (w : World) (hv : IL w v S) (hn : S.length ≤ 1048576) :
    Calls Try.prog 86 #[v, .int .i64 r] w (Tells (fitsB S r) w) := by
  have HV := Lib.hid hv
  rcases hv with ⟨rfl, ao, cap, rfl⟩ | ⟨b, off, cap, rfl, hpos, hbl, hcell⟩
  · have H1 : Hid (sizesB [] = false) := Lib.hid (by rfl)
    rw [fits_no0 H1.out]
    go_enter Try.func86, Try.ntmps86
    go_wp2
    refine wp_loop_rounds 1 ?_
    rw [rounds_succ]
    go_wp2_with fail
    go_at_call 152; refine (l04Sizes_is false _ [] _ HV.out hn H1.out).mono ?_; rintro e w' ⟨rfl, m, rfl⟩
    go_wp2_with fail
    go_ret
    exact tells _ rfl
  have HC := Lib.hid hcell
  clear hcell
  go_enter Try.func86, Try.ntmps86
  go_wp2_with fail
  go_loopg [5] S.length (fun gk s5 wr => ∃ k : Nat, k ≤ S.length ∧ gk + k = S.length ∧ s5 = .int .i64 k ∧ (∀ j, j < k → S.getD j 0 ≤ r) ∧ w = wr)
  case atStart => exact ⟨0, Nat.zero_le _, by omega, rfl, fun j hj => by omega, rfl⟩
  case round =>
    obtain ⟨k, hk, hgk, rfl, hall, rfl⟩ := hrel
    have HL := Lib.hid hall
    clear hall
    by_cases hlt : k < S.length
    · have x1 := HC.out k hlt
      by_cases hgt : r < S.getD k 0
      · have HN := Lib.hid (fits_no2 (leB_no hlt hgt))
        generalize S.getD k 0 = y at x1 hgt
        go_wp2_with fail
        go_ret
        exact tells 0 HN.out.symm
      · have HL2 : Hid (∀ j, j < k + 1 → S.getD j 0 ≤ r) := Lib.hid fun j hj => by
          by_cases e : j = k
          · subst e; omega
          · exact HL.out j (by omega)
        generalize S.getD k 0 = y at x1 hgt
        go_wp2_with fail
        go_roundg (gk - 1)
        case measure => omega
        case rel => exact ⟨k + 1, by omega, by omega, by go_num, HL2.out, rfl⟩
    · obtain rfl : k = S.length := by omega
      have HLE := Lib.hid (leB_yes HL.out)
      cases h1 : sizesB S with
      | false =>
        have H1 := Lib.hid h1
        clear h1
        go_wp2_with fail
        go_at_call 152; refine (l04Sizes_is false _ S _ HV.out hn H1.out).mono ?_; rintro e w' ⟨rfl, m, rfl⟩
        go_wp2_with fail
        go_ret
        exact tells _ (fits_no0 H1.out).symm
      | true =>
        have H1 := Lib.hid h1
        clear h1
        cases h2 : inB r 0 1000 with
        | false =>
          have H2 := Lib.hid h2
          clear h2
          go_wp2_with fail
          go_at_call 152; refine (l04Sizes_is true _ S _ HV.out hn H1.out).mono ?_; rintro e w' ⟨rfl, m, rfl⟩
          go_wp2_with fail
          go_at_call 110; refine (l00In_is false r 0 1000 _ H2.out).mono ?_; rintro e w' ⟨rfl, m2, rfl⟩
          go_wp2_with fail
          go_ret
          exact tells _ (fits_no1 H2.out).symm
        | true =>
          have H2 := Lib.hid h2
          clear h2
          go_wp2_with fail
          go_at_call 152; refine (l04Sizes_is true _ S _ HV.out hn H1.out).mono ?_; rintro e w' ⟨rfl, m, rfl⟩
          go_wp2_with fail
          go_at_call 110; refine (l00In_is true r 0 1000 _ H2.out).mono ?_; rintro e w' ⟨rfl, m2, rfl⟩
          go_wp2_with fail
          go_ret
          exact tells _ ((fits_eq H1.out H2.out).trans HLE.out).symm
theorem l04Fits_is (t : Bool) (v : Value) (S : List Int) (r : Int) (w : World) (hv : IL w v S) (hn : S.length ≤ 1048576) (ht : fitsB S r = t) :
    Calls Try.prog 86 #[v, .int .i64 r] w (Tells t w) := by subst ht; exact l04Fits_any v S r w hv hn
end Go.Proofs.Ytbaaocgdpgoggaa
