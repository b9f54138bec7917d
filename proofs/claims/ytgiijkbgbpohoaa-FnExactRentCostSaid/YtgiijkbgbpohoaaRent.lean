/- What renting and buying costs: both sides. -/
import Derived.Test.YtgiijkbgbpohoaaArF
import Derived.Test.YtgiijkbgbpohoaaRowA
import Derived.Test.YtgiijkbgbpohoaaMix
namespace Go.Proofs.Ytgiijkbgbpohoaa
open Go.RowKit Go.ChangeShapes Go.WideShapes

def rentB (d b l : Int) : Bool := inB d 0 100000 && (inB b 0 100000 && inB l 0 100000)
def rentI (d b l : Int) : Int := if rentB d b l then (if d ≤ l then d else l + b) else 0
theorem rent_all (d b l : Int) : allIn [d, b, l] 0 100000 = rentB d b l := by
  show (inB d 0 100000 && (inB b 0 100000 && (inB l 0 100000 && true))) = _
  rw [Bool.and_true]; rfl
theorem rent_no {d b l : Int} (h : rentB d b l = false) : rentI d b l = 0 := by unfold rentI; rw [h]; rfl
theorem rent_le {d b l : Int} (h : rentB d b l = true) (hl : d ≤ l) : rentI d b l = d := by unfold rentI; rw [if_pos h, if_pos hl]
theorem rent_gt {d b l : Int} (h : rentB d b l = true) (hl : ¬ d ≤ l) : rentI d b l = l + b := by unfold rentI; rw [if_pos h, if_neg hl]
theorem rent_ok {d b l : Int} (h : rentB d b l = true) : (0 ≤ d ∧ d ≤ 100000) ∧ (0 ≤ b ∧ b ≤ 100000) ∧ (0 ≤ l ∧ l ≤ 100000) := by
  unfold rentB at h
  simp only [Bool.and_eq_true] at h
  exact ⟨inB_ok h.1, inB_ok h.2.1, inB_ok h.2.2⟩
set_option maxHeartbeats 1000000 in
theorem specRentCost_any (d b l : Int) (w : World) (_ : -9223372036854775808 ≤ d ∧ d ≤ 9223372036854775807) (_ : -9223372036854775808 ≤ b ∧ b ≤ 9223372036854775807) (_ : -9223372036854775808 ≤ l ∧ l ≤ 9223372036854775807) :
    Calls Try.prog 40 #[.int .i64 d, .int .i64 b, .int .i64 l] w (SaysIB (rentI d b l) (rentB d b l) w) := by
  cases h1 : inB d 0 100000 with
  | false =>
    have hr : rentB d b l = false := by unfold rentB; rw [h1]; rfl
    rw [rent_no hr, hr]
    have T1 := Lib.hid (show (decide (0 ≤ d) && decide (d ≤ 100000)) = false from h1)
    clear h1 hr
    go_enter Try.func40, Try.ntmps40
    go_wp2_with fail
    go_at_call 67; refine (l00In_is false d 0 100000 _ T1.out).mono ?_; rintro e w1 ⟨rfl, m1, rfl⟩
    go_wp2_with fail
    go_ret2
    exact saysIB rfl (below_drewN (Below.refl _ _) _)
  | true =>
    cases h2 : inB b 0 100000 with
    | false =>
      have hr : rentB d b l = false := by unfold rentB; rw [h1, h2]; rfl
      rw [rent_no hr, hr]
      have T1 := Lib.hid (show (decide (0 ≤ d) && decide (d ≤ 100000)) = true from h1)
      have T2 := Lib.hid (show (decide (0 ≤ b) && decide (b ≤ 100000)) = false from h2)
      clear h1 h2 hr
      go_enter Try.func40, Try.ntmps40
      go_wp2_with fail
      go_at_call 67; refine (l00In_is true d 0 100000 _ T1.out).mono ?_; rintro e w1 ⟨rfl, m1, rfl⟩
      go_wp2_with fail
      go_at_call 67; refine (l00In_is false b 0 100000 _ T2.out).mono ?_; rintro e w1 ⟨rfl, m2, rfl⟩
      go_wp2_with fail
      go_ret2
      exact saysIB rfl (below_drewN (Below.refl _ _) _)
    | true =>
      cases h3 : inB l 0 100000 with
      | false =>
        have hr : rentB d b l = false := by unfold rentB; rw [h1, h2, h3]; rfl
        rw [rent_no hr, hr]
        have T1 := Lib.hid (show (decide (0 ≤ d) && decide (d ≤ 100000)) = true from h1)
        have T2 := Lib.hid (show (decide (0 ≤ b) && decide (b ≤ 100000)) = true from h2)
        have T3 := Lib.hid (show (decide (0 ≤ l) && decide (l ≤ 100000)) = false from h3)
        clear h1 h2 h3 hr
        go_enter Try.func40, Try.ntmps40
        go_wp2_with fail
        go_at_call 67; refine (l00In_is true d 0 100000 _ T1.out).mono ?_; rintro e w1 ⟨rfl, m1, rfl⟩
        go_wp2_with fail
        go_at_call 67; refine (l00In_is true b 0 100000 _ T2.out).mono ?_; rintro e w1 ⟨rfl, m2, rfl⟩
        go_wp2_with fail
        go_at_call 67; refine (l00In_is false l 0 100000 _ T3.out).mono ?_; rintro e w1 ⟨rfl, m3, rfl⟩
        go_wp2_with fail
        go_ret2
        exact saysIB rfl (below_drewN (Below.refl _ _) _)
      | true =>
        have hr : rentB d b l = true := by unfold rentB; rw [h1, h2, h3]; rfl
        obtain ⟨⟨d1, d2⟩, ⟨b1, b2⟩, l1, l2⟩ := rent_ok hr
        have T1 := Lib.hid (show (decide (0 ≤ d) && decide (d ≤ 100000)) = true from h1)
        have T2 := Lib.hid (show (decide (0 ≤ b) && decide (b ≤ 100000)) = true from h2)
        have T3 := Lib.hid (show (decide (0 ≤ l) && decide (l ≤ 100000)) = true from h3)
        have ws : IntKind.i64.wrap (l + b) = l + b := IntWalk.i64_in _ (by omega)
        by_cases hl : d ≤ l
        · rw [rent_le hr hl, hr]
          clear h1 h2 h3 hr
          go_enter Try.func40, Try.ntmps40
          go_wp2_with fail
          go_at_call 67; refine (l00In_is true d 0 100000 _ T1.out).mono ?_; rintro e w1 ⟨rfl, m1, rfl⟩
          go_wp2_with fail
          go_at_call 67; refine (l00In_is true b 0 100000 _ T2.out).mono ?_; rintro e w1 ⟨rfl, m2, rfl⟩
          go_wp2_with fail
          go_at_call 67; refine (l00In_is true l 0 100000 _ T3.out).mono ?_; rintro e w1 ⟨rfl, m3, rfl⟩
          go_wp2_with fail
          go_ret2
          exact saysIB rfl (below_drewN (Below.refl _ _) _)
        · rw [rent_gt hr hl, hr]
          clear h1 h2 h3 hr
          go_enter Try.func40, Try.ntmps40
          go_wp2_with fail
          go_at_call 67; refine (l00In_is true d 0 100000 _ T1.out).mono ?_; rintro e w1 ⟨rfl, m1, rfl⟩
          go_wp2_with fail
          go_at_call 67; refine (l00In_is true b 0 100000 _ T2.out).mono ?_; rintro e w1 ⟨rfl, m2, rfl⟩
          go_wp2_with fail
          go_at_call 67; refine (l00In_is true l 0 100000 _ T3.out).mono ?_; rintro e w1 ⟨rfl, m3, rfl⟩
          go_wp2_with fail
          go_ret2
          exact saysIB rfl (below_drewN (Below.refl _ _) _)
theorem three_il (d b l : Int) (w : World) (T : TypeId) : IL (w.alloc (.cells #[.int .i64 d, .int .i64 b, .int .i64 l] T)) (.slice (some ⟨w.heap.size, 0, none⟩) 3 3) [d, b, l] :=
  Or.inr ⟨w.heap.size, 0, 0, rfl, by simp, by simp, fun i hi => by
    match i, hi with
    | 0, _ => exact World.cell?_alloc_new _ _ _ _
    | 1, _ => exact World.cell?_alloc_new _ _ _ _
    | 2, _ => exact World.cell?_alloc_new _ _ _ _⟩
set_option maxHeartbeats 1000000 in
theorem implRentCost_any (d b l : Int) (w : World) (_ : -9223372036854775808 ≤ d ∧ d ≤ 9223372036854775807) (_ : -9223372036854775808 ≤ b ∧ b ≤ 9223372036854775807) (_ : -9223372036854775808 ≤ l ∧ l ≤ 9223372036854775807) :
    Calls Try.prog 41 #[.int .i64 d, .int .i64 b, .int .i64 l] w (SaysIB (rentI d b l) (rentB d b l) w) := by
  have HB := Lib.hid (below_alloc w)
  have HI := Lib.hid (three_il d b l w)
  have HA := Lib.hid (rent_all d b l)
  cases hr : rentB d b l with
  | false =>
    have HR := Lib.hid (rent_no hr)
    have H := Lib.hid (HA.out.trans hr)
    rw [HR.out]
    clear hr
    go_enter Try.func41, Try.ntmps41
    go_wp2_with fail
    go_at_call 68; refine (areFrom_is false 0 _ [d, b, l] 100000 _ (HI.out _) (by simp) H.out).mono ?_; rintro e w1 ⟨rfl, m, rfl⟩
    go_wp2_with fail
    go_ret2
    exact saysIB rfl (below_drewN (HB.out _) _)
  | true =>
    have H := Lib.hid (HA.out.trans hr)
    obtain ⟨⟨d1, d2⟩, ⟨b1, b2⟩, l1, l2⟩ := rent_ok hr
    have ws : IntKind.i64.wrap (l + b) = l + b := IntWalk.i64_in _ (by omega)
    by_cases hl : d ≤ l
    · rw [rent_le hr hl]
      clear hr
      go_enter Try.func41, Try.ntmps41
      go_wp2_with fail
      go_at_call 68; refine (areFrom_is true 0 _ [d, b, l] 100000 _ (HI.out _) (by simp) H.out).mono ?_; rintro e w1 ⟨rfl, m, rfl⟩
      go_wp2_with fail
      go_ret2
      exact saysIB rfl (below_drewN (HB.out _) _)
    · rw [rent_gt hr hl]
      clear hr
      go_enter Try.func41, Try.ntmps41
      go_wp2_with fail
      go_at_call 68; refine (areFrom_is true 0 _ [d, b, l] 100000 _ (HI.out _) (by simp) H.out).mono ?_; rintro e w1 ⟨rfl, m, rfl⟩
      go_wp2_with fail
      go_ret2
      exact saysIB rfl (below_drewN (HB.out _) _)
end Go.Proofs.Ytgiijkbgbpohoaa
