/- Spans are valid: the model. -/
import Derived.Test.YtgiijkbgbpohoaaSp0
namespace Go.Proofs.Ytgiijkbgbpohoaa
open Go.RowKit Go.ChangeShapes Go.WideShapes

set_option maxHeartbeats 4000000 in
theorem l06Spans_any (v : Value) (Z : List Sp) (w : World) (hv : PV w v Z) (hn : Z.length ≤ 1048576) : Calls Try.prog 61 #[v] w (Says (spansB Z) w) := by
  rcases hv with ⟨rfl, ao, cap, rfl⟩ | ⟨b, off, cap, rfl, hpos, hbl, hcell⟩
  · go_enter Try.func61, Try.ntmps61
    go_wp2
    refine wp_loop_rounds 1 ?_
    rw [rounds_succ]
    go_wp2
    go_ret
    exact says rfl (Below.refl _ _)
  have HC := Lib.hid hcell
  clear hcell
  go_enter Try.func61, Try.ntmps61
  go_wp2
  go_loopg [3] Z.length (fun gk i wr => ∃ k : Nat, k ≤ Z.length ∧ gk + k = Z.length ∧ i = .int .i64 k ∧ (∀ j, j < k → spB (Z.getD j zP) = true) ∧ Below w.heap.size w wr)
  case atStart => exact ⟨0, Nat.zero_le _, by omega, rfl, fun j hj => by omega, Below.refl _ _⟩
  case round =>
    obtain ⟨k, hk, hgk, rfl, hall, hwr⟩ := hrel
    have HL := Lib.hid hall
    have HW := Lib.hid hwr
    have hbw : b < wr.heap.size := Nat.lt_of_lt_of_le hbl hwr.size
    clear hall
    by_cases hlt : k < Z.length
    · have A1 := (HC.out k hlt).keep hwr hbl
      obtain ⟨a, hA⟩ : ∃ a, a = Z.getD k zP := ⟨_, rfl⟩
      rw [← hA] at A1
      have HA := Lib.hid hA
      obtain ⟨c0, c1, c2⟩ := A1
      have HB2 := Lib.hid (HW.out.trans ((below_alloc wr (.cells #[.int .i64 a.f, .int .i64 a.t, .int .i64 a.g] 70)).mono HW.out.size))
      clear hwr hA
      cases h1 : inB a.f 0 100000 with
      | false =>
        have T1 := Lib.hid (show (decide (0 ≤ a.f) && decide (a.f ≤ 100000)) = false from h1)
        have BAD : Hid (spansB Z = false) := Lib.hid (spansB_bad hlt (by rw [← HA.out]; exact spB_one h1))
        clear h1
        go_wp2_with fail
        go_at_call 67; refine (l00In_is false a.f 0 100000 _ T1.out).mono ?_; rintro e wq ⟨rfl, m1, rfl⟩
        go_wp2_with fail
        go_ret
        exact says BAD.out.symm (below_drewN (HB2.out) _)
      | true =>
        have T1 := Lib.hid (show (decide (0 ≤ a.f) && decide (a.f ≤ 100000)) = true from h1)
        have H3 := Lib.hid (spB_three h1)
        obtain ⟨g1, g2⟩ := inB_ok h1
        have wf : IntKind.i64.wrap (a.f + 1) = a.f + 1 := IntWalk.i64_in _ (by omega)
        clear h1 g1 g2
        cases h2 : inB a.t (a.f + 1) 100000 with
        | false =>
          have T2 := Lib.hid (show (decide (a.f + 1 ≤ a.t) && decide (a.t ≤ 100000)) = false from h2)
          have BAD : Hid (spansB Z = false) := Lib.hid (spansB_bad hlt (by rw [← HA.out]; exact (by rw [H3.out, h2]; rfl)))
          clear h2
          go_wp2_with fail
          go_at_call 67; refine (l00In_is true a.f 0 100000 _ T1.out).mono ?_; rintro e wq ⟨rfl, m1, rfl⟩
          go_wp2_with fail
          go_at_call 67; refine (l00In_is false a.t (a.f + 1) 100000 _ T2.out).mono ?_; rintro e wq ⟨rfl, m2, rfl⟩
          go_wp2_with fail
          go_ret
          exact says BAD.out.symm (below_drewN (HB2.out) _)
        | true =>
          have T2 := Lib.hid (show (decide (a.f + 1 ≤ a.t) && decide (a.t ≤ 100000)) = true from h2)
          cases h3 : inB a.g 0 1000 with
          | false =>
            have T3 := Lib.hid (show (decide (0 ≤ a.g) && decide (a.g ≤ 1000)) = false from h3)
            have BAD : Hid (spansB Z = false) := Lib.hid (spansB_bad hlt (by rw [← HA.out]; exact (by rw [H3.out, h2, h3]; rfl)))
            clear h2 h3
            go_wp2_with fail
            go_at_call 67; refine (l00In_is true a.f 0 100000 _ T1.out).mono ?_; rintro e wq ⟨rfl, m1, rfl⟩
            go_wp2_with fail
            go_at_call 67; refine (l00In_is true a.t (a.f + 1) 100000 _ T2.out).mono ?_; rintro e wq ⟨rfl, m2, rfl⟩
            go_wp2_with fail
            go_at_call 67; refine (l00In_is false a.g 0 1000 _ T3.out).mono ?_; rintro e wq ⟨rfl, m3, rfl⟩
            go_wp2_with fail
            go_ret
            exact says BAD.out.symm (below_drewN (HB2.out) _)
          | true =>
            have T3 := Lib.hid (show (decide (0 ≤ a.g) && decide (a.g ≤ 1000)) = true from h3)
            have OK : Hid (spB a = true) := Lib.hid (by rw [H3.out, h2, h3]; rfl)
            clear h2 h3
            go_wp2_with fail
            go_at_call 67; refine (l00In_is true a.f 0 100000 _ T1.out).mono ?_; rintro e wq ⟨rfl, m1, rfl⟩
            go_wp2_with fail
            go_at_call 67; refine (l00In_is true a.t (a.f + 1) 100000 _ T2.out).mono ?_; rintro e wq ⟨rfl, m2, rfl⟩
            go_wp2_with fail
            go_at_call 67; refine (l00In_is true a.g 0 1000 _ T3.out).mono ?_; rintro e wq ⟨rfl, m3, rfl⟩
            go_wp2_with fail
            go_roundg (gk - 1)
            case measure => omega
            case rel => exact ⟨k + 1, by omega, by omega, by go_num, fun j hj => by
              by_cases e : j = k
              · subst e; rw [← HA.out]; exact OK.out
              · exact HL.out j (by omega), below_drewN HB2.out _⟩
    · obtain rfl : k = Z.length := by omega
      have HA : Hid (allP Z = true) := Lib.hid (rngAll HL.out)
      clear hwr
      rcases few64_cases (n := Z.length) with ⟨f, f1, f2⟩ | ⟨f, f1⟩ | ⟨f, f1, f2⟩
      · have F := Lib.hid f
        clear f
        go_wp2
        go_ret
        exact says (by unfold spansB; rw [HA.out, F.out]; simp <;> omega) HW.out
      · omega
      · have F := Lib.hid f
        clear f
        go_wp2
        go_ret
        exact says (by unfold spansB; rw [HA.out, F.out]; simp <;> omega) HW.out
theorem l06Spans_is (t : Bool) (v : Value) (Z : List Sp) (w : World) (hv : PV w v Z) (hn : Z.length ≤ 1048576) (ht : spansB Z = t) : Calls Try.prog 61 #[v] w (Says t w) := by subst ht; exact l06Spans_any v Z w hv hn
end Go.Proofs.Ytgiijkbgbpohoaa
