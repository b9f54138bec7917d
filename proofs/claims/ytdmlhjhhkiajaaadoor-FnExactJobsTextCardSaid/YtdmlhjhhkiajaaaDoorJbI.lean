/- Jobs are valid: the program. -/
import Derived.Test.YtdmlhjhhkiajaaaDoorJb0
namespace Go.Proofs.YtdmlhjhhkiajaaaDoor
open Go.RowKit Go.ChangeShapes Go.WideShapes

set_option maxHeartbeats 1000000 in
theorem isJob_any (a : Ac) (w : World) : Calls Tryd.prog 122 #[.agg #[.int .i64 a.f, .int .i64 a.t, .int .i64 a.r, .int .i64 a.c]] w (Says (jobB a) w) := by
  have HB := Lib.hid (below_alloc w)
  unfold jobB
  cases h1 : inB a.f 1 1000 with
  | false =>
    have T1 := Lib.hid (show (decide (1 ≤ a.f) && decide (a.f ≤ 1000)) = false from h1)
    clear h1
    go_enter Tryd.func122, Tryd.ntmps122
    go_wp2_with fail
    go_at_call 123; refine (isFrom_is false a.f 1 1000 _ T1.out).mono ?_; rintro e w1 ⟨rfl, m1, rfl⟩
    go_wp2_with fail
    go_ret
    exact says rfl (below_drewN (HB.out _) _)
  | true =>
    have T1 := Lib.hid (show (decide (1 ≤ a.f) && decide (a.f ≤ 1000)) = true from h1)
    clear h1
    cases h2 : inB a.t 0 100000 with
    | false =>
      have T2 := Lib.hid (show (decide (0 ≤ a.t) && decide (a.t ≤ 100000)) = false from h2)
      clear h2
      go_enter Tryd.func122, Tryd.ntmps122
      go_wp2_with fail
      go_at_call 123; refine (isFrom_is true a.f 1 1000 _ T1.out).mono ?_; rintro e w1 ⟨rfl, m1, rfl⟩
      go_wp2_with fail
      go_at_call 123; refine (isFrom_is false a.t 0 100000 _ T2.out).mono ?_; rintro e w2 ⟨rfl, m2, rfl⟩
      go_wp2_with fail
      go_ret
      exact says rfl (below_drewN (HB.out _) _)
    | true =>
      have T2 := Lib.hid (show (decide (0 ≤ a.t) && decide (a.t ≤ 100000)) = true from h2)
      clear h2
      cases h3 : inB a.r 0 1000 with
      | false =>
        have T3 := Lib.hid (show (decide (0 ≤ a.r) && decide (a.r ≤ 1000)) = false from h3)
        clear h3
        go_enter Tryd.func122, Tryd.ntmps122
        go_wp2_with fail
        go_at_call 123; refine (isFrom_is true a.f 1 1000 _ T1.out).mono ?_; rintro e w1 ⟨rfl, m1, rfl⟩
        go_wp2_with fail
        go_at_call 123; refine (isFrom_is true a.t 0 100000 _ T2.out).mono ?_; rintro e w2 ⟨rfl, m2, rfl⟩
        go_wp2_with fail
        go_at_call 123; refine (isFrom_is false a.r 0 1000 _ T3.out).mono ?_; rintro e w3 ⟨rfl, m3, rfl⟩
        go_wp2_with fail
        go_ret
        exact says rfl (below_drewN (HB.out _) _)
      | true =>
        have T3 := Lib.hid (show (decide (0 ≤ a.r) && decide (a.r ≤ 1000)) = true from h3)
        clear h3
        cases h4 : inB a.c 0 100000 with
        | false =>
          have T4 := Lib.hid (show (decide (0 ≤ a.c) && decide (a.c ≤ 100000)) = false from h4)
          clear h4
          go_enter Tryd.func122, Tryd.ntmps122
          go_wp2_with fail
          go_at_call 123; refine (isFrom_is true a.f 1 1000 _ T1.out).mono ?_; rintro e w1 ⟨rfl, m1, rfl⟩
          go_wp2_with fail
          go_at_call 123; refine (isFrom_is true a.t 0 100000 _ T2.out).mono ?_; rintro e w2 ⟨rfl, m2, rfl⟩
          go_wp2_with fail
          go_at_call 123; refine (isFrom_is true a.r 0 1000 _ T3.out).mono ?_; rintro e w3 ⟨rfl, m3, rfl⟩
          go_wp2_with fail
          go_at_call 123; refine (isFrom_is false a.c 0 100000 _ T4.out).mono ?_; rintro e w4 ⟨rfl, m4, rfl⟩
          go_wp2_with fail
          go_ret
          exact says rfl (below_drewN (HB.out _) _)
        | true =>
          have T4 := Lib.hid (show (decide (0 ≤ a.c) && decide (a.c ≤ 100000)) = true from h4)
          clear h4
          go_enter Tryd.func122, Tryd.ntmps122
          go_wp2_with fail
          go_at_call 123; refine (isFrom_is true a.f 1 1000 _ T1.out).mono ?_; rintro e w1 ⟨rfl, m1, rfl⟩
          go_wp2_with fail
          go_at_call 123; refine (isFrom_is true a.t 0 100000 _ T2.out).mono ?_; rintro e w2 ⟨rfl, m2, rfl⟩
          go_wp2_with fail
          go_at_call 123; refine (isFrom_is true a.r 0 1000 _ T3.out).mono ?_; rintro e w3 ⟨rfl, m3, rfl⟩
          go_wp2_with fail
          go_at_call 123; refine (isFrom_is true a.c 0 100000 _ T4.out).mono ?_; rintro e w4 ⟨rfl, m4, rfl⟩
          go_wp2_with fail
          go_ret
          exact says rfl (below_drewN (HB.out _) _)
theorem isJob_is (t : Bool) (a : Ac) (w : World) (ht : jobB a = t) : Calls Tryd.prog 122 #[.agg #[.int .i64 a.f, .int .i64 a.t, .int .i64 a.r, .int .i64 a.c]] w (Says t w) := by subst ht; exact isJob_any a w
theorem areJobs1_is (t : Bool) (a : Ac) (w : World) (ht : jobB a = !t) : Calls Tryd.prog 121 #[.agg #[.int .i64 a.f, .int .i64 a.t, .int .i64 a.r, .int .i64 a.c]] w (Says t w) := by
  have HB := Lib.hid (below_alloc w)
  have HT := Lib.hid ht
  clear ht
  go_enter Tryd.func121, Tryd.ntmps121
  go_wp2_with fail
  go_at_call 122; refine (isJob_is _ a _ HT.out).mono ?_; rintro e w1 ⟨rfl, b1⟩
  have H1 := Lib.hid ((HB.out _).trans (b1.mono (HB.out _).size))
  clear b1
  cases t
  · go_wp2_with fail
    go_ret
    exact says rfl H1.out
  · go_wp2_with fail
    go_ret
    exact says rfl H1.out
/-- The index of one, or -1. -/
def FoundJ (t : Bool) (w : World) (e : Ending) (w' : World) : Prop := ((t = true ∧ ∃ k : Nat, e = .returned (.int .i64 k)) ∨ (t = false ∧ e = .returned (.int .i64 (-1)))) ∧ Below w.heap.size w w'
set_option maxHeartbeats 1000000 in
theorem ixJob_any (v : Value) (Z : List Ac) (w : World) (hv : AV w v Z) (hn : Z.length ≤ 1048576) :
    Calls Tryd.prog 155 #[v, .func (.func 121) #[] #[]] w (FoundJ (!allJ Z) w) := by
  rcases hv with ⟨rfl, ao, cap, rfl⟩ | ⟨b, off, cap, rfl, hpos, hbl, hcell⟩
  · go_enter Tryd.func155, Tryd.ntmps155
    go_wp2_with fail
    refine wp_loop_rounds 1 ?_
    rw [rounds_succ]
    go_wp2
    go_ret
    exact ⟨Or.inr ⟨rfl, rfl⟩, Below.refl _ _⟩
  have HC := Lib.hid hcell
  clear hcell
  go_enter Tryd.func155, Tryd.ntmps155
  go_wp2_with fail
  go_loopg [8] Z.length (fun gk i wr => ∃ k : Nat, k ≤ Z.length ∧ gk + k = Z.length ∧ i = .int .i64 k ∧ (∀ j, j < k → jobB (Z.getD j zA) = true) ∧ Below w.heap.size w wr)
  case atStart => exact ⟨0, Nat.zero_le _, by omega, rfl, fun j hj => by omega, Below.refl _ _⟩
  case round =>
    obtain ⟨k, hk, hgk, rfl, hall, hwr⟩ := hrel
    have HL := Lib.hid hall
    have HW := Lib.hid hwr
    clear hall
    by_cases hlt : k < Z.length
    · have A1 := (HC.out k hlt).keep hwr hbl
      clear hwr
      cases q : jobB (Z.getD k zA) with
      | false =>
        have BAD : Hid (allJ Z = false) := Lib.hid (rngNot hlt q)
        have Q := Lib.hid (show jobB (Z.getD k zA) = !true from q)
        generalize Z.getD k zA = a at A1 Q
        obtain ⟨c0, c1, c2, c3⟩ := A1
        clear q
        go_wp2_with fail
        go_at_call 121; refine (areJobs1_is true a _ Q.out).mono ?_; rintro e w1 ⟨rfl, b1⟩
        have H1 := Lib.hid (HW.out.trans (b1.mono HW.out.size))
        clear b1 c0 c1 c2 c3
        go_wp2_with fail
        go_ret
        exact ⟨Or.inl ⟨by rw [BAD.out]; rfl, k, rfl⟩, H1.out⟩
      | true =>
        have Q := Lib.hid (show jobB (Z.getD k zA) = !false from q)
        have HQ := Lib.hid q
        generalize Z.getD k zA = a at A1 Q
        obtain ⟨c0, c1, c2, c3⟩ := A1
        clear q
        go_wp2_with fail
        go_at_call 121; refine (areJobs1_is false a _ Q.out).mono ?_; rintro e w1 ⟨rfl, b1⟩
        have H1 := Lib.hid (HW.out.trans (b1.mono HW.out.size))
        clear b1 c0 c1 c2 c3
        go_wp2_with fail
        go_roundg (gk - 1)
        case measure => omega
        case rel => exact ⟨k + 1, by omega, by omega, by go_num, fun j hj => by
          by_cases e : j = k
          · subst e; exact HQ.out
          · exact HL.out j (by omega), H1.out⟩
    · obtain rfl : k = Z.length := by omega
      have HA : Hid (allJ Z = true) := Lib.hid (rngAll HL.out)
      clear hwr
      go_wp2_with fail
      go_ret
      exact ⟨Or.inr ⟨by rw [HA.out]; rfl, rfl⟩, HW.out⟩
theorem ctJob_any (v : Value) (Z : List Ac) (w : World) (hv : AV w v Z) (hn : Z.length ≤ 1048576) :
    Calls Tryd.prog 124 #[v, .func (.func 121) #[] #[]] w (Says (!allJ Z) w) := by
  have HV := Lib.hid hv
  obtain ⟨ao, cap, rfl⟩ := hv.long
  clear hv
  go_enter Tryd.func124, Tryd.ntmps124
  go_wp2_with fail
  go_at_call 155; refine (ixJob_any _ Z _ HV.out hn).mono ?_; rintro e w1 ⟨⟨ht, k, rfl⟩ | ⟨ht, rfl⟩, b1⟩
  · have HT := Lib.hid ht
    have H1 := Lib.hid b1
    have hk0 : (0 : Int) ≤ (k : Int) := by omega
    clear ht b1
    go_wp2_with fail
    go_ret
    exact says (by rw [HT.out]) H1.out
  · have HT := Lib.hid ht
    have H1 := Lib.hid b1
    clear ht b1
    go_wp2_with fail
    go_ret
    exact says HT.out.symm H1.out
theorem ctJob_is (t : Bool) (v : Value) (Z : List Ac) (w : World) (hv : AV w v Z) (hn : Z.length ≤ 1048576) (ht : allJ Z = !t) :
    Calls Tryd.prog 124 #[v, .func (.func 121) #[] #[]] w (Says t w) := by
  obtain rfl : t = !allJ Z := by rw [ht]; simp
  exact ctJob_any v Z w hv hn
set_option maxHeartbeats 1000000 in
theorem areJobs_any (v : Value) (Z : List Ac) (w : World) (hv : AV w v Z) (hn : Z.length ≤ 1048576) : Calls Tryd.prog 86 #[v] w (Says (jobsB Z) w) := by
  have HV := Lib.hid hv
  obtain ⟨ao, cap, rfl⟩ := hv.long
  clear hv
  unfold jobsB
  cases h1 : fewJ Z.length with
  | false =>
    have H1 := Lib.hid (show (decide (1 ≤ (Z.length : Int)) && decide ((Z.length : Int) ≤ 12)) = false from h1)
    clear h1
    go_enter Tryd.func86, Tryd.ntmps86
    go_wp2_with fail
    go_at_call 123; refine (isFrom_is false _ 1 12 _ H1.out).mono ?_; rintro e w' ⟨rfl, m, rfl⟩
    go_wp2_with fail
    go_ret
    exact says rfl (below_drewN (Below.refl _ _) _)
  | true =>
    have H1 := Lib.hid (show (decide (1 ≤ (Z.length : Int)) && decide ((Z.length : Int) ≤ 12)) = true from h1)
    clear h1
    cases h2 : allJ Z with
    | false =>
      have H2 := Lib.hid (show allJ Z = !true from h2)
      clear h2
      go_enter Tryd.func86, Tryd.ntmps86
      go_wp2_with fail
      go_at_call 123; refine (isFrom_is true _ 1 12 _ H1.out).mono ?_; rintro e w' ⟨rfl, m, rfl⟩
      go_wp2_with fail
      go_at_call 124; refine (ctJob_is true _ Z _ (HV.out.dn m) hn H2.out).mono ?_; rintro e w1 ⟨rfl, b1⟩
      have B1 := Lib.hid (Below.undrew b1)
      clear b1
      go_wp2_with fail
      go_ret
      exact says rfl B1.out
    | true =>
      have H2 := Lib.hid (show allJ Z = !false from h2)
      clear h2
      go_enter Tryd.func86, Tryd.ntmps86
      go_wp2_with fail
      go_at_call 123; refine (isFrom_is true _ 1 12 _ H1.out).mono ?_; rintro e w' ⟨rfl, m, rfl⟩
      go_wp2_with fail
      go_at_call 124; refine (ctJob_is false _ Z _ (HV.out.dn m) hn H2.out).mono ?_; rintro e w1 ⟨rfl, b1⟩
      have B1 := Lib.hid (Below.undrew b1)
      clear b1
      go_wp2_with fail
      go_ret
      exact says rfl B1.out
theorem areJobs_is (t : Bool) (v : Value) (Z : List Ac) (w : World) (hv : AV w v Z) (hn : Z.length ≤ 1048576) (ht : jobsB Z = t) : Calls Tryd.prog 86 #[v] w (Says t w) := by subst ht; exact areJobs_any v Z w hv hn
theorem implAreJobs_any (v : Value) (Z : List Ac) (w : World) (hv : AV w v Z) (o : OKA Z) : Calls Tryd.prog 86 #[v] w (Says (jobsB Z) w) := areJobs_any v Z w hv o.size
end Go.Proofs.YtdmlhjhhkiajaaaDoor
