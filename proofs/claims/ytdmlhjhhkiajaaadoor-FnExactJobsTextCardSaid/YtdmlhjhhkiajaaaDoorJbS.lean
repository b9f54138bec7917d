/- Jobs are valid: the model. -/
import Derived.Test.YtdmlhjhhkiajaaaDoorJb0
namespace Go.Proofs.YtdmlhjhhkiajaaaDoor
open Go.RowKit Go.ChangeShapes Go.WideShapes

set_option maxHeartbeats 1000000 in
theorem l06Job_any (g o : Nat) (a : Ac) (w : World) (h : ArcAt w g o a) : Calls Tryd.prog 120 #[.pointer (some ⟨g, o, none⟩)] w (Tells (jobB a) w) := by
  obtain ⟨c0, c1, c2, c3⟩ := h
  unfold jobB
  cases h1 : inB a.f 1 1000 with
  | false =>
    have T1 := Lib.hid (show (decide (1 ≤ a.f) && decide (a.f ≤ 1000)) = false from h1)
    clear h1
    go_enter Tryd.func120, Tryd.ntmps120
    go_wp2_with fail
    go_at_call 103; refine (l00In_is false a.f 1 1000 _ T1.out).mono ?_; rintro e w1 ⟨rfl, m1, rfl⟩
    go_wp2_with fail
    go_ret
    exact tells _ rfl
  | true =>
    have T1 := Lib.hid (show (decide (1 ≤ a.f) && decide (a.f ≤ 1000)) = true from h1)
    clear h1
    cases h2 : inB a.t 0 100000 with
    | false =>
      have T2 := Lib.hid (show (decide (0 ≤ a.t) && decide (a.t ≤ 100000)) = false from h2)
      clear h2
      go_enter Tryd.func120, Tryd.ntmps120
      go_wp2_with fail
      go_at_call 103; refine (l00In_is true a.f 1 1000 _ T1.out).mono ?_; rintro e w1 ⟨rfl, m1, rfl⟩
      go_wp2_with fail
      go_at_call 103; refine (l00In_is false a.t 0 100000 _ T2.out).mono ?_; rintro e w2 ⟨rfl, m2, rfl⟩
      go_wp2_with fail
      go_ret
      exact tells _ rfl
    | true =>
      have T2 := Lib.hid (show (decide (0 ≤ a.t) && decide (a.t ≤ 100000)) = true from h2)
      clear h2
      cases h3 : inB a.r 0 1000 with
      | false =>
        have T3 := Lib.hid (show (decide (0 ≤ a.r) && decide (a.r ≤ 1000)) = false from h3)
        clear h3
        go_enter Tryd.func120, Tryd.ntmps120
        go_wp2_with fail
        go_at_call 103; refine (l00In_is true a.f 1 1000 _ T1.out).mono ?_; rintro e w1 ⟨rfl, m1, rfl⟩
        go_wp2_with fail
        go_at_call 103; refine (l00In_is true a.t 0 100000 _ T2.out).mono ?_; rintro e w2 ⟨rfl, m2, rfl⟩
        go_wp2_with fail
        go_at_call 103; refine (l00In_is false a.r 0 1000 _ T3.out).mono ?_; rintro e w3 ⟨rfl, m3, rfl⟩
        go_wp2_with fail
        go_ret
        exact tells _ rfl
      | true =>
        have T3 := Lib.hid (show (decide (0 ≤ a.r) && decide (a.r ≤ 1000)) = true from h3)
        clear h3
        cases h4 : inB a.c 0 100000 with
        | false =>
          have T4 := Lib.hid (show (decide (0 ≤ a.c) && decide (a.c ≤ 100000)) = false from h4)
          clear h4
          go_enter Tryd.func120, Tryd.ntmps120
          go_wp2_with fail
          go_at_call 103; refine (l00In_is true a.f 1 1000 _ T1.out).mono ?_; rintro e w1 ⟨rfl, m1, rfl⟩
          go_wp2_with fail
          go_at_call 103; refine (l00In_is true a.t 0 100000 _ T2.out).mono ?_; rintro e w2 ⟨rfl, m2, rfl⟩
          go_wp2_with fail
          go_at_call 103; refine (l00In_is true a.r 0 1000 _ T3.out).mono ?_; rintro e w3 ⟨rfl, m3, rfl⟩
          go_wp2_with fail
          go_at_call 103; refine (l00In_is false a.c 0 100000 _ T4.out).mono ?_; rintro e w4 ⟨rfl, m4, rfl⟩
          go_wp2_with fail
          go_ret
          exact tells _ rfl
        | true =>
          have T4 := Lib.hid (show (decide (0 ≤ a.c) && decide (a.c ≤ 100000)) = true from h4)
          clear h4
          go_enter Tryd.func120, Tryd.ntmps120
          go_wp2_with fail
          go_at_call 103; refine (l00In_is true a.f 1 1000 _ T1.out).mono ?_; rintro e w1 ⟨rfl, m1, rfl⟩
          go_wp2_with fail
          go_at_call 103; refine (l00In_is true a.t 0 100000 _ T2.out).mono ?_; rintro e w2 ⟨rfl, m2, rfl⟩
          go_wp2_with fail
          go_at_call 103; refine (l00In_is true a.r 0 1000 _ T3.out).mono ?_; rintro e w3 ⟨rfl, m3, rfl⟩
          go_wp2_with fail
          go_at_call 103; refine (l00In_is true a.c 0 100000 _ T4.out).mono ?_; rintro e w4 ⟨rfl, m4, rfl⟩
          go_wp2_with fail
          go_ret
          exact tells _ rfl
theorem l06Job_is (t : Bool) (g o : Nat) (a : Ac) (w : World) (h : ArcAt w g o a) (ht : jobB a = t) : Calls Tryd.prog 120 #[.pointer (some ⟨g, o, none⟩)] w (Tells t w) := by subst ht; exact l06Job_any g o a w h
theorem drewMore {w wr : World} (h : ∃ m, wr = w.drewN m) : ∀ n, ∃ m, wr.drewN n = w.drewN m := by
  obtain ⟨m, rfl⟩ := h
  exact fun n => ⟨_, World.drewN_drewN _ _ _⟩
theorem jobsB_bad {Z : List Ac} {k : Nat} (hk : k < Z.length) (h : jobB (Z.getD k zA) = false) : jobsB Z = false := by
  unfold jobsB allJ
  rw [rngNot hk h, Bool.and_false]
set_option maxHeartbeats 1000000 in
theorem l06Are_any (v : Value) (Z : List Ac) (w : World) (hv : AV w v Z) (hn : Z.length ≤ 1048576) : Calls Tryd.prog 83 #[v] w (Tells (jobsB Z) w) := by
  rcases hv with ⟨rfl, ao, cap, rfl⟩ | ⟨b, off, cap, rfl, hpos, hbl, hcell⟩
  · go_enter Tryd.func83, Tryd.ntmps83
    go_wp2
    refine wp_loop_rounds 1 ?_
    rw [rounds_succ]
    go_wp2
    go_ret
    exact tells 0 rfl
  have HC := Lib.hid hcell
  clear hcell
  go_enter Tryd.func83, Tryd.ntmps83
  go_wp2
  go_loopg [3] Z.length (fun gk i wr => ∃ k : Nat, k ≤ Z.length ∧ gk + k = Z.length ∧ i = .int .i64 k ∧ (∀ j, j < k → jobB (Z.getD j zA) = true) ∧ ∃ m, wr = w.drewN m)
  case atStart => exact ⟨0, Nat.zero_le _, by omega, rfl, fun j hj => by omega, 0, rfl⟩
  case round =>
    obtain ⟨k, hk, hgk, rfl, hall, hwr⟩ := hrel
    have HL := Lib.hid hall
    have HW := Lib.hid (drewMore hwr)
    have HWR := Lib.hid hwr
    clear hall
    by_cases hlt : k < Z.length
    · have c1 : ArcAt wr b (off + k * 4) (Z.getD k zA) := by obtain ⟨n, rfl⟩ := hwr; exact (HC.out k hlt).dn n
      have A1 := Lib.hid c1
      clear c1 hwr
      cases q : jobB (Z.getD k zA) with
      | false =>
        have Q := Lib.hid q
        have BAD := Lib.hid (jobsB_bad hlt q)
        generalize Z.getD k zA = a at A1 Q
        clear q
        go_wp2_with fail
        go_at_call 120; refine (l06Job_is false _ _ a _ A1.out Q.out).mono ?_; rintro e w1 ⟨rfl, m, rfl⟩
        go_wp2_with fail
        go_ret
        obtain ⟨m2, h2⟩ := HW.out m
        exact ⟨ret_bool BAD.out.symm, m2, h2⟩
      | true =>
        have Q := Lib.hid q
        have HQ := Lib.hid q
        generalize Z.getD k zA = a at A1 Q
        clear q
        go_wp2_with fail
        go_at_call 120; refine (l06Job_is true _ _ a _ A1.out Q.out).mono ?_; rintro e w1 ⟨rfl, m, rfl⟩
        go_wp2_with fail
        go_roundg (gk - 1)
        case measure => omega
        case rel => exact ⟨k + 1, by omega, by omega, by go_num, fun j hj => by
          by_cases e : j = k
          · subst e; exact HQ.out
          · exact HL.out j (by omega), HW.out m⟩
    · obtain rfl : k = Z.length := by omega
      have HA : Hid (allJ Z = true) := Lib.hid (rngAll HL.out)
      clear hwr
      rcases fewJ_cases (n := Z.length) with ⟨f, f1, f2⟩ | ⟨f, f1⟩ | ⟨f, f1, f2⟩
      · have F := Lib.hid f
        clear f
        go_wp2
        go_ret
        exact ⟨ret_bool (by unfold jobsB; rw [HA.out, F.out]; simp <;> omega), HWR.out⟩
      · omega
      · have F := Lib.hid f
        clear f
        go_wp2
        go_ret
        exact ⟨ret_bool (by unfold jobsB; rw [HA.out, F.out]; simp <;> omega), HWR.out⟩
theorem l06Are_is (t : Bool) (v : Value) (Z : List Ac) (w : World) (hv : AV w v Z) (hn : Z.length ≤ 1048576) (ht : jobsB Z = t) : Calls Tryd.prog 83 #[v] w (Tells t w) := by subst ht; exact l06Are_any v Z w hv hn
end Go.Proofs.YtdmlhjhhkiajaaaDoor
