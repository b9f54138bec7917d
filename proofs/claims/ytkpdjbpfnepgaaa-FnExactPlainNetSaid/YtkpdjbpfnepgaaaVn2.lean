/- Nets are valid: the program says so; both sides, of nets by value. -/
import Derived.Test.YtkpdjbpfnepgaaaVn
namespace Go.Proofs.Ytkpdjbpfnepgaaa
open Go.RowKit Go.ChangeShapes Go.WideShapes

set_option maxHeartbeats 1000000 in
theorem l03Is_any (g : Nat) (s1 : Value) (N : Nt) (w : World) (h : NP w g s1 N) (hn : N.arcs.length ≤ 1048576) :
    Calls Try.prog 52 #[.pointer (some ⟨g, 0, none⟩)] w (Tells (okN N) w) := by
  by_cases h1 : 2 ≤ N.nodes ∧ N.nodes ≤ 16
  · by_cases h2 : N.arcs.length ≤ 48
    · exact l03Is_arcs g s1 N w h h1.1 h1.2 h2
    · have E0 := Lib.hid (show (decide (2 ≤ N.nodes) && decide (N.nodes ≤ 16)) = true by simp; omega)
      have H2 := Lib.hid (okN_no2 (N := N) (by simp; omega))
      obtain ⟨c0, c1, r1⟩ := h
      obtain ⟨ao, cap, rfl⟩ := r1.long
      have hgt : decide ((N.arcs.length : Int) > 48) = true := by simp; omega
      clear r1 h1
      go_enter Try.func52, Try.ntmps52
      go_wp2_with (go_at_call 61; refine (l00In_is true N.nodes 2 16 _ E0.out).mono ?_; rintro e w' ⟨rfl, m, rfl⟩)
      go_ret
      exact tells _ H2.out.symm
  · have E0 := Lib.hid (show (decide (2 ≤ N.nodes) && decide (N.nodes ≤ 16)) = false by simp; omega)
    have H2 := Lib.hid (okN_no1 E0.out)
    obtain ⟨c0, c1, r1⟩ := h
    clear r1 h1
    go_enter Try.func52, Try.ntmps52
    go_wp2_with (go_at_call 61; refine (l00In_is false N.nodes 2 16 _ E0.out).mono ?_; rintro e w' ⟨rfl, m, rfl⟩)
    go_ret
    exact tells _ H2.out.symm
theorem l03Is_is (b : Bool) (g : Nat) (s1 : Value) (N : Nt) (w : World) (h : NP w g s1 N) (hn : N.arcs.length ≤ 1048576) (hb : okN N = b) :
    Calls Try.prog 52 #[.pointer (some ⟨g, 0, none⟩)] w (Tells b w) := by
  subst hb; exact l03Is_any g s1 N w h hn
theorem specValidNet_any (v : Value) (N : Nt) (w : World) (hv : NV w v N) (oN : OKN N) :
    Calls Try.prog 16 #[v] w (Says (okN N) w) := by
  have HB := Lib.hid (below_alloc w)
  have hn := oN.size
  obtain ⟨s1, rfl, g1⟩ := hv
  have HP := Lib.hid (NP.box w g1)
  clear g1
  go_enter Try.func16, Try.ntmps16
  go_wp2_with fail
  go_at_call 52; refine (l03Is_any _ s1 N _ HP.out hn).mono ?_; rintro e w' ⟨rfl, n1, rfl⟩
  go_wp2_with fail
  go_ret
  exact says rfl (below_drewN (HB.out _) _)

set_option maxHeartbeats 8000000 in
theorem implValidNet_arcs (s1 : Value) (N : Nt) (w : World) (r1 : AV w s1 N.arcs) (n1 : 2 ≤ N.nodes) (n2 : N.nodes ≤ 16) (hl : N.arcs.length ≤ 48) :
    Calls Try.prog 18 #[.agg #[.int .i64 N.nodes, s1]] w (Says (okN N) w) := by
  have E0 := Lib.hid (show (decide (2 ≤ N.nodes) && decide (N.nodes ≤ 16)) = true by simp; omega)
  have E1 := Lib.hid (show decide ((N.arcs.length : Int) ≤ 48) = true by simp; omega)
  have HB := Lib.hid (below_alloc w)
  have hgt : decide ((N.arcs.length : Int) > 48) = false := by simp; omega
  rcases r1 with ⟨hz, ao, cap, rfl⟩ | ⟨b, off, cap, rfl, hpos, hbl, hcell⟩
  · have HZ := Lib.hid hz
    have hlen : N.arcs.length = 0 := by rw [hz]; rfl
    have HLN := Lib.hid hlen
    clear hz hlen hgt hl
    go_enter Try.func18, Try.ntmps18
    go_wp2_with (go_at_call 53; refine (isFrom_is true N.nodes 2 16 _ E0.out).mono ?_; rintro e w' ⟨rfl, m, rfl⟩)
    refine wp_loop_rounds 1 ?_
    rw [rounds_succ]
    go_wp2
    go_ret
    exact says (okN_yes E0.out E1.out (fun i hi => by rw [HLN.out] at hi; omega)).symm (below_drewN (HB.out _) _)
  have HC := Lib.hid hcell
  have X0 := Lib.hid (Box2.mk' w (.int .i64 N.nodes) (.slice (some ⟨b, off, none⟩) N.arcs.length (N.arcs.length + cap)) 29)
  clear hcell
  go_enter Try.func18, Try.ntmps18
  go_wp2_with (go_at_call 53; refine (isFrom_is true N.nodes 2 16 _ E0.out).mono ?_; rintro e w' ⟨rfl, m, rfl⟩)
  go_loopg [18] N.arcs.length (fun gk i wr => ∃ k : Nat, k ≤ N.arcs.length ∧ gk + k = N.arcs.length ∧ i = .int .i64 k ∧ (∀ j, j < k → okA N.nodes (N.arcs.getD j zA) = true) ∧ Box2 wr w.heap.size (.int .i64 N.nodes) (.slice (some ⟨b, off, none⟩) N.arcs.length (N.arcs.length + cap)) ∧ Below w.heap.size w wr)
  case atStart => exact ⟨0, Nat.zero_le _, by omega, rfl, fun j hj => by omega, ⟨X0.out.c0, X0.out.c1⟩, below_drewN (HB.out _) _⟩
  case round =>
    clear X0
    obtain ⟨k, hk, hgk, rfl, hall, hx, hwr⟩ := hrel
    have HL := Lib.hid hall
    have HW := Lib.hid hwr
    have HX := Lib.hid hx
    have hlx := hx.lt
    obtain ⟨d0, d1⟩ := hx
    by_cases hlt : k < N.arcs.length
    · have ha : ArcAt wr b (off + k * 4) (N.arcs.getD k zA) := (HC.out k hlt).keep hwr hbl
      obtain ⟨a, hA⟩ : ∃ a, a = N.arcs.getD k zA := ⟨_, rfl⟩
      rw [← hA] at ha
      have HA := Lib.hid hA
      obtain ⟨a0, a1, a2, a3⟩ := ha
      have hbw : b < wr.heap.size := Nat.lt_of_lt_of_le hbl hwr.size
      have HB2 : Hid (∀ m, Box2 ((wr.alloc (.cells #[.int .i64 a.f, .int .i64 a.t, .int .i64 a.r, .int .i64 a.c] 65)).drewN m) w.heap.size (.int .i64 N.nodes) (.slice (some ⟨b, off, none⟩) N.arcs.length (N.arcs.length + cap)) ∧ Below w.heap.size w ((wr.alloc (.cells #[.int .i64 a.f, .int .i64 a.t, .int .i64 a.r, .int .i64 a.c] 65)).drewN m)) := Lib.hid fun m => ⟨HX.out.keep (below_drewN (below_alloc wr _) m) HX.out.lt, hwr.trans ((below_drewN (below_alloc wr _) m).mono hwr.size)⟩
      obtain ⟨t1, t2, t3, t4, t5, tt⟩ := arcT N.nodes a
      have T := Lib.hid tt
      clear tt hA hall hwr
      cases t1 with
      | false =>
        have e3 := T.out.e3
        have T1 := Lib.hid T.out.e1
        have T2 := Lib.hid T.out.e2
        have T4 := Lib.hid T.out.e4
        have T5 := Lib.hid T.out.e5
        go_wp2_with fail
        go_at_call 54; refine (isIndex_is _ N.nodes a.f _ (by omega) (by omega) T1.out).mono ?_; rintro e wq ⟨rfl, m1, rfl⟩
        go_wp2_with fail
        go_ret
        exact says (okN_no3 hlt (by rw [← HA.out, T.out.is]; rfl)).symm ((HB2.out _).2)
      | true =>
        cases t2 with
        | false =>
          have e3 := T.out.e3
          have T1 := Lib.hid T.out.e1
          have T2 := Lib.hid T.out.e2
          have T4 := Lib.hid T.out.e4
          have T5 := Lib.hid T.out.e5
          go_wp2_with fail
          go_at_call 54; refine (isIndex_is _ N.nodes a.f _ (by omega) (by omega) T1.out).mono ?_; rintro e wq ⟨rfl, m1, rfl⟩
          go_wp2_with fail
          go_at_call 54; refine (isIndex_is _ N.nodes a.t _ (by omega) (by omega) T2.out).mono ?_; rintro e wq ⟨rfl, m2, rfl⟩
          go_wp2_with fail
          go_ret
          exact says (okN_no3 hlt (by rw [← HA.out, T.out.is]; simp)).symm ((HB2.out _).2)
        | true =>
          cases t3 with
          | true =>
            have e3 := T.out.e3
            have T1 := Lib.hid T.out.e1
            have T2 := Lib.hid T.out.e2
            have T4 := Lib.hid T.out.e4
            have T5 := Lib.hid T.out.e5
            go_wp2_with fail
            go_at_call 54; refine (isIndex_is _ N.nodes a.f _ (by omega) (by omega) T1.out).mono ?_; rintro e wq ⟨rfl, m1, rfl⟩
            go_wp2_with fail
            go_at_call 54; refine (isIndex_is _ N.nodes a.t _ (by omega) (by omega) T2.out).mono ?_; rintro e wq ⟨rfl, m2, rfl⟩
            go_wp2_with fail
            go_ret
            exact says (okN_no3 hlt (by rw [← HA.out, T.out.is]; simp)).symm ((HB2.out _).2)
          | false =>
            cases t4 with
            | false =>
              have e3 := T.out.e3
              have T1 := Lib.hid T.out.e1
              have T2 := Lib.hid T.out.e2
              have T4 := Lib.hid T.out.e4
              have T5 := Lib.hid T.out.e5
              go_wp2_with fail
              go_at_call 54; refine (isIndex_is _ N.nodes a.f _ (by omega) (by omega) T1.out).mono ?_; rintro e wq ⟨rfl, m1, rfl⟩
              go_wp2_with fail
              go_at_call 54; refine (isIndex_is _ N.nodes a.t _ (by omega) (by omega) T2.out).mono ?_; rintro e wq ⟨rfl, m2, rfl⟩
              go_wp2_with fail
              go_at_call 53; refine (isFrom_is _ a.r 0 1000000 _ T4.out).mono ?_; rintro e wq ⟨rfl, m3, rfl⟩
              go_wp2_with fail
              go_ret
              exact says (okN_no3 hlt (by rw [← HA.out, T.out.is]; simp)).symm ((HB2.out _).2)
            | true =>
              cases t5 with
              | false =>
                have e3 := T.out.e3
                have T1 := Lib.hid T.out.e1
                have T2 := Lib.hid T.out.e2
                have T4 := Lib.hid T.out.e4
                have T5 := Lib.hid T.out.e5
                go_wp2_with fail
                go_at_call 54; refine (isIndex_is _ N.nodes a.f _ (by omega) (by omega) T1.out).mono ?_; rintro e wq ⟨rfl, m1, rfl⟩
                go_wp2_with fail
                go_at_call 54; refine (isIndex_is _ N.nodes a.t _ (by omega) (by omega) T2.out).mono ?_; rintro e wq ⟨rfl, m2, rfl⟩
                go_wp2_with fail
                go_at_call 53; refine (isFrom_is _ a.r 0 1000000 _ T4.out).mono ?_; rintro e wq ⟨rfl, m3, rfl⟩
                go_wp2_with fail
                go_at_call 53; refine (isFrom_is _ a.c (-1000) 1000 _ T5.out).mono ?_; rintro e wq ⟨rfl, m4, rfl⟩
                go_wp2_with fail
                go_ret
                exact says (okN_no3 hlt (by rw [← HA.out, T.out.is]; simp)).symm ((HB2.out _).2)
              | true =>
                have e3 := T.out.e3
                have T1 := Lib.hid T.out.e1
                have T2 := Lib.hid T.out.e2
                have T4 := Lib.hid T.out.e4
                have T5 := Lib.hid T.out.e5
                go_wp2_with fail
                go_at_call 54; refine (isIndex_is _ N.nodes a.f _ (by omega) (by omega) T1.out).mono ?_; rintro e wq ⟨rfl, m1, rfl⟩
                go_wp2_with fail
                go_at_call 54; refine (isIndex_is _ N.nodes a.t _ (by omega) (by omega) T2.out).mono ?_; rintro e wq ⟨rfl, m2, rfl⟩
                go_wp2_with fail
                go_at_call 53; refine (isFrom_is _ a.r 0 1000000 _ T4.out).mono ?_; rintro e wq ⟨rfl, m3, rfl⟩
                go_wp2_with fail
                go_at_call 53; refine (isFrom_is _ a.c (-1000) 1000 _ T5.out).mono ?_; rintro e wq ⟨rfl, m4, rfl⟩
                go_wp2_with fail
                go_roundg (gk - 1)
                case measure => omega
                case rel => exact ⟨k + 1, by omega, by omega, by go_num, fun j hj => by
                  by_cases e : j = k
                  · subst e; rw [← HA.out, T.out.is]; rfl
                  · exact HL.out j (by omega), HB2.out _⟩
    · obtain rfl : k = N.arcs.length := by omega
      clear hall hwr
      go_wp2_with fail
      go_ret
      exact says (okN_yes E0.out E1.out HL.out).symm HW.out
theorem implValidNet_any (v : Value) (N : Nt) (w : World) (hv : NV w v N) (oN : OKN N) :
    Calls Try.prog 18 #[v] w (Says (okN N) w) := by
  have hn := oN.size
  obtain ⟨s1, rfl, g1⟩ := hv
  by_cases h1 : 2 ≤ N.nodes ∧ N.nodes ≤ 16
  · by_cases h2 : N.arcs.length ≤ 48
    · exact implValidNet_arcs s1 N w g1 h1.1 h1.2 h2
    · have E0 := Lib.hid (show (decide (2 ≤ N.nodes) && decide (N.nodes ≤ 16)) = true by simp; omega)
      have H2 := Lib.hid (okN_no2 (N := N) (by simp; omega))
      have HB := Lib.hid (below_alloc w)
      obtain ⟨ao, cap, rfl⟩ := g1.long
      have hgt : decide ((N.arcs.length : Int) > 48) = true := by simp; omega
      clear g1 h1
      go_enter Try.func18, Try.ntmps18
      go_wp2_with (go_at_call 53; refine (isFrom_is true N.nodes 2 16 _ E0.out).mono ?_; rintro e w' ⟨rfl, m, rfl⟩)
      go_ret
      exact says H2.out.symm (below_drewN (HB.out _) _)
  · have E0 := Lib.hid (show (decide (2 ≤ N.nodes) && decide (N.nodes ≤ 16)) = false by simp; omega)
    have H2 := Lib.hid (okN_no1 E0.out)
    have HB := Lib.hid (below_alloc w)
    clear g1 h1
    go_enter Try.func18, Try.ntmps18
    go_wp2_with (go_at_call 53; refine (isFrom_is false N.nodes 2 16 _ E0.out).mono ?_; rintro e w' ⟨rfl, m, rfl⟩)
    go_ret
    exact says H2.out.symm (below_drewN (HB.out _) _)
end Go.Proofs.Ytkpdjbpfnepgaaa
