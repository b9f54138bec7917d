/- Tables are valid: both sides, of tables by value. -/
import Derived.Test.YtdacbkkanhelfaaVt3
namespace Go.Proofs.Ytdacbkkanhelfaa
open Go.RowKit Go.ChangeShapes Go.WideShapes

theorem l02Table_any (g : Nat) (s1 s2 : Value) (T : Tb) (w : World) (h : TP w g s1 s2 T) (oT : OKT T) :
    Calls Try.prog 70 #[.pointer (some ⟨g, 0, none⟩)] w (Tells (okT T) w) := by
  have hdef : okT T = ((decide (1 ≤ T.vars) && decide (T.vars ≤ 8)) && ((decide (1 ≤ (T.S.length : Int)) && decide ((T.S.length : Int) ≤ 8)) && (decide ((T.N.length : Int) = ((T.S.length : Nat) + 1) * T.wide) && (finAll T.N && basB T)))) := rfl
  cases h0 : (decide (1 ≤ T.vars) && decide (T.vars ≤ 8)) with
  | false => rw [hdef, h0]; exact l02Table_no _ _ _ g s1 s2 T w h oT h0 rfl rfl rfl
  | true =>
  cases h1 : (decide (1 ≤ (T.S.length : Int)) && decide ((T.S.length : Int) ≤ 8)) with
  | false => rw [hdef, h0, h1]; exact l02Table_no _ _ _ g s1 s2 T w h oT h0 h1 rfl rfl
  | true =>
  cases h2 : decide ((T.N.length : Int) = ((T.S.length : Nat) + 1) * T.wide) with
  | false => rw [hdef, h0, h1, h2]; exact l02Table_no _ _ _ g s1 s2 T w h oT h0 h1 h2 rfl
  | true =>
  cases h3 : finAll T.N with
  | false => rw [hdef, h0, h1, h2, h3]; exact l02Table_no _ _ _ g s1 s2 T w h oT h0 h1 h2 (by rw [h3]; rfl)
  | true => rw [hdef, h0, h1, h2, h3]; exact l02Table_loop g s1 s2 T w h oT h0 h1 h2 h3
theorem l02Table_is (t : Bool) (g : Nat) (s1 s2 : Value) (T : Tb) (w : World) (h : TP w g s1 s2 T) (oT : OKT T) (ht : okT T = t) :
    Calls Try.prog 70 #[.pointer (some ⟨g, 0, none⟩)] w (Tells t w) := by
  subst ht; exact l02Table_any g s1 s2 T w h oT
theorem TP.box (w : World) {s1 s2 : Value} {T : Tb} (g1 : SL w s1 T.N) (g2 : IL w s2 T.S) : TP (w.alloc (.cells #[.int .i64 T.vars, s1, s2] 51)) w.heap.size s1 s2 T :=
  ⟨World.cell?_alloc_new _ _ _ _, World.cell?_alloc_new _ _ _ _, World.cell?_alloc_new _ _ _ _, g1.below (below_alloc _ _) (Nat.le_refl _), g2.below (below_alloc _ _) (Nat.le_refl _)⟩
theorem specValidTable_any (v : Value) (T : Tb) (w : World) (hv : TV w v T) (oT : OKT T) :
    Calls Try.prog 35 #[v] w (Says (okT T) w) := by
  have HB := Lib.hid (below_alloc w)
  obtain ⟨s1, s2, rfl, g1, g2⟩ := hv
  have HP := Lib.hid (TP.box w g1 g2)
  clear g1 g2
  go_enter Try.func35, Try.ntmps35
  go_wp2_with fail
  go_at_call 70; refine (l02Table_any _ s1 s2 T _ HP.out oT).mono ?_; rintro e w' ⟨rfl, n1, rfl⟩
  go_wp2_with fail
  go_ret
  exact says rfl (below_drewN (HB.out _) _)

/-- What holds at each round of the program's loop over the columns. -/
structure VtAt (T : Tb) (w : World) (b off cap : Nat) (s1 : Value) (wr : World) : Prop where
  below : Below w.heap.size w wr
  box : Box3 wr w.heap.size (.int .i64 T.vars) s1 (.slice (some ⟨b, off, none⟩) T.S.length (T.S.length + cap))
set_option maxHeartbeats 4000000 in
theorem implValidTable_in (v : Value) (T : Tb) (w : World) (hv : TV w v T) (oT : OKT T) (v1 : 1 ≤ T.vars) (v2 : T.vars ≤ 8) (l1 : 1 ≤ T.S.length) (l2 : T.S.length ≤ 8) :
    Calls Try.prog 37 #[v] w (Says (basB T && finN (((T.S.length : Nat) + 1) * T.wide) T.N) w) := by
  have HB := Lib.hid (below_alloc w)
  have HV := Lib.hid hv
  have n1 := oT.n1
  have n2 := oT.n2
  obtain ⟨s1, s2, rfl, g1, g2⟩ := hv
  have G1 := Lib.hid g1
  have G2 := Lib.hid g2
  rcases g2 with ⟨hz, _⟩ | ⟨b, off, cap, rfl, hpos, hbl, hcell⟩
  · rw [hz] at l1; exact absurd l1 (by simp)
  have X0 := Lib.hid (Box3.mk' w (.int .i64 T.vars) s1 (.slice (some ⟨b, off, none⟩) T.S.length (T.S.length + cap)) 51)
  have HC := Lib.hid hcell
  clear g1 hcell oT
  have t1 : decide (T.vars < 1) = false := by simp; omega
  have t2 : decide (8 < T.vars) = false := by simp; omega
  have t3 : decide ((T.S.length : Int) < 1) = false := by simp; omega
  have t4 : decide ((8 : Int) < (T.S.length : Int)) = false := by simp; omega
  have hx : 0 ≤ T.wide ∧ T.wide ≤ 17 := by unfold Tb.wide; omega
  have hw1 : IntKind.i64.wrap ((T.S.length : Int) + 1) = (T.S.length : Int) + 1 := IntWalk.i64_in _ (by omega)
  have hw2 : IntKind.i64.wrap (((T.S.length : Int) + 1) * T.wide) = ((T.S.length : Int) + 1) * T.wide := by
    refine IntWalk.i64_in _ ?_
    have : 0 ≤ ((T.S.length : Int) + 1) * T.wide := Int.mul_nonneg (by omega) hx.1
    have : ((T.S.length : Int) + 1) * T.wide ≤ 9 * 17 := Int.mul_le_mul (by omega) hx.2 hx.1 (by omega)
    omega
  clear hx
  go_enter Try.func37, Try.ntmps37
  go_wp2_with fail
  go_loopg [28] T.S.length (fun gk i wr => ∃ k : Nat, k ≤ T.S.length ∧ gk + k = T.S.length ∧ i = .int .i64 k ∧ (∀ j, j < k → (colB T j && newB T j) = true) ∧ VtAt T w b off cap s1 wr)
  case atStart => exact ⟨0, Nat.zero_le _, by omega, rfl, fun j hj => by omega, ⟨HB.out _, X0.out⟩⟩
  case round =>
    obtain ⟨k, hk, hgk, rfl, hall, hat⟩ := hrel
    have HA := Lib.hid hall
    have HR := Lib.hid hat.below
    have XR := Lib.hid hat.box
    clear hall hat
    by_cases hlt : k < T.S.length
    · have hkc : k ≤ T.S.length + cap := by omega
      have y1 : wr.cell? ⟨b, off + k, none⟩ = some (.int .i64 (T.S.getD k 0)) := by rw [HR.out.cell (p := ⟨b, off + k, none⟩) hbl]; exact HC.out k hlt
      have HN := Lib.hid (has_new (T := T) (i := k) (by omega))
      cases hc : colB T k with
      | false =>
        have HCC := Lib.hid hc
        have HC2 : Hid ((decide (0 ≤ T.S.getD k 0) && decide (T.S.getD k 0 ≤ T.wide - 2)) = false) := Lib.hid hc
        clear hc
        generalize T.S.getD k 0 = y at y1 HC2
        obtain ⟨c0, c1, c2⟩ := XR.out
        go_wp2_with fail
        go_at_call 72; refine (isColumn_any _ T y _ (HV.out.below HR.out (Nat.le_refl _)) v1 v2 n2 _ HC2.out).mono ?_; rintro e w1 ⟨rfl, bb⟩
        have H1 := Lib.hid (HR.out.trans (bb.mono HR.out.size))
        clear bb c0 c1 c2
        go_wp2_with fail
        go_ret
        exact says (by rw [basB_no hlt (by rw [HCC.out]; rfl)]; rfl) H1.out
      | true =>
        have HCC := Lib.hid hc
        have HC2 : Hid ((decide (0 ≤ T.S.getD k 0) && decide (T.S.getD k 0 ≤ T.wide - 2)) = true) := Lib.hid hc
        clear hc
        cases hn : newB T k with
        | false =>
          have HNN := Lib.hid hn
          have HH : Hid (hasI (T.S.take k) (T.S.getD k 0) = true) := Lib.hid (by rw [HN.out, hn]; rfl)
          clear hn
          generalize T.S.getD k 0 = y at y1 HC2 HH
          obtain ⟨c0, c1, c2⟩ := XR.out
          go_wp2_with fail
          go_at_call 72; refine (isColumn_any _ T y _ (HV.out.below HR.out (Nat.le_refl _)) v1 v2 n2 _ HC2.out).mono ?_; rintro e w1 ⟨rfl, bb⟩
          have H1 := Lib.hid (HR.out.trans (bb.mono HR.out.size))
          have X1 := Lib.hid (XR.out.keep bb XR.out.lt)
          have T1 := Lib.hid (take_il (k := k) (cap := cap) (by omega) (Nat.lt_of_lt_of_le hbl H1.out.size) (fun i hi => by rw [H1.out.cell (p := ⟨b, off + i, none⟩) hbl]; exact HC.out i hi))
          clear bb c0 c1 c2 y1
          obtain ⟨c0, c1, c2⟩ := X1.out
          go_wp2_with fail
          go_at_call 73; refine (contains_any _ _ y _ T1.out (by rw [List.length_take]; omega) _ HH.out).mono ?_; rintro e w2 ⟨rfl, bb⟩
          have H2 := Lib.hid (H1.out.trans (bb.mono H1.out.size))
          clear bb c0 c1 c2
          go_wp2_with fail
          go_ret
          exact says (by rw [basB_no hlt (by rw [HCC.out, HNN.out]; rfl)]; rfl) H2.out
        | true =>
          have HNN := Lib.hid hn
          have HH : Hid (hasI (T.S.take k) (T.S.getD k 0) = false) := Lib.hid (by rw [HN.out, hn]; rfl)
          clear hn
          generalize T.S.getD k 0 = y at y1 HC2 HH
          obtain ⟨c0, c1, c2⟩ := XR.out
          go_wp2_with fail
          go_at_call 72; refine (isColumn_any _ T y _ (HV.out.below HR.out (Nat.le_refl _)) v1 v2 n2 _ HC2.out).mono ?_; rintro e w1 ⟨rfl, bb⟩
          have H1 := Lib.hid (HR.out.trans (bb.mono HR.out.size))
          have X1 := Lib.hid (XR.out.keep bb XR.out.lt)
          have T1 := Lib.hid (take_il (k := k) (cap := cap) (by omega) (Nat.lt_of_lt_of_le hbl H1.out.size) (fun i hi => by rw [H1.out.cell (p := ⟨b, off + i, none⟩) hbl]; exact HC.out i hi))
          clear bb c0 c1 c2 y1
          obtain ⟨c0, c1, c2⟩ := X1.out
          go_wp2_with fail
          go_at_call 73; refine (contains_any _ _ y _ T1.out (by rw [List.length_take]; omega) _ HH.out).mono ?_; rintro e w2 ⟨rfl, bb⟩
          have H2 := Lib.hid (H1.out.trans (bb.mono H1.out.size))
          have X2 := Lib.hid (X1.out.keep bb X1.out.lt)
          clear bb c0 c1 c2
          go_wp2_with fail
          go_roundg (gk - 1)
          case measure => omega
          case rel =>
            exact ⟨k + 1, by omega, by omega, by go_num, fun q hq => by
              by_cases e : q = k
              · subst e; rw [HCC.out, HNN.out]; rfl
              · exact HA.out q (by omega), ⟨H2.out, X2.out⟩⟩
    · obtain rfl : k = T.S.length := by omega
      have HBAS := Lib.hid (basB_yes HA.out)
      obtain ⟨c0, c1, c2⟩ := XR.out
      go_wp2_with fail
      go_region_with (first
        | (go_at_call 74; refine (widthOf_any _ T _ (HV.out.below (show Below w.heap.size w wr.drew from below_drewN HR.out 1) (Nat.le_refl _)) v1 v2 n2).mono ?_; rintro e w1 ⟨rfl, bb⟩; have bz := (below_drewN (Below.refl wr.heap.size wr) 1).trans bb; have H1 := Lib.hid (HR.out.trans (bz.mono HR.out.size)); have X1 := Lib.hid (XR.out.keep bz XR.out.lt); clear bb bz; obtain ⟨d0, d1, d2⟩ := X1.out)
        | (go_at_call 55; refine (areFinite_any _ _ T.N _ (G1.out.below H1.out (Nat.le_refl _)) n1).mono ?_; rintro e w2 ⟨rfl, n, rfl⟩))
      all_goals
        go_wp2_with fail
        go_ret
        exact says (by rw [HBAS.out]; rfl) (below_drewN H1.out _)
theorem implValidTable_any (v : Value) (T : Tb) (w : World) (hv : TV w v T) (oT : OKT T) :
    Calls Try.prog 37 #[v] w (Says (okT T) w) := by
  by_cases v1 : 1 ≤ T.vars
  · by_cases v2 : T.vars ≤ 8
    · by_cases r1 : 1 ≤ T.S.length
      · by_cases r2 : T.S.length ≤ 8
        · have e : okT T = (basB T && finN (((T.S.length : Nat) + 1) * T.wide) T.N) := by
            unfold okT finN
            rw [decide_eq_true v1, decide_eq_true v2, decide_eq_true (by omega : 1 ≤ (T.S.length : Int)), decide_eq_true (by omega : (T.S.length : Int) ≤ 8)]
            cases basB T <;> cases finAll T.N <;> simp
          rw [e]
          exact implValidTable_in v T w hv oT v1 v2 r1 r2
        · have NO : okT T = false := by unfold okT; rw [decide_eq_false (by omega : ¬ (T.S.length : Int) ≤ 8)]; simp
          rw [NO]
          have n2 := oT.n2
          obtain ⟨s1, s2, rfl, g1, g2⟩ := hv
          obtain ⟨ao2, cap2, rfl⟩ := g2.long
          clear g1 g2 NO oT
          have t1 : decide (T.vars < 1) = false := by simp; omega
          have t2 : decide (8 < T.vars) = false := by simp; omega
          have t3 : decide ((T.S.length : Int) < 1) = false := by simp; omega
          have t4 : decide ((8 : Int) < (T.S.length : Int)) = true := by simp; omega
          clear r1 r2
          go_enter Try.func37, Try.ntmps37
          go_wp2
          go_ret
          exact says rfl (below_alloc _ _)
      · have NO : okT T = false := by unfold okT; rw [decide_eq_false (by omega : ¬ 1 ≤ (T.S.length : Int))]; simp
        rw [NO]
        have n2 := oT.n2
        obtain ⟨s1, s2, rfl, g1, g2⟩ := hv
        obtain ⟨ao2, cap2, rfl⟩ := g2.long
        clear g1 g2 NO oT
        have t1 : decide (T.vars < 1) = false := by simp; omega
        have t2 : decide (8 < T.vars) = false := by simp; omega
        have t3 : decide ((T.S.length : Int) < 1) = true := by simp; omega
        clear r1
        go_enter Try.func37, Try.ntmps37
        go_wp2
        go_ret
        exact says rfl (below_alloc _ _)
    · have NO : okT T = false := by unfold okT; rw [decide_eq_false v2]; simp
      rw [NO]
      obtain ⟨s1, s2, rfl, g1, g2⟩ := hv
      obtain ⟨ao2, cap2, rfl⟩ := g2.long
      clear g1 g2 NO oT
      have t1 : decide (T.vars < 1) = false := by simp; omega
      have t2 : decide (8 < T.vars) = true := by simp; omega
      clear v2
      go_enter Try.func37, Try.ntmps37
      go_wp2
      go_ret
      exact says rfl (below_alloc _ _)
  · have NO : okT T = false := by unfold okT; rw [decide_eq_false v1]; simp
    rw [NO]
    obtain ⟨s1, s2, rfl, g1, g2⟩ := hv
    obtain ⟨ao2, cap2, rfl⟩ := g2.long
    clear g1 g2 NO oT
    have t1 : decide (T.vars < 1) = true := by simp; omega
    clear v1
    go_enter Try.func37, Try.ntmps37
    go_wp2
    go_ret
    exact says rfl (below_alloc _ _)
end Go.Proofs.Ytdacbkkanhelfaa
