/- The best halves: the model's side, whole. -/
import Derived.Test.YtolbkepbcoipcaaDoorHvS
import Derived.StillTailTactics
namespace Go.Proofs.YtolbkepbcoipcaaDoor
open Go.RowKit Go.ChangeShapes Go.WideShapes

theorem vint {a b : Int} (h : a = b) : Value.int .i64 a = Value.int .i64 b := by rw [h]
/-- The one that is found, at the i-th even set. -/
theorem half_yes {S : List Int} {a x y : Int} {i : Nat} (ha : 0 ≤ a) (hx : x = a - 2 * sumM S S.length (2 * i)) (hy : y = 2 * sumM S S.length (2 * i) - a) (h : y ≤ x) (hl : x < (hv S a (i - 1)).2) : hv S a i = (2 * i, x) := by
  have e : diffM S a (2 * i) = x := by unfold diffM; omega
  rw [← e] at hl ⊢
  exact hw_yes ha hl
theorem half_yes2 {S : List Int} {a x y : Int} {i : Nat} (ha : 0 ≤ a) (hx : x = a - 2 * sumM S S.length (2 * i)) (hy : y = 2 * sumM S S.length (2 * i) - a) (h : x ≤ y) (hl : y < (hv S a (i - 1)).2) : hv S a i = (2 * i, y) := by
  have e : diffM S a (2 * i) = y := by unfold diffM; omega
  rw [← e] at hl ⊢
  exact hw_yes ha hl
theorem half_no {S : List Int} {a x y : Int} {i : Nat} (hx : x = a - 2 * sumM S S.length (2 * i)) (hy : y = 2 * sumM S S.length (2 * i) - a) (h : y ≤ x) (hl : (hv S a (i - 1)).2 ≤ x) : hv S a i = hv S a (i - 1) := by
  have e : diffM S a (2 * i) = x := by unfold diffM; omega
  exact hw_no (by rw [e]; omega)
theorem half_no2 {S : List Int} {a x y : Int} {i : Nat} (hx : x = a - 2 * sumM S S.length (2 * i)) (hy : y = 2 * sumM S S.length (2 * i) - a) (h : x ≤ y) (hl : (hv S a (i - 1)).2 ≤ y) : hv S a i = hv S a (i - 1) := by
  have e : diffM S a (2 * i) = y := by unfold diffM; omega
  exact hw_no (by rw [e]; omega)
set_option maxRecDepth 100000 in
set_option maxHeartbeats 4000000 in
theorem specHalf_yes (v : Value) (S : List Int) (w : World) (hv0 : IL w v S) (hn : S.length ≤ 1048576) (h1 : sizesB S = true) (OK : SizesOk S) :
    Calls Tryd.prog 10 #[v] w (SaysJIB (memP S.length (hv S (allM S) (hvJ S)).1) (hv S (allM S) (hvJ S)).2 true w) := by
  have H1 := Lib.hid h1
  have HV := Lib.hid hv0
  have OKH := Lib.hid OK
  have l1 := OK.l1
  have l2 := OK.l2
  obtain ⟨a1, a2⟩ := allM_in OK
  obtain ⟨M, hM⟩ : ∃ M, 2 * M = 2 ^ S.length := ⟨2 ^ (S.length - 1), (pow_half l1).symm⟩
  have hM2 := (pow16 l2).2
  have hM1 : 1 ≤ M := by have := (pow16 l2).1; omega
  rw [← hM] at hM2
  have HJ := Lib.hid (hvJ_half l1 hM)
  have HM := Lib.hid hM
  obtain ⟨ao, cap, rfl⟩ := hv0.long
  clear h1 hv0 OK hM
  go_enter Tryd.func10, Tryd.ntmps10
  go_wp2_with fail
  go_at_call 22; refine (l04Sizes_is true _ S _ HV.out hn H1.out).mono ?_; rintro e w' ⟨rfl, m, rfl⟩
  go_wp2_with fail
  go_at_call 17; refine (l04Sums_any _ S _ (VL.drewN HV.out _) OKH.out).mono ?_; rintro e w2 ⟨v2, rfl, i2, b2⟩
  have B2 := Lib.hid ((below_drewN (Below.refl w.heap.size w) m).trans b2)
  have I2 := Lib.hid i2
  have hlen : (sumsL S).length = 2 * M := by unfold sumsL; rw [allF_len, HM.out]
  rcases i2.2 with ⟨hz, -⟩ | ⟨sb, so, sc, rfl, sp, -, -, -, scell⟩
  · rw [hz] at hlen; simp at hlen; omega
  have SC : Hid (∀ wx, Below w2.heap.size w2 wx → ∀ i, i < 2 * M → wx.cell? ⟨sb, so + i, none⟩ = some (.int .i64 (sumM S S.length i))) := Lib.hid fun wx hb i hi => by
    have hc := scell i (by rw [hlen]; exact hi)
    rw [keep_cell hc hb (cell_block hc)]
    unfold sumsL
    rw [allF_at (by rw [← HM.out]; exact hi)]
  rw [hlen]
  have x0 := SC.out w2 (Below.refl _ _) (2 * M - 1) (by omega)
  have ha : sumM S S.length (2 * M - 1) = allM S := by unfold allM; rw [HM.out]
  rw [ha] at x0
  generalize hA : allM S = a at x0 a1 a2
  have HA := Lib.hid hA
  obtain ⟨Q, hQ⟩ : ∃ Q, 2 * M = Q + 1 := ⟨2 * M - 1, by omega⟩
  have HQ := Lib.hid hQ
  rw [show 2 * M - 1 = Q by omega] at x0
  rw [hQ]
  have q1 : Q ≤ 65535 := by omega
  have q2 : (Q : Int) < (Q : Int) + 1 := by omega
  have q3 : (Q : Int) < ((Q + 1 : Nat) : Int) := by omega
  clear scell hlen ha hA i2 b2 hQ
  go_wp2_with fail
  go_loopg [7, 8, 9] M (fun gk s7 s8 s9 wr => ∃ i : Nat, i ≤ M ∧ gk + i = M ∧ s7 = .int .i64 ((hv S a (i - 1)).1 : Nat) ∧ s8 = .int .i64 (hv S a (i - 1)).2 ∧ s9 = .int .i64 (2 * (i : Int)) ∧ ∃ m, wr = w2.drewN m)
  case atStart => exact ⟨0, Nat.zero_le _, by omega, rfl, rfl, rfl, 0, rfl⟩
  case round =>
    obtain ⟨i, hi, hgi, rfl, rfl, rfl, hwr⟩ := hrel
    have HW := Lib.hid hwr
    have HBW : Hid (Below w2.heap.size w2 wr) := Lib.hid (by obtain ⟨m, rfl⟩ := hwr; exact below_drewN (Below.refl _ _) m)
    clear hwr
    by_cases hlt : i < M
    · have x1 := SC.out wr HBW.out (2 * i) (by omega)
      have hs := sumM_in OKH.out.a (2 * i) S.length (Nat.le_refl _)
      obtain ⟨x, hx⟩ : ∃ x, x = a - 2 * sumM S S.length (2 * i) := ⟨_, rfl⟩
      obtain ⟨y, hy⟩ : ∃ y, y = 2 * sumM S S.length (2 * i) - a := ⟨_, rfl⟩
      have Y1 := Lib.hid (half_yes (i := i) a1 hx hy)
      have Y2 := Lib.hid (half_yes2 (i := i) a1 hx hy)
      have N1 := Lib.hid (half_no (i := i) hx hy)
      have N2 := Lib.hid (half_no2 (i := i) hx hy)
      generalize sumM S S.length (2 * i) = s at x1 hs hx hy
      obtain ⟨s1, s2⟩ := hs
      have w1 : IntKind.i64.wrap (2 * s) = 2 * s := IntWalk.i64_in _ (by omega)
      have w2a : IntKind.i64.wrap (a - 2 * s) = x := by rw [← hx]; exact IntWalk.i64_in _ (by omega)
      have w2b : IntKind.i64.wrap (2 * s - a) = y := by rw [← hy]; exact IntWalk.i64_in _ (by omega)
      have k1 : 2 * (i : Int) < (Q : Int) + 1 := by have := HQ.out; omega
      have k2 : (0 : Int) ≤ 2 * (i : Int) := by omega
      have k3 : (2 * (i : Int)).toNat = 2 * i := by omega
      generalize hb1 : (hv S a (i - 1)).1 = b1
      generalize hb2 : (hv S a (i - 1)).2 = b2
      rw [hb2] at Y1 Y2 N1 N2
      have HB1 := Lib.hid hb1
      have HB2 := Lib.hid hb2
      clear hx hy hb1 hb2
      go_wp2_with fail
      refine wp_region_still_tail 15 (by kernel_rfl) (by kernel_rfl) ?_
      simp only [List.take_succ_cons, List.take_zero, List.drop_succ_cons, List.drop_zero]
      repeat still_step
      all_goals
        refine wpStill_nil ?_
        change wpList _ _ _ _ _ wr.drew
        go_wp2_with fail
      all_goals
        go_roundg (gk - 1)
        case measure => omega
        case rel =>
          first
          | exact ⟨i + 1, by omega, by omega, by rw [Nat.add_sub_cancel, Y1.out (by omega) (by omega)]; simp, by rw [Nat.add_sub_cancel, Y1.out (by omega) (by omega)], vint (by omega), drew_more HW.out 1⟩
          | exact ⟨i + 1, by omega, by omega, by rw [Nat.add_sub_cancel, Y2.out (by omega) (by omega)]; simp, by rw [Nat.add_sub_cancel, Y2.out (by omega) (by omega)], vint (by omega), drew_more HW.out 1⟩
          | exact ⟨i + 1, by omega, by omega, by rw [Nat.add_sub_cancel, N1.out (by omega) (by omega), HB1.out], by rw [Nat.add_sub_cancel, N1.out (by omega) (by omega), HB2.out], vint (by omega), drew_more HW.out 1⟩
          | exact ⟨i + 1, by omega, by omega, by rw [Nat.add_sub_cancel, N2.out (by omega) (by omega), HB1.out], by rw [Nat.add_sub_cancel, N2.out (by omega) (by omega), HB2.out], vint (by omega), drew_more HW.out 1⟩
    · obtain rfl : i = M := by omega
      have hle := hv_le S a (i - 1)
      have k1 : ¬ 2 * (i : Int) < (Q : Int) + 1 := by have := HQ.out; omega
      have HE : Hid (hv S (allM S) (hvJ S) = hv S a (i - 1)) := Lib.hid (by rw [HA.out, HJ.out])
      generalize hb1 : (hv S a (i - 1)).1 = b1 at hle
      generalize hb2 : (hv S a (i - 1)).2 = b2
      have HB1 := Lib.hid hb1
      have HB2 := Lib.hid hb2
      have hb3 : b1 < 65536 := by omega
      clear hb1 hb2 hle
      go_wp2_with fail
      go_at_call 23; refine (l04Set_any b1 S.length _ hb3 l2).mono ?_; rintro e w5 ⟨v5, rfl, i5, b5⟩
      have B5 := Lib.hid (B2.out.trans ((HBW.out.trans (b5.mono HBW.out.size)).mono B2.out.size))
      have I5 := Lib.hid (SI.wide i5 (lo' := w.heap.size) (hi' := w5.heap.size) (Nat.le_trans B2.out.size HBW.out.size) (Nat.le_refl _) (Nat.le_refl _))
      clear i5 b5
      go_wp2_with fail
      refine bodyPost_ret (v := .tuple #[v5, .int .i64 b2, .bool true]) (by simp [results, Tryd.results10, go_sem]) rfl ?_
      rw [HE.out, HB1.out, HB2.out]
      exact ⟨_, rfl, I5.out, B5.out⟩
set_option maxHeartbeats 1000000 in
theorem specBestHalves_any (v : Value) (S : List Int) (w : World) (hv0 : IL w v S) (o : OKI S) :
    Calls Tryd.prog 10 #[v] w (SaysJIB (halfL S) (halfI S) (sizesB S) w) := by
  have hn := o.size
  unfold halfL halfI
  cases h1 : sizesB S with
  | false =>
    have HV := Lib.hid hv0
    have H1 := Lib.hid h1
    obtain ⟨ao, cap, rfl⟩ := hv0.long
    clear h1 hv0
    go_enter Tryd.func10, Tryd.ntmps10
    go_wp2_with fail
    go_at_call 22; refine (l04Sizes_is false _ S _ HV.out hn H1.out).mono ?_; rintro e w' ⟨rfl, m, rfl⟩
    have HB := Lib.hid (below_drewN (Below.refl w.heap.size w) m)
    go_wp2_with fail
    refine bodyPost_ret (v := .tuple #[.slice none 0 0, .int .i64 0, .bool false]) (by simp [results, Tryd.results10, go_sem]) rfl ?_
    exact ⟨_, rfl, SI.nil _ (Nat.le_refl _) _ _, HB.out⟩
  | true => exact specHalf_yes v S w hv0 hn h1 (sizesB_ok h1)
end Go.Proofs.YtolbkepbcoipcaaDoor
