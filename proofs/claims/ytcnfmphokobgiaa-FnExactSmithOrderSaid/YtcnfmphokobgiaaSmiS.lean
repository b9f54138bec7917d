/- Orders by weights: the model. -/
import Derived.Test.YtcnfmphokobgiaaJbS
import Derived.Test.YtcnfmphokobgiaaSmiI
import Derived.Test.YtcnfmphokobgiaaTwo
namespace Go.Proofs.Ytcnfmphokobgiaa
open Go.RowKit Go.ChangeShapes Go.WideShapes

theorem allF_upS (f : Nat → Int) (n : Nat) : allF f (n + 1) = allF f n ++ [f n] := by unfold allF; rw [List.range_succ, List.map_append]; rfl
theorem ordQ_allF (f g : Nat → Int) (n : Nat) : ordN (ltQ (fun i => (allF f n).getD i 0) (fun i => (allF g n).getD i 0)) n = ordN (ltQ f g) n :=
  ordN_congr fun x y hx hy => by
    show decide ((allF g n).getD y 0 * (allF f n).getD x 0 < (allF g n).getD x 0 * (allF f n).getD y 0) = decide (g y * f x < g x * f y)
    rw [allF_at hx, allF_at hy, allF_at hx, allF_at hy]
theorem allF_in {f : Nat → Int} {n : Nat} (h : ∀ i, i < n → 0 ≤ f i ∧ f i ≤ 1000) (i : Nat) : 0 ≤ (allF f n).getD i 0 ∧ (allF f n).getD i 0 ≤ 1000 := by
  by_cases hi : i < n
  · rw [allF_at hi]; exact h i hi
  · rw [List.getD, List.getElem?_eq_none (by rw [allF_len]; omega)]; simp
theorem intsN_take {Y : List Nat} {k : Nat} (h : k < Y.length) : intsN (Y.take (k + 1)) = intsN (Y.take k) ++ [((Y.getD k 0 : Nat) : Int)] := by
  unfold intsN
  rw [List.take_succ_eq_append_getElem h, List.map_append]
  simp [List.getD, h]
set_option maxRecDepth 100000 in
set_option maxHeartbeats 4000000 in
theorem specSmith_yes (v : Value) (Z : List Ac) (w : World) (hv : AV w v Z) (hn : Z.length ≤ 1048576) (h : jobsB Z = true) :
    Calls Try.prog 22 #[v] w (SaysJB (smiL Z) true w) := by
  obtain ⟨i0, hi, hz0, hz1, hz2⟩ := info_parts Try.infoI
  have HV := Lib.hid hv
  have H := Lib.hid h
  have HE := Lib.hid (smiL_yes h)
  have J := Lib.hid (jobsB_ok h)
  have n1 := J.out.n1
  have n2 := J.out.n2
  have HQ := Lib.hid (ordQ_allF (lonK Z) (wgtK Z) Z.length)
  have HL0 := Lib.hid (allF_in (f := lonK Z) (n := Z.length) fun i hi => ⟨by have := (J.out.ok i hi).f1; unfold lonK; omega, (J.out.ok i hi).f2⟩)
  have HW0 := Lib.hid (allF_in (f := wgtK Z) (n := Z.length) fun i hi => ⟨(J.out.ok i hi).r1, (J.out.ok i hi).r2⟩)
  have HAL := Lib.hid (fun (f : Nat → Int) (k : Nat) => allF_len f k)
  rcases hv with ⟨hz, -⟩ | ⟨b, off, cap, rfl, hpos, hbl, hcell⟩
  · rw [hz] at n1; simp at n1
  have HC := Lib.hid hcell
  clear hcell h
  go_enter Try.func22, Try.ntmps22
  go_wp2_with fail
  go_at_call 49; refine (l06Are_is true _ Z _ HV.out hn H.out).mono ?_; rintro e w1 ⟨rfl, m, rfl⟩
  obtain ⟨w1, hw1⟩ : ∃ x, x = w.drewN m := ⟨_, rfl⟩
  rw [← hw1]
  have B1 : Hid (Below w.heap.size w w1) := Lib.hid (by rw [hw1]; exact below_drewN (Below.refl _ _) m)
  have ST := Lib.hid (TwoAt.start w1)
  have hbl1 : b < w1.heap.size := Nat.lt_of_lt_of_le hbl B1.out.size
  clear hw1
  go_wp2_with fail
  go_loopg [4, 5, 6] Z.length (fun gk s1 s2 i wr => ∃ k : Nat, k ≤ Z.length ∧ gk + k = Z.length ∧ i = .int .i64 k ∧ TwoAt w1 s1 s2 (allF (lonK Z) k) (allF (wgtK Z) k) wr)
  case atStart => exact ⟨0, Nat.zero_le _, by omega, rfl, ST.out⟩
  case round =>
    clear ST
    obtain ⟨k, hk, hgk, rfl, hT⟩ := hrel
    have HT := Lib.hid hT
    have UL := Lib.hid (allF_upS (lonK Z) k)
    have UW := Lib.hid (allF_upS (wgtK Z) k)
    by_cases hlt : k < Z.length
    · have at1 := ((HC.out k hlt).keep B1.out hbl).keep hT.below hbl1
      have c0 : wr.cell? ⟨b, off + k * 4, none⟩ = some (.int .i64 (lonK Z k)) := at1.c0
      have c2 : wr.cell? ⟨b, off + k * 4 + 2, none⟩ = some (.int .i64 (wgtK Z k)) := at1.c2
      generalize lonK Z k = q at c0 UL
      generalize wgtK Z k = r at c2 UW
      clear hT at1
      go_wp2_with (at_builtin; refine wpList_append_own_at _ rfl _ _ 24 rfl w1.heap.size 2 i0 (.int .i64 0) 1 8 Try.underlying24 hi hz0 hz1 hz2 rfl (by decide) _ _ _ rfl (Grows.alloc HT.out.one _) ⟨wr.heap.size, 0, none⟩ 1 1 [.int .i64 q] rfl rfl ?c1 ?c2 ?c3 ?c4 ?c5 ?_)
      case c1 => exact one_new
      case c2 => intro u hu; simp at hu; subst hu; rfl
      case c3 => rw [HAL.out]; unfold maxLen; omega
      case c4 => rw [HAL.out]; omega
      case c5 => have := HT.out.below.size; simp; omega
      intro v' w' hown hgrow _ hat
      have T2 : Hid (TwoAt w1 v' u5 (allF (lonK Z) (k + 1)) (allF (wgtK Z) k) w') := Lib.hid (by rw [UL.out]; exact HT.out.more hown hgrow (by simpa using hat))
      have c3 : w'.cell? ⟨b, off + k * 4 + 2, none⟩ = some (.int .i64 r) := by
        rw [T2.out.below.cell (p := ⟨b, off + k * 4 + 2, none⟩) hbl1, ← HT.out.below.cell (p := ⟨b, off + k * 4 + 2, none⟩) hbl1]; exact c2
      clear hown hgrow hat c0 c2
      go_wp2_with (at_builtin; refine wpList_append_own_at _ rfl _ _ 24 rfl w1.heap.size 2 i0 (.int .i64 0) 1 8 Try.underlying24 hi hz0 hz1 hz2 rfl (by decide) _ _ _ rfl (Grows.alloc T2.out.two _) ⟨w'.heap.size, 0, none⟩ 1 1 [.int .i64 r] rfl rfl ?c1 ?c2 ?c3 ?c4 ?c5 ?_)
      case c1 => exact one_new
      case c2 => intro u hu; simp at hu; subst hu; rfl
      case c3 => rw [HAL.out]; unfold maxLen; omega
      case c4 => rw [HAL.out]; omega
      case c5 => have := T2.out.below.size; simp; omega
      intro v2 w2 hown hgrow _ hat
      have T3 : Hid (TwoAt w1 v' v2 (allF (lonK Z) (k + 1)) (allF (wgtK Z) (k + 1)) w2) := Lib.hid (by rw [UW.out]; exact (T2.out.swap.more hown hgrow (by simpa using hat)).swap)
      clear hown hgrow hat c3
      go_wp2_with fail
      go_roundg (gk - 1)
      case measure => omega
      case rel => exact ⟨k + 1, by omega, by omega, by go_num, T3.out⟩
    · obtain rfl : k = Z.length := by omega
      have I1 := Lib.hid (hT.one.si (d := (0 : Int))).vl
      have I2 := Lib.hid (hT.two.si (d := (0 : Int))).vl
      have l1 := (hT.one.si (d := (0 : Int))).len
      have l2 := (hT.two.si (d := (0 : Int))).len
      rw [HAL.out] at l1 l2
      obtain ⟨a1, k1, rfl⟩ := l1
      obtain ⟨a2, k2, rfl⟩ := l2
      clear hT
      go_wp2_with fail
      go_at_call 57; refine (l04Order_any _ _ (allF (lonK Z) Z.length) (allF (wgtK Z) Z.length) _ I1.out I2.out (by rw [HAL.out]; omega) (by rw [HAL.out, HAL.out]) HL0.out HW0.out).mono ?_; rintro e w2 ⟨v2, rfl, i2, b2⟩
      rw [HAL.out, HQ.out] at i2
      have B2 : Hid (Below w.heap.size w w2) := Lib.hid ((B1.out.trans (HT.out.below.mono B1.out.size)).trans (b2.mono (Nat.le_trans B1.out.size HT.out.below.size)))
      have V2 := Lib.hid i2.vl
      have l3 := i2.len
      rw [intsN_len, ordN_len] at l3
      obtain ⟨a3, k3, rfl⟩ := l3
      have HOL := Lib.hid (ordN_len (ltQ (lonK Z) (wgtK Z)) Z.length)
      generalize ordN (ltQ (lonK Z) (wgtK Z)) Z.length = Y at V2 HOL HE
      have HCO : Hid (∀ k, k < Z.length → ∃ b off, a3 = some ⟨b, off, none⟩ ∧ b < w2.heap.size ∧ w2.cell? ⟨b, off + k, none⟩ = some (.int .i64 ((Y.getD k 0 : Nat) : Int))) := Lib.hid fun k hk => by
        rcases V2.out with ⟨hz, _⟩ | ⟨b, off, cap2, e, hpos, hbl, hcell⟩
        · have := congrArg List.length hz
          rw [intsN_len, HOL.out] at this
          exact absurd this (by show ¬ Z.length = 0; omega)
        · injection e with e1 e2 e3
          exact ⟨b, off, e1, hbl, by rw [hcell k (by rw [intsN_len, HOL.out]; exact hk), intsN_at (by rw [HOL.out]; exact hk)]⟩
      have HE2 := Lib.hid (Grows.empty (Value.int .i64) 2 w2.heap.size w2 (Nat.le_refl _))
      have HB3 := Lib.hid (below_alloc w2 (.cells #[] 2))
      clear i2 b2 HT I1 I2
      go_wp2_with fail
      go_loopg [8, 9] Z.length (fun gk s i wr => ∃ k : Nat, k ≤ Z.length ∧ gk + k = Z.length ∧ i = .int .i64 k ∧ Below w2.heap.size w2 wr ∧ Grows (Value.int .i64) 2 w2.heap.size s (intsN (Y.take k)) wr)
      case atStart => exact ⟨0, Nat.zero_le _, by omega, rfl, HB3.out, HE2.out⟩
      case round =>
        clear HE2 HB3
        obtain ⟨k, hk, hgk, rfl, hB, hG⟩ := hrel
        have HB := Lib.hid hB
        have HG := Lib.hid hG
        have HUP := Lib.hid fun h => intsN_take (Y := Y) (k := k) h
        have HTL : Hid ((intsN (Y.take k)).length = k) := Lib.hid (by rw [intsN_len, List.length_take, HOL.out]; omega)
        clear hG
        by_cases hlt : k < Z.length
        · obtain ⟨b3, off3, hao, hbl3, hat3⟩ := HCO.out k hlt
          have c1 : wr.cell? ⟨b3, off3 + k, none⟩ = some (.int .i64 ((Y.getD k 0 : Nat) : Int)) := by rw [hB.cell (p := ⟨b3, off3 + k, none⟩) hbl3]; exact hat3
          have HU2 := Lib.hid (HUP.out (by rw [HOL.out]; exact hlt))
          generalize Y.getD k 0 = q at c1 HU2
          subst hao
          clear hB hat3
          go_wp2_with (at_builtin; refine wpList_append_own _ rfl _ _ 24 rfl w2.heap.size 2 i0 (.int .i64 0) 1 8 Try.underlying24 hi hz0 hz1 hz2 rfl (by decide) _ _ _ rfl (Grows.alloc HG.out _) ⟨wr.heap.size, 0, none⟩ 1 1 [.int .i64 (q : Int)] rfl rfl ?c1 ?c2 ?c3 ?c4 ?c5 ?_)
          case c1 => exact one_new
          case c2 => intro u hu; simp at hu; subst hu; rfl
          case c3 => rw [HTL.out]; unfold maxLen; omega
          case c4 => rw [HTL.out]; omega
          case c5 => have := HB.out.size; simp; omega
          intro v' w' hown hgrow _
          have HN2 : Hid (Below w2.heap.size w2 w' ∧ Grows (Value.int .i64) 2 w2.heap.size v' (intsN (Y.take (k + 1))) w') := Lib.hid ⟨(HB.out.alloc HB.out.size _).grown hgrow (by have := HB.out.size; simp; omega) (fun g hg => HG.out.block g hg), by rw [HU2.out]; exact Grows.more (news := [(q : Int)]) rfl hown⟩
          clear hown hgrow c1
          go_wp2_with fail
          go_roundg (gk - 1)
          case measure => omega
          case rel => exact ⟨k + 1, by omega, by omega, by go_num, HN2.out.1, HN2.out.2⟩
        · obtain rfl : k = Z.length := by omega
          have e : Y.take Z.length = Y := List.take_of_length_le (by rw [HOL.out]; exact Nat.le_refl _)
          have hs := HG.out.si (d := (0 : Int))
          rw [e, ← HE.out] at hs
          have I3 := Lib.hid (SI.wide hs (lo' := w.heap.size) B2.out.size (Nat.le_refl _) (Nat.le_refl _))
          have l4 := hs.len
          obtain ⟨a4, k4, rfl⟩ := l4
          clear hs e hB
          go_wp2_with fail
          go_ret2
          exact ⟨_, rfl, I3.out, B2.out.trans (HB.out.mono B2.out.size)⟩
theorem specSmithOrder_any (v : Value) (Z : List Ac) (w : World) (hv : AV w v Z) (o : OKA Z) : Calls Try.prog 22 #[v] w (SaysJB (smiL Z) (jobsB Z) w) := by
  have hn := o.size
  cases h : jobsB Z with
  | true => exact specSmith_yes v Z w hv hn h
  | false =>
    have HV := Lib.hid hv
    have HE := Lib.hid (smiL_no h)
    obtain ⟨ao, cap, rfl⟩ := hv.long
    have H := Lib.hid h
    clear hv h
    go_enter Try.func22, Try.ntmps22
    go_wp2_with fail
    go_at_call 49; refine (l06Are_is false _ Z _ HV.out hn H.out).mono ?_; rintro e w1 ⟨rfl, m1, rfl⟩
    go_wp2_with fail
    go_ret2
    exact ⟨_, rfl, by rw [HE.out]; exact SI.nil _ (Nat.le_refl _) _ _, below_drewN (Below.refl _ _) m1⟩
end Go.Proofs.Ytcnfmphokobgiaa
