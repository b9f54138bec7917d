/- The least model of a form of Horn: the program's side. -/
import Derived.Test.YtleaaigjnniglaaHoI
namespace Go.Proofs.Ytleaaigjnniglaa
open Go.RowKit Go.ChangeShapes Go.WideShapes

set_option maxRecDepth 100000 in
set_option maxHeartbeats 4000000 in
theorem implHornModel_any (v : Value) (F : Fm) (w : World) (hv : FmV w v F) (o : OKFm F) :
    Calls Try.prog 42 #[v] w (SaysBB (hoL F) (hoB F) w) := by
  have hv0 := hv
  obtain ⟨s1, rfl, g1⟩ := hv
  have HV := Lib.hid (fun wx (hb : Below w.heap.size w wx) => hv0.below hb (Nat.le_refl _))
  have hb0 := Lib.hid (fun o => below_alloc w o)
  obtain ⟨ao, cap, rfl⟩ := g1.long
  clear hv0 g1
  cases h1 : formB F with
  | false =>
    have HN := Lib.hid (ho_no1 h1)
    have H1 := Lib.hid h1
    clear h1
    go_enter Try.func42, Try.ntmps42
    go_wp2_with fail
    go_at_call 22; refine (implForm_any _ F _ (HV.out _ (hb0.out _)) o).mono ?_; rintro e w1 ⟨rfl, b1⟩
    rw [H1.out]
    have HB := Lib.hid ((hb0.out _).trans (b1.mono (hb0.out _).size))
    clear b1
    go_wp2_with fail
    go_ret2
    exact saysBB HN.out.1.symm HN.out.2.symm bi_nil HB.out
  | true =>
    have FO := Lib.hid (formB_ok h1)
    cases h2 : hornB F with
    | false =>
      have HN := Lib.hid (ho_no2 h2)
      have H1 := Lib.hid h1
      have H2 := Lib.hid h2
      clear h1 h2
      go_enter Try.func42, Try.ntmps42
      go_wp2_with fail
      go_at_call 22; refine (implForm_any _ F _ (HV.out _ (hb0.out _)) o).mono ?_; rintro e w1 ⟨rfl, b1⟩
      rw [H1.out]
      have HB := Lib.hid ((hb0.out _).trans (b1.mono (hb0.out _).size))
      obtain ⟨c0, c1⟩ := (Box2.mk' w (.int .i64 F.letters) (.slice ao F.cs.length cap) 31).keep b1 (by simp)
      clear b1
      go_wp2_with fail
      go_at_call 77; refine (isHorn_any _ F _ (HV.out _ HB.out) o FO.out).mono ?_; rintro e w2 ⟨rfl, b2⟩
      rw [H2.out]
      have HB2 := Lib.hid (HB.out.trans (b2.mono HB.out.size))
      clear b2 c0 c1
      go_wp2_with fail
      go_ret2
      exact saysBB HN.out.1.symm HN.out.2.symm bi_nil HB2.out
    | true =>
      obtain ⟨L, hL⟩ : ∃ L, L = F.letters.toNat := ⟨_, rfl⟩
      have hm0 := modsF_yes h1
      have hh0 := (formB_ok h1).num
      rw [← hL] at hm0 hh0
      have HM := Lib.hid hm0
      have HH := Lib.hid hh0
      have H1 := Lib.hid h1
      have H2 := Lib.hid h2
      have hp2 := hh0.p2
      have hL2 := hh0.L2
      have HNN := Lib.hid hh0.n
      have HLE := Lib.hid hL
      have HY : Hid (firstB F = true → hoL F = valsB L (andL L (modsF F) (modsF F).length) ∧ hoB F = true) := Lib.hid fun h3 => by
        have := ho_yes h1 h2 h3
        rw [hm0, andL_modK, hL]
        exact this
      have HX := Lib.hid (fun h3 => @ho_no3 F h3)
      clear h1 h2 hm0 hh0 hL
      go_enter Try.func42, Try.ntmps42
      go_wp2_with fail
      go_at_call 22; refine (implForm_any _ F _ (HV.out _ (hb0.out _)) o).mono ?_; rintro e w1 ⟨rfl, b1⟩
      rw [H1.out]
      have HB := Lib.hid ((hb0.out _).trans (b1.mono (hb0.out _).size))
      have HBX := Lib.hid ((Box2.mk' w (.int .i64 F.letters) (.slice ao F.cs.length cap) 31).keep b1 (by simp))
      obtain ⟨c0, c1⟩ := HBX.out
      clear b1
      go_wp2_with fail
      go_at_call 77; refine (isHorn_any _ F _ (HV.out _ HB.out) o FO.out).mono ?_; rintro e w2 ⟨rfl, b2⟩
      rw [H2.out]
      have HB2 := Lib.hid (HB.out.trans (b2.mono HB.out.size))
      have HBX2 := Lib.hid (HBX.out.keep b2 HBX.out.lt)
      clear b2 c0 c1 HB HBX
      obtain ⟨c0, c1⟩ := HBX2.out
      go_wp2_with fail
      go_at_call 69; refine (modelsOf_any _ F L _ (HV.out _ HB2.out) o HH.out).mono ?_; rintro e w3 ⟨v3, rfl, hi3, b3⟩
      rw [← HM.out] at hi3
      have HB3 := Lib.hid (HB2.out.trans (b3.mono HB2.out.size))
      have HBX3 := Lib.hid (HBX2.out.keep b3 HBX2.out.lt)
      have hin : ∀ x, x ∈ modsF F → ∃ m : Nat, m < 1024 ∧ x = (m : Int) := fun x hx => by
        rw [HM.out] at hx
        obtain ⟨m, h1, h2⟩ := modK_in hx
        exact ⟨m, by omega, h2⟩
      have hlen : (modsF F).length ≤ 1024 := by rw [HM.out]; exact Nat.le_trans (modK_le L F.cs _) hp2
      have HF1 := Lib.hid (@first_nil F)
      have HF2 := Lib.hid (fun x t => @first_cons F x t)
      clear b3 c0 c1 HB2 HBX2
      generalize modsF F = Z at hi3 hin hlen HF1 HF2 HY
      have hIL := II.il hi3
      clear hi3
      obtain ⟨c0, c1⟩ := HBX3.out
      rw [HNN.out] at c0
      rcases hIL with ⟨hz, ax, cx, rfl⟩ | ⟨b, off, cap2, rfl, hpos, hbl, hcell⟩
      · have HN := Lib.hid (HX.out (HF1.out hz).2)
        clear hin hlen hz
        go_wp2_with fail
        go_at_call 78; refine (setOfAll_at (L : Int) L _ rfl hL2).mono ?_; rintro e w' ⟨rfl, rfl⟩
        go_wp2_with fail
        refine wp_loop_rounds 1 ?_
        rw [rounds_succ]
        go_wp2
        go_ret2
        exact saysBB HN.out.1.symm HN.out.2.symm bi_nil HB3.out
      · have HN : Hid (hoL F = valsB L (andL L Z Z.length) ∧ hoB F = true) := Lib.hid (HY.out (by
          cases Z with
          | nil => simp at hpos
          | cons x t => exact (HF2.out x t rfl).2))
        have HC := Lib.hid hcell
        have HIN := Lib.hid hin
        have HC0 := Lib.hid c0
        have HAL := Lib.hid (andL_lt L Z)
        have HA0 : Hid (andL L Z 0 = 2 ^ L - 1) := Lib.hid rfl
        have HAS : Hid (∀ j, andL L Z (j + 1) = andL L Z j &&& (Z.getD j 0).toNat) := Lib.hid fun j => rfl
        clear hin hcell
        go_wp2_with fail
        go_at_call 78; refine (setOfAll_at (L : Int) L _ rfl hL2).mono ?_; rintro e w' ⟨rfl, rfl⟩
        rw [← HA0.out]
        go_wp2_with fail
        go_loopg [5, 23] Z.length (fun gk s i wr => ∃ k : Nat, k ≤ Z.length ∧ gk + k = Z.length ∧ i = .int .i64 k ∧ s = .int .i64 (andL L Z k : Nat) ∧ w3 = wr)
        case atStart => exact ⟨0, Nat.zero_le _, by omega, rfl, rfl, rfl⟩
        case round =>
          obtain ⟨k, hk, hgk, rfl, rfl, rfl⟩ := hrel
          have hal := HAL.out k
          have hal2 : andL L Z k < 1024 := by omega
          by_cases hlt : k < Z.length
          · have d0 := HC.out k hlt
            obtain ⟨m, hm, hx⟩ := HIN.out (Z.getD k 0) (by rw [getDI hlt]; exact List.getElem_mem hlt)
            have hs := HAS.out k
            rw [hx] at d0
            rw [hx, Int.toNat_natCast] at hs
            have hand := i64_and62 (andL L Z k) m (by omega) (by omega)
            rw [← hs] at hand
            have HS := Lib.hid hs
            generalize andL L Z k = q at hand hal hal2
            generalize hq2 : andL L Z (k + 1) = q2 at hand
            have HQ2 := Lib.hid hq2
            clear hq2
            clear hx hs
            go_wp2_with fail
            go_roundg (gk - 1)
            case measure => omega
            case rel => exact ⟨k + 1, by omega, by omega, by go_num, by rw [HQ2.out], rfl⟩
          · obtain rfl : k = Z.length := by omega
            have hne : ((Z.length : Int) == 0) = false := beq_false_of_ne (by omega)
            generalize hq : andL L Z Z.length = q at hal hal2
            have HQ := Lib.hid hq
            clear hq
            go_wp2_with fail
            go_at_call 70; refine (valuesAt_any L q _ hL2 hal2).mono ?_; rintro e w4 ⟨v4, rfl, hi4, b4⟩
            have H4 := Lib.hid (HB3.out.trans (b4.mono HB3.out.size))
            have HI4 := Lib.hid (SI.wide hi4 HB3.out.size (Nat.le_refl _) (Nat.le_refl _))
            clear b4 hi4
            go_wp2_with fail
            go_ret2
            exact saysBB (by rw [HN.out.1, HQ.out]) HN.out.2.symm HI4.out H4.out
end Go.Proofs.Ytleaaigjnniglaa
