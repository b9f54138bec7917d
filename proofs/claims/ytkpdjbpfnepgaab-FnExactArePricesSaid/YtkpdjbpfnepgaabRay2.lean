/- Rays: both sides. -/
import Derived.Test.YtkpdjbpfnepgaabRay
namespace Go.Proofs.Ytkpdjbpfnepgaab
open Go.RowKit Go.ChangeShapes Go.WideShapes
attribute [local go_sem] run_negF

theorem implGain_is (t : Bool) (v : Value) (R : Rw) (u : Value) (X : List Nat) (w : World) (hv : RV w v R) (hu : SL w u X) (oR : OKR R) (oX : OKF X) (h : gainB R X = t) :
    Calls Try.prog 60 #[v, u] w (SaysFB (gainC R X) t w) := by
  subst h; exact implGainOf_any v R u X w hv hu oR oX
theorem ray_gain {R : Rw} {X : List Nat} {a : Nat} (h : gainB R X = false) : rayB R X a = false := by
  unfold gainB at h
  unfold rayB
  show (fitB R X && (leastB a && (noLess (negF a) X && (rayRows R X a && (finC (dotC R.G X R.G.length) && gtC (sumG R X) a))))) = false
  cases h1 : fitB R X with
  | false => rfl
  | true => rw [h1] at h; simp only [Bool.true_and] at h; rw [h]; simp
theorem ray_is {R : Rw} {X : List Nat} {a : Nat} (h : gainB R X = true) (h2 : leastB a = true) (h3 : noLess (negF a) X = true) : rayB R X a = (rayRows R X a && gtC (sumG R X) a) := by
  unfold gainB at h
  rw [Bool.and_eq_true] at h
  unfold rayB
  rw [h.1, h2, h3, show finC (sumG R X) = true from h.2]; simp
theorem ray_lst {R : Rw} {X : List Nat} {a : Nat} (h : leastB a = false) : rayB R X a = false := by unfold rayB; rw [h]; simp
theorem ray_less {R : Rw} {X : List Nat} {a : Nat} (h : noLess (negF a) X = false) : rayB R X a = false := by unfold rayB; rw [h]; simp
theorem isNear_t (x : Nat) (b : Bool) (w : World) (hb : leastB x = b) : Calls Try.prog 61 #[.float .f32 x] w (Tells b w) := by
  subst hb; exact isNear_any x w
theorem areFin_len (n : Nat) (b : Bool) (v : Value) (Z : List Nat) (w : World) (hv : SL w v Z) (hn : Z.length ≤ 1048576) (hl : Z.length = n) (hb : finAll Z = b) :
    Calls Try.prog 64 #[.int .i64 (n : Int), v] w (Tells b w) := by
  refine areFinite_is _ _ v Z w hv hn ?_
  unfold finN; rw [decide_eq_true (by rw [hl]), hb]; rfl
set_option maxHeartbeats 4000000 in
theorem implIsRay_any (v : Value) (R : Rw) (u : Value) (X : List Nat) (a : Nat) (w : World) (hv : RV w v R) (hu : SL w u X) (oR : OKR R) (oX : OKF X) (_oa : a < 4294967296) :
    Calls Try.prog 19 #[v, u, .float .f32 a] w (Says (rayB R X a) w) := by
  have hx := oX.size
  have HV := Lib.hid hv
  have HU := Lib.hid hu
  have HB := Lib.hid (below_alloc w)
  obtain ⟨s1, s2, s3, rfl, g1, g2, g3⟩ := hv
  have F0 := Lib.hid (Box4.mk' w (.int .i64 R.vars) s1 s2 s3 28)
  obtain ⟨ax, cx, rfl⟩ := hu.long
  clear g1 g2 g3 hu
  cases h1 : gainB R X with
  | false =>
    have H1 := Lib.hid h1
    rw [ray_gain h1]
    clear h1
    go_enter Try.func19, Try.ntmps19
    go_wp2_with fail
    go_at_call 60; refine (implGain_is _ _ R _ X _ (HV.out.below (HB.out _) (Nat.le_refl _)) (HU.out.below (HB.out _) (Nat.le_refl _)) oR oX H1.out).mono ?_; rintro e w1 ⟨r, rfl, hc, b⟩
    have B1 := Lib.hid ((HB.out _).trans (b.mono (by simp)))
    clear b hc
    go_wp2_with fail
    go_ret
    exact says rfl B1.out
  | true =>
    have H1 := Lib.hid h1
    cases h2 : leastB a with
    | false =>
      have H2 := Lib.hid h2
      rw [ray_lst h2]
      clear h1 h2
      go_enter Try.func19, Try.ntmps19
      go_wp2_with fail
      go_at_call 60; refine (implGain_is _ _ R _ X _ (HV.out.below (HB.out _) (Nat.le_refl _)) (HU.out.below (HB.out _) (Nat.le_refl _)) oR oX H1.out).mono ?_; rintro e w1 ⟨r, rfl, hc, b⟩
      have B1 := Lib.hid ((HB.out _).trans (b.mono (by simp)))
      clear b hc
      go_wp2_with fail
      go_at_call 61; refine (isNear_t _ _ _ H2.out).mono ?_; rintro e w2 ⟨rfl, n1, rfl⟩
      go_wp2_with fail
      go_ret
      exact says rfl (below_drewN B1.out _)
    | true =>
      have H2 := Lib.hid h2
      cases h3 : noLess (negF a) X with
      | false =>
        have H3 := Lib.hid h3
        rw [ray_less h3]
        clear h1 h2 h3
        go_enter Try.func19, Try.ntmps19
        go_wp2_with fail
        go_at_call 60; refine (implGain_is _ _ R _ X _ (HV.out.below (HB.out _) (Nat.le_refl _)) (HU.out.below (HB.out _) (Nat.le_refl _)) oR oX H1.out).mono ?_; rintro e w1 ⟨r, rfl, hc, b⟩
        have B1 := Lib.hid ((HB.out _).trans (b.mono (by simp)))
        clear b hc
        go_wp2_with fail
        go_at_call 61; refine (isNear_t _ _ _ H2.out).mono ?_; rintro e w2 ⟨rfl, n1, rfl⟩
        go_wp2_with fail
        go_at_call 62; refine (areAtLeast_is _ _ _ X _ (HU.out.below (below_drewN B1.out _) (Nat.le_refl _)) hx H3.out).mono ?_; rintro e w2 ⟨rfl, n2, rfl⟩
        go_wp2_with fail
        go_ret
        exact says rfl (below_drewN B1.out _)
      | true =>
        have H3 := Lib.hid h3
        have HIS := Lib.hid (ray_is h1 h2 h3)
        have hfit : fitB R X = true := by unfold gainB at h1; rw [Bool.and_eq_true] at h1; exact h1.1
        have hfin : finC (sumG R X) = true := by unfold gainB at h1; rw [Bool.and_eq_true] at h1; exact h1.2
        have hgc : gainC R X = sumG R X := by unfold gainC; rw [h1]; rfl
        have hfa : fin32 a = true := by unfold leastB at h2; rw [Bool.and_eq_true] at h2; exact h2.1
        obtain ⟨hR, hXl, -⟩ := fitB_ok hfit
        have HR := Lib.hid hR
        have HXL := Lib.hid hXl
        have b1 := hR.b1
        have b2 := hR.b2
        have HGC := Lib.hid hgc
        have HFI := Lib.hid hfin
        have HFA := Lib.hid hfa
        clear h1 h2 h3 hfit hfin hgc hfa hR hXl
        go_enter Try.func19, Try.ntmps19
        go_wp2_with fail
        go_at_call 60; refine (implGain_is _ _ R _ X _ (HV.out.below (HB.out _) (Nat.le_refl _)) (HU.out.below (HB.out _) (Nat.le_refl _)) oR oX H1.out).mono ?_; rintro e w1 ⟨r, rfl, hc, b⟩
        have B1 := Lib.hid ((HB.out _).trans (b.mono (by simp)))
        have F1 := Lib.hid (F0.out.keep b F0.out.lt)
        have HC := Lib.hid (cls_fin (hc.trans HGC.out) HFI.out)
        have l1 := F1.out.lt
        obtain ⟨d0, d1, d2, d3⟩ := F1.out
        clear b hc
        cases hq : leB r a with
        | true =>
          have HQ : Hid (rayB R X a = false) := Lib.hid (by rw [HIS.out, HC.out.1]; show (_ && gtB r a) = false; rw [gt_le HC.out.2 HFA.out, hq]; simp)
          unfold leB at hq
          go_wp2_with fail
          go_at_call 61; refine (isNear_t _ _ _ H2.out).mono ?_; rintro e w2 ⟨rfl, n1, rfl⟩
          go_wp2_with fail
          go_at_call 62; refine (areAtLeast_is _ _ _ X _ (HU.out.below (below_drewN B1.out _) (Nat.le_refl _)) hx H3.out).mono ?_; rintro e w2 ⟨rfl, n2, rfl⟩
          go_wp2_with fail
          go_ret
          exact says HQ.out.symm (below_drewN B1.out _)
        | false =>
          have HQ : Hid (rayB R X a = rayRows R X a) := Lib.hid (by rw [HIS.out, HC.out.1]; show (_ && gtB r a) = _; rw [gt_le HC.out.2 HFA.out, hq]; simp)
          unfold leB at hq
          go_wp2_with fail
          go_at_call 61; refine (isNear_t _ _ _ H2.out).mono ?_; rintro e w2 ⟨rfl, n1, rfl⟩
          go_wp2_with fail
          go_at_call 62; refine (areAtLeast_is _ _ _ X _ (HU.out.below (below_drewN B1.out _) (Nat.le_refl _)) hx H3.out).mono ?_; rintro e w2 ⟨rfl, n2, rfl⟩
          go_wp2_with fail
          clear d0 d1 d2 d3 l1 hq
          go_at_call 63; refine (usesOf_any _ R _ X _ (HV.out.below (below_drewN B1.out _) (Nat.le_refl _)) (HU.out.below (below_drewN B1.out _) (Nat.le_refl _)) HR.out HXL.out).mono ?_; rintro e w2 ⟨q, Z, rfl, hzl, hzc, hz, b⟩
          have B2 := Lib.hid (B1.out.trans ((Below.undrew b).mono B1.out.size))
          have HZ := Lib.hid (FI.sl hz)
          have HZL := Lib.hid hzl
          have HRA := Lib.hid (rows_all (a := a) hzl hzc)
          obtain ⟨qa, qc, rfl⟩ := FI.len' hz
          rw [hzl]
          clear hzl hzc hz b
          cases hfz : finAll Z with
          | false =>
            have HFZ := Lib.hid hfz
            have HN : Hid (rayRows R X a = false) := Lib.hid (by rw [HRA.out, hfz]; rfl)
            clear hfz
            go_wp2_with fail
            go_at_call 64; refine (areFin_len R.B.length false _ Z _ (by have h := HZ.out; rw [HZL.out] at h; exact h) (by rw [HZL.out]; omega) HZL.out HFZ.out).mono ?_; rintro e w3 ⟨rfl, n3, rfl⟩
            go_wp2_with fail
            go_ret
            exact says (HQ.out.trans HN.out).symm (below_drewN B2.out _)
          | true =>
            have HFZ := Lib.hid hfz
            clear hfz
            go_wp2_with fail
            go_at_call 64; refine (areFin_len R.B.length true _ Z _ (by have h := HZ.out; rw [HZL.out] at h; exact h) (by rw [HZL.out]; omega) HZL.out HFZ.out).mono ?_; rintro e w3 ⟨rfl, n3, rfl⟩
            go_wp2_with fail
            go_at_call 65; refine (maxF_any _ Z _ (SL.dn (by have h := HZ.out; rw [HZL.out] at h; exact h)) (by rw [HZL.out]; omega) (by rw [HZL.out]; omega) HFZ.out).mono ?_; rintro e w4 ⟨mx, rfl, hmx, rfl⟩
            have HM : Hid (leB mx a = rayRows R X a) := Lib.hid (by rw [HRA.out, hmx.le HFZ.out HFA.out, HFZ.out]; rfl)
            clear hmx
            cases hm : leB mx a with
            | true =>
              have HM2 : Hid (true = rayRows R X a) := Lib.hid (by rw [← HM.out, hm])
              unfold leB at hm
              go_wp2_with fail
              go_ret
              exact says (HM2.out.trans HQ.out.symm) (below_drewN B2.out _)
            | false =>
              have HM2 : Hid (false = rayRows R X a) := Lib.hid (by rw [← HM.out, hm])
              unfold leB at hm
              go_wp2_with fail
              go_ret
              exact says (HM2.out.trans HQ.out.symm) (below_drewN B2.out _)
end Go.Proofs.Ytkpdjbpfnepgaab
