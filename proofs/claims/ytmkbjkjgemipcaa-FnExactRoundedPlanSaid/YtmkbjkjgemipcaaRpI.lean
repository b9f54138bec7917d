/- A plan rounded down: the program. -/
import Derived.Test.YtmkbjkjgemipcaaRpS
import Derived.Test.YtmkbjkjgemipcaaPtI
import Derived.Test.YtmkbjkjgemipcaaNum2
namespace Go.Proofs.Ytmkbjkjgemipcaa
open Go.RowKit Go.ChangeShapes Go.WideShapes

theorem areAtLeast_isR (t : Bool) (l : Nat) (v : Value) (Z : List Nat) (w : World) (hv : SL w v Z) (hn : Z.length ≤ 1048576) (h : noLess l Z = t) :
    Calls Try.prog 81 #[.float .f32 l, v] w (Tells t w) := by subst h; exact areAtLeast_any l v Z w hv hn
set_option maxRecDepth 100000 in
set_option maxHeartbeats 8000000 in
theorem implRoundedPlan_any (v : Value) (R : Rw) (u : Value) (X : List Nat) (w : World) (hv : RV w v R) (hu : SL w u X) (oR : OKR R) (oX : OKF X) :
    Calls Try.prog 40 #[v, u] w (SaysJB (roundL R X) (roundB R X) w) := by
  have hn := oR.size
  have hx := oX.size
  have HV := Lib.hid hv
  have HU := Lib.hid hu
  have HB := Lib.hid (below_alloc w)
  obtain ⟨s1, s2, s3, rfl, g1, g2, g3⟩ := hv
  have F0 := Lib.hid (Box4.mk' w (.int .i64 R.vars) s1 s2 s3 51)
  obtain ⟨ao, cap, rfl⟩ := hu.long
  clear g1 g2 g3 hu
  cases h1 : okR R with
  | false =>
    have H1 := Lib.hid h1
    have e : roundB R X = false := by unfold roundB; rw [h1]; rfl
    unfold roundL
    rw [e, cond_false]
    clear h1 e
    go_enter Try.func40, Try.ntmps40
    go_wp2_with fail
    go_at_call 79; refine (implValid_is _ _ R _ (HV.out.below (HB.out _) (Nat.le_refl _)) hn H1.out).mono ?_; rintro e w1 ⟨rfl, b⟩
    have B1 := Lib.hid ((HB.out _).trans (b.mono (by simp)))
    clear b
    go_wp2_with fail
    refine bodyPost_ret (results_tmp2 rfl _ _ _) rfl ?_
    exact ⟨_, rfl, II.no B1.out.size, B1.out⟩
  | true =>
    have H1 := Lib.hid h1
    have hk := (okR_iff R).1 h1
    have HR := Lib.hid (⟨hk.v1, hk.v2⟩ : 1 ≤ R.vars ∧ R.vars ≤ 8)
    clear hk
    cases h2 : finN R.vars X with
    | false =>
      have H2 := Lib.hid h2
      have e : roundB R X = false := by
        unfold roundB
        unfold finN at h2
        rw [h1, Bool.true_and]
        cases h3 : decide ((X.length : Int) = R.vars) with
        | false => rfl
        | true =>
          rw [h3, Bool.true_and] at h2
          rw [Bool.true_and]
          cases h4 : allRd X with
          | false => rfl
          | true => rw [allRd_fin h4] at h2; cases h2
      unfold roundL
      rw [e, cond_false]
      clear h1 h2 e
      go_enter Try.func40, Try.ntmps40
      go_wp2_with fail
      go_at_call 79; refine (implValid_is _ _ R _ (HV.out.below (HB.out _) (Nat.le_refl _)) hn H1.out).mono ?_; rintro e w1 ⟨rfl, b⟩
      have F1 := Lib.hid (F0.out.keep b F0.out.lt)
      have B1 := Lib.hid ((HB.out _).trans (b.mono (by simp)))
      clear b
      obtain ⟨c0, c1, c2, c3⟩ := F1.out
      go_wp2_with fail
      clear c0 c1 c2 c3
      go_at_call 80; refine (isPoint_any _ R _ X _ (HV.out.below B1.out (Nat.le_refl _)) (HU.out.below B1.out (Nat.le_refl _)) hx _ H2.out HR.out).mono ?_; rintro e w2 ⟨rfl, b⟩
      have B2 := Lib.hid (B1.out.trans (b.mono B1.out.size))
      clear b
      go_wp2_with fail
      refine bodyPost_ret (results_tmp2 rfl _ _ _) rfl ?_
      exact ⟨_, rfl, II.no B2.out.size, B2.out⟩
    | true =>
      have H2 := Lib.hid h2
      have hxx : (X.length : Int) = R.vars ∧ finAll X = true := by unfold finN at h2; simpa using h2
      have HL : Hid (1 ≤ X.length) := Lib.hid (by have := hxx.1; have := HR.out; omega)
      have e : roundB R X = (noLess 0 X && !gtB (mxF X (X.length - 1)) 1232348160) := by
        unfold roundB
        rw [h1, decide_eq_true hxx.1, Bool.true_and, Bool.true_and, allRd_is hxx.2 HL.out]
      have HE : Hid (roundB R X = allRd X) := Lib.hid (by unfold roundB; rw [h1, decide_eq_true hxx.1, Bool.true_and, Bool.true_and])
      have HFA := Lib.hid hxx.2
      unfold roundL
      rw [e]
      rw [e] at HE
      clear h1 h2 e hxx
      cases h3 : noLess 0 X with
      | false =>
        have H3 := Lib.hid h3
        rw [Bool.false_and, cond_false]
        clear h3 HE
        go_enter Try.func40, Try.ntmps40
        go_wp2_with fail
        go_at_call 79; refine (implValid_is _ _ R _ (HV.out.below (HB.out _) (Nat.le_refl _)) hn H1.out).mono ?_; rintro e w1 ⟨rfl, b⟩
        have F1 := Lib.hid (F0.out.keep b F0.out.lt)
        have B1 := Lib.hid ((HB.out _).trans (b.mono (by simp)))
        clear b
        obtain ⟨c0, c1, c2, c3⟩ := F1.out
        go_wp2_with fail
        clear c0 c1 c2 c3
        go_at_call 80; refine (isPoint_any _ R _ X _ (HV.out.below B1.out (Nat.le_refl _)) (HU.out.below B1.out (Nat.le_refl _)) hx _ H2.out HR.out).mono ?_; rintro e w2 ⟨rfl, b⟩
        have B2 := Lib.hid (B1.out.trans (b.mono B1.out.size))
        clear b
        go_wp2_with fail
        go_at_call 81; refine (areAtLeast_isR _ 0 _ X _ (HU.out.below B2.out (Nat.le_refl _)) hx H3.out).mono ?_; rintro e w3 ⟨rfl, n3, rfl⟩
        have B3 := Lib.hid (below_drewN B2.out n3)
        go_wp2_with fail
        refine bodyPost_ret (results_tmp2 rfl _ _ _) rfl ?_
        exact ⟨_, rfl, II.no B3.out.size, B3.out⟩
      | true =>
        have H3 := Lib.hid h3
        rw [h3, Bool.true_and] at HE
        rw [Bool.true_and]
        clear h3
        have HMX : Hid (∀ (W : World) (s : Value), SL W s X → Calls Try.prog 82 #[s] W (fun e w' => e = .returned (.float .f32 (mxF X (X.length - 1))) ∧ W = w')) := Lib.hid fun W s hs => slicesMaxF_any s X W hs HL.out hx HFA.out
        generalize mxF X (X.length - 1) = m at HMX HE
        cases h4 : gtB m 1232348160 with
        | true =>
          rw [Bool.not_true, cond_false]
          unfold gtB at h4
          clear HE
          go_enter Try.func40, Try.ntmps40
          go_wp2_with fail
          go_at_call 79; refine (implValid_is _ _ R _ (HV.out.below (HB.out _) (Nat.le_refl _)) hn H1.out).mono ?_; rintro e w1 ⟨rfl, b⟩
          have F1 := Lib.hid (F0.out.keep b F0.out.lt)
          have B1 := Lib.hid ((HB.out _).trans (b.mono (by simp)))
          clear b
          obtain ⟨c0, c1, c2, c3⟩ := F1.out
          go_wp2_with fail
          clear c0 c1 c2 c3
          go_at_call 80; refine (isPoint_any _ R _ X _ (HV.out.below B1.out (Nat.le_refl _)) (HU.out.below B1.out (Nat.le_refl _)) hx _ H2.out HR.out).mono ?_; rintro e w2 ⟨rfl, b⟩
          have B2 := Lib.hid (B1.out.trans (b.mono B1.out.size))
          clear b
          go_wp2_with fail
          go_at_call 81; refine (areAtLeast_isR _ 0 _ X _ (HU.out.below B2.out (Nat.le_refl _)) hx H3.out).mono ?_; rintro e w3 ⟨rfl, n3, rfl⟩
          have B3 := Lib.hid (below_drewN B2.out n3)
          go_wp2_with fail
          go_at_call 82; refine (HMX.out _ _ (HU.out.below B3.out (Nat.le_refl _))).mono ?_; rintro e w' ⟨rfl, rfl⟩
          go_wp2_with fail
          refine bodyPost_ret (results_tmp2 rfl _ _ _) rfl ?_
          exact ⟨_, rfl, II.no B3.out.size, B3.out⟩
        | false =>
          rw [h4, Bool.not_false] at HE
          rw [Bool.not_false, cond_true]
          unfold gtB at h4
          have HRD := Lib.hid HE.out.symm
          clear HE
          go_enter Try.func40, Try.ntmps40
          go_wp2_with fail
          go_at_call 79; refine (implValid_is _ _ R _ (HV.out.below (HB.out _) (Nat.le_refl _)) hn H1.out).mono ?_; rintro e w1 ⟨rfl, b⟩
          have F1 := Lib.hid (F0.out.keep b F0.out.lt)
          have B1 := Lib.hid ((HB.out _).trans (b.mono (by simp)))
          clear b
          obtain ⟨c0, c1, c2, c3⟩ := F1.out
          go_wp2_with fail
          clear c0 c1 c2 c3
          go_at_call 80; refine (isPoint_any _ R _ X _ (HV.out.below B1.out (Nat.le_refl _)) (HU.out.below B1.out (Nat.le_refl _)) hx _ H2.out HR.out).mono ?_; rintro e w2 ⟨rfl, b⟩
          have B2 := Lib.hid (B1.out.trans (b.mono B1.out.size))
          clear b
          go_wp2_with fail
          go_at_call 81; refine (areAtLeast_isR _ 0 _ X _ (HU.out.below B2.out (Nat.le_refl _)) hx H3.out).mono ?_; rintro e w3 ⟨rfl, n3, rfl⟩
          have B3 := Lib.hid (below_drewN B2.out n3)
          go_wp2_with fail
          go_at_call 82; refine (HMX.out _ _ (HU.out.below B3.out (Nat.le_refl _))).mono ?_; rintro e w' ⟨rfl, rfl⟩
          go_wp2_with fail
          go_at_call 83; refine (roundedDown_any _ X _ (HU.out.below B3.out (Nat.le_refl _)) HL.out hx HRD.out).mono ?_; rintro e w4 ⟨r, rfl, hi4, b⟩
          have HI4 := Lib.hid hi4
          have B4 := Lib.hid (B3.out.trans (b.mono B3.out.size))
          have HS3 := Lib.hid B3.out.size
          clear b hi4
          go_wp2_with fail
          refine bodyPost_ret (results_tmp2 rfl _ _ _) rfl ?_
          exact ⟨_, rfl, II.wide' HI4.out HS3.out, B4.out⟩
end Go.Proofs.Ytmkbjkjgemipcaa
