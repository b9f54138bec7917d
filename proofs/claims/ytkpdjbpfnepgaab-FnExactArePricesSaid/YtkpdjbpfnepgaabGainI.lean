/- The gain of a plan: the program's side. -/
import Derived.Test.YtkpdjbpfnepgaabGain0
namespace Go.Proofs.Ytkpdjbpfnepgaab
open Go.RowKit Go.ChangeShapes Go.WideShapes
theorem finiteOnly_any (r : Nat) (w : World) : Calls Try.prog 120 #[.float .f32 r] w (Numb r w) := by
  unfold Numb
  cases hf : fin32 r with
  | false =>
    have HF := Lib.hid hf
    clear hf
    go_enter Try.func120, Try.ntmps120
    go_wp2_with (go_at_call 122; refine (implFinite_any _ _).mono ?_; rintro e w' ⟨rfl, m, rfl⟩; rw [HF.out])
    refine bodyPost_ret (results_tmp2 rfl _ _ _) rfl ?_
    exact ⟨rfl, _, rfl⟩
  | true =>
    have HF := Lib.hid hf
    clear hf
    go_enter Try.func120, Try.ntmps120
    go_wp2_with (go_at_call 122; refine (implFinite_any _ _).mono ?_; rintro e w' ⟨rfl, m, rfl⟩; rw [HF.out])
    refine bodyPost_ret (results_tmp2 rfl _ _ _) rfl ?_
    exact ⟨rfl, _, rfl⟩
theorem isPoint_any (v : Value) (R : Rw) (u : Value) (X : List Nat) (w : World) (hv : RV w v R) (hu : SL w u X) (hx : X.length ≤ 1048576) (b : Bool) (hb : finN R.vars X = b) (hr : 1 ≤ R.vars ∧ R.vars ≤ 8) :
    Calls Try.prog 94 #[v, u] w (Says b w) := by
  have HB := Lib.hid (below_alloc w)
  obtain ⟨s1, s2, s3, rfl, g1, g2, g3⟩ := hv
  have HU := Lib.hid (fun o => hu.below (HB.out o) (Nat.le_refl _))
  have H := Lib.hid hb
  obtain ⟨hr1, hr2⟩ := hr
  clear g1 g2 g3 hb hu
  go_enter Try.func94, Try.ntmps94
  go_wp2_with (go_at_call 64; refine (areFinite_is _ _ _ X _ (HU.out _) hx H.out).mono ?_; rintro e w' ⟨rfl, n1, rfl⟩)
  go_ret
  exact says rfl (below_drewN (HB.out _) _)

set_option maxHeartbeats 1000000 in
theorem finiteDot_any (v u : Value) (Y Z : List Nat) (w : World) (hv : SL w v Y) (hu : SL w u Z) (h1 : Y.length ≤ 256) (h2 : Y.length = Z.length) :
    Calls Try.prog 69 #[v, u] w (SaysFB (bif finC (dotC Y Z Y.length) then dotC Y Z Y.length else some 0) (finC (dotC Y Z Y.length)) w) := by
  have HV := Lib.hid hv
  have HU := Lib.hid hu
  have HE := Lib.hid h2
  clear hv hu h2
  go_enter Try.func69, Try.ntmps69
  go_wp2_with fail
  go_at_call 123; refine (implDot_yes _ _ Y Z _ HV.out HU.out h1 HE.out).mono ?_; rintro e w' ⟨r, n, rfl, rfl, hc⟩
  have HC := Lib.hid hc
  clear hc
  go_wp2_with fail
  go_at_call 120; refine (finiteOnly_any _ _).mono ?_; rintro e w' ⟨rfl, n3, rfl⟩
  go_wp2_with fail
  refine bodyPost_ret (results_tmp2 rfl _ _ _) rfl ?_
  exact ⟨_, by rw [← fin_cls HC.out]; rfl, numb_cls HC.out, below_drewN (Below.refl _ _) _⟩

theorem implValid_is (b : Bool) (v : Value) (R : Rw) (w : World) (hv : RV w v R) (hn : R.size ≤ 1048576) (hb : okR R = b) :
    Calls Try.prog 67 #[v] w (Says b w) := by
  subst hb
  exact implValid_any v R w hv hn
set_option maxHeartbeats 2000000 in
theorem implGainOf_any (v : Value) (R : Rw) (u : Value) (X : List Nat) (w : World) (hv : RV w v R) (hu : SL w u X) (oR : OKR R) (oX : OKF X) :
    Calls Try.prog 60 #[v, u] w (SaysFB (gainC R X) (gainB R X) w) := by
  have hn := oR.size
  have hx := oX.size
  have HV := Lib.hid hv
  have HU := Lib.hid hu
  have HB := Lib.hid (below_alloc w)
  obtain ⟨s1, s2, s3, rfl, g1, g2, g3⟩ := hv
  have F0 := Lib.hid (Box4.mk' w (.int .i64 R.vars) s1 s2 s3 28)
  have G3 := Lib.hid g3
  obtain ⟨ao, cap, rfl⟩ := hu.long
  clear g1 g2 g3 hu
  unfold gainC gainB
  cases h1 : okR R with
  | false =>
    have H1 := Lib.hid h1
    have e : fitB R X = false := by unfold fitB; rw [h1]; rfl
    rw [e]
    clear h1 e
    go_enter Try.func60, Try.ntmps60
    go_wp2_with (go_at_call 67; refine (implValid_is _ _ R _ (HV.out.below (HB.out _) (Nat.le_refl _)) hn H1.out).mono ?_; rintro e w1 ⟨rfl, b⟩; have H2 := Lib.hid b; clear b)
    refine bodyPost_ret (results_tmp2 rfl _ _ _) rfl ?_
    exact ⟨_, rfl, cls_zero, (HB.out _).trans (H2.out.mono (by simp))⟩
  | true =>
    have H1 := Lib.hid h1
    have hk := (okR_iff R).1 h1
    have hr : 1 ≤ R.vars ∧ R.vars ≤ 8 := ⟨hk.v1, hk.v2⟩
    have HR := Lib.hid hr
    cases h2 : finN R.vars X with
    | false =>
      have H2 := Lib.hid h2
      have e : fitB R X = false := by unfold fitB; rw [h1]; unfold finN at h2; rw [h2]; rfl
      rw [e]
      clear h1 h2 e hk hr
      go_enter Try.func60, Try.ntmps60
      go_wp2_with fail
      go_at_call 67; refine (implValid_is _ _ R _ (HV.out.below (HB.out _) (Nat.le_refl _)) hn H1.out).mono ?_; rintro e w1 ⟨rfl, b⟩
      have F1 := Lib.hid (F0.out.keep b F0.out.lt)
      have B1 := Lib.hid ((HB.out _).trans (b.mono (by simp)))
      clear b
      obtain ⟨c0, c1, c2, c3⟩ := F1.out
      go_wp2_with fail
      clear c0 c1 c2 c3
      go_at_call 94; refine (isPoint_any _ R _ X _ (HV.out.below B1.out (Nat.le_refl _)) (HU.out.below B1.out (Nat.le_refl _)) hx _ H2.out HR.out).mono ?_; rintro e w2 ⟨rfl, b⟩
      have B2 := Lib.hid (B1.out.trans (b.mono B1.out.size))
      clear b
      go_wp2_with fail
      refine bodyPost_ret (results_tmp2 rfl _ _ _) rfl ?_
      exact ⟨_, rfl, cls_zero, B2.out⟩
    | true =>
      have H2 := Lib.hid h2
      have hxx : (X.length : Int) = R.vars ∧ finAll X = true := by unfold finN at h2; simpa using h2
      have e : fitB R X = true := by unfold fitB; rw [h1, decide_eq_true hxx.1, hxx.2]; rfl
      have hg := hk.g
      have he : R.G.length = X.length := by omega
      have hg8 : R.G.length ≤ 256 := by omega
      have HE := Lib.hid he
      rw [e]
      clear h1 h2 e hk hr hxx hg he
      go_enter Try.func60, Try.ntmps60
      go_wp2_with fail
      go_at_call 67; refine (implValid_is _ _ R _ (HV.out.below (HB.out _) (Nat.le_refl _)) hn H1.out).mono ?_; rintro e w1 ⟨rfl, b⟩
      have F1 := Lib.hid (F0.out.keep b F0.out.lt)
      have B1 := Lib.hid ((HB.out _).trans (b.mono (by simp)))
      clear b
      obtain ⟨c0, c1, c2, c3⟩ := F1.out
      go_wp2_with fail
      clear c0 c1 c2 c3
      go_at_call 94; refine (isPoint_any _ R _ X _ (HV.out.below B1.out (Nat.le_refl _)) (HU.out.below B1.out (Nat.le_refl _)) hx _ H2.out HR.out).mono ?_; rintro e w2 ⟨rfl, b⟩
      have F2 := Lib.hid (F1.out.keep b F1.out.lt)
      have B2 := Lib.hid (B1.out.trans (b.mono B1.out.size))
      clear b
      obtain ⟨c0, c1, c2, c3⟩ := F2.out
      go_wp2_with fail
      clear c0 c1 c2 c3
      go_at_call 69; refine (finiteDot_any _ _ R.G X _ (G3.out.below B2.out (Nat.le_refl _)) (HU.out.below B2.out (Nat.le_refl _)) hg8 HE.out).mono ?_; rintro e w3 ⟨r, rfl, hc, b⟩
      have HC := Lib.hid hc
      have B3 := Lib.hid (B2.out.trans (b.mono B2.out.size))
      clear b hc
      go_wp2_with fail
      refine bodyPost_ret (results_tmp2 rfl _ _ _) rfl ?_
      exact ⟨_, rfl, HC.out, B3.out⟩
end Go.Proofs.Ytkpdjbpfnepgaab
