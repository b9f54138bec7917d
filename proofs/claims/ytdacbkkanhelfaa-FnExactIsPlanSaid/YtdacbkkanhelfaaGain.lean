/- The gain of a plan, on both sides. -/
import Derived.Test.YtdacbkkanhelfaaLaw
import Derived.Test.YtdacbkkanhelfaaDot2
namespace Go.Proofs.Ytdacbkkanhelfaa
open Go.RowKit Go.ChangeShapes Go.WideShapes

theorem SL.dn {w : World} {v : Value} {Z : List Nat} {n : Nat} (h : SL w v Z) : SL (w.drewN n) v Z := h
/-- Is a class that of a finite number? -/
def finC : Option Nat → Bool
  | some x => fin32 x
  | none => false
theorem fin_nan32 {x : Nat} (h : (Ieee.single.read x).isNaN = true) : fin32 x = false := by
  unfold fin32
  refine decide_eq_false fun hl => ?_
  have := Fl.fin_nan (f := Ieee.single) (b := x) (by unfold Fl.Fin; rw [Fl.single_inf]; exact hl)
  rw [h] at this; cases this
theorem fin_cls {x : Nat} {C : Option Nat} (h : Fl.cls .f32 x = C) : fin32 x = finC C := by
  subst h
  cases hn : (Ieee.single.read x).isNaN with
  | true => rw [Fl.cls_none (k := .f32) hn, fin_nan32 hn]; rfl
  | false => rw [Fl.cls_some (k := .f32) hn]; rfl

/-- Rows are valid, and a list is a plan's. -/
def fitB (R : Rw) (X : List Nat) : Bool := okR R && (decide ((X.length : Int) = R.vars) && finAll X)
def gainB (R : Rw) (X : List Nat) : Bool := fitB R X && finC (dotC R.G X R.G.length)
def gainC (R : Rw) (X : List Nat) : Option Nat := bif gainB R X then dotC R.G X R.G.length else some 0
theorem fitB_ok {R : Rw} {X : List Nat} (h : fitB R X = true) : OkR R ∧ (X.length : Int) = R.vars ∧ finAll X = true := by
  unfold fitB at h
  simp only [Bool.and_eq_true, decide_eq_true_eq] at h
  exact ⟨(okR_iff R).1 h.1, h.2.1, h.2.2⟩

/-- Answers of a number and a bool. -/
def SaysFB (C : Option Nat) (b : Bool) (w : World) (e : Ending) (w' : World) : Prop := ∃ r, e = .returned (.tuple #[.float .f32 r, .bool b]) ∧ Fl.cls .f32 r = C ∧ Below w.heap.size w w'

theorem l02Is_is (b : Bool) (g : Nat) (s1 s2 s3 : Value) (R : Rw) (w : World) (h : RP w g s1 s2 s3 R) (hn : R.size ≤ 1048576) (hb : okR R = b) :
    Calls Try.prog 54 #[.pointer (some ⟨g, 0, none⟩)] w (Tells b w) := by
  subst hb
  exact l02Is_any g s1 s2 s3 R w h hn
theorem RP.drewN {w : World} {g : Nat} {s1 s2 s3 : Value} {R : Rw} (h : RP w g s1 s2 s3 R) (n : Nat) : RP (w.drewN n) g s1 s2 s3 R := ⟨h.c0, h.c1, h.c2, h.c3, h.r1, h.r2, h.r3⟩

set_option maxHeartbeats 1000000 in
theorem l02Fit_any (g : Nat) (s1 s2 s3 : Value) (R : Rw) (u : Value) (X : List Nat) (w : World) (h : RP w g s1 s2 s3 R) (hu : SL w u X) (hn : R.size ≤ 1048576) (hx : X.length ≤ 1048576) :
    Calls Try.prog 59 #[.pointer (some ⟨g, 0, none⟩), u] w (Tells (fitB R X) w) := by
  have HP := Lib.hid h
  have HU := Lib.hid hu
  have c0 := h.c0
  obtain ⟨ao, cap, rfl⟩ := hu.long
  clear hu h
  unfold fitB
  cases h1 : okR R with
  | false =>
    have H1 := Lib.hid h1
    clear h1
    go_enter Try.func59, Try.ntmps59
    go_wp2_with (go_at_call 54; refine (l02Is_is _ _ s1 s2 s3 R _ HP.out hn H1.out).mono ?_; rintro e w' ⟨rfl, n1, rfl⟩)
    go_ret
    exact tells _ rfl
  | true =>
    have H1 := Lib.hid h1
    clear h1
    cases h2 : decide ((X.length : Int) = R.vars) with
    | false =>
      have t2 : ((X.length : Int) == R.vars) = false := by simpa using h2
      clear h2
      go_enter Try.func59, Try.ntmps59
      go_wp2_with (go_at_call 54; refine (l02Is_is _ _ s1 s2 s3 R _ HP.out hn H1.out).mono ?_; rintro e w' ⟨rfl, n1, rfl⟩)
      go_ret
      exact tells _ rfl
    | true =>
      have t2 : ((X.length : Int) == R.vars) = true := by simpa using h2
      clear h2
      go_enter Try.func59, Try.ntmps59
      go_wp2_with fail
      go_at_call 54; refine (l02Is_is _ _ s1 s2 s3 R _ HP.out hn H1.out).mono ?_; rintro e w' ⟨rfl, n1, rfl⟩
      go_wp2_with fail
      go_at_call 98; refine (l02Finite_any _ X _ (SL.dn HU.out) hx).mono ?_; rintro e w' ⟨rfl, n2, rfl⟩
      go_wp2_with fail
      go_ret
      exact tells _ rfl
theorem l02Fit_is (b : Bool) (g : Nat) (s1 s2 s3 : Value) (R : Rw) (u : Value) (X : List Nat) (w : World) (h : RP w g s1 s2 s3 R) (hu : SL w u X) (hn : R.size ≤ 1048576) (hx : X.length ≤ 1048576) (hb : fitB R X = b) :
    Calls Try.prog 59 #[.pointer (some ⟨g, 0, none⟩), u] w (Tells b w) := by
  subst hb
  exact l02Fit_any g s1 s2 s3 R u X w h hu hn hx
def Numb (r : Nat) (w : World) (e : Ending) (w' : World) : Prop := e = .returned (.tuple #[.float .f32 (bif fin32 r then r else 0), .bool (fin32 r)]) ∧ ∃ n, w' = w.drewN n
theorem l02Number_any (r : Nat) (w : World) : Calls Try.prog 60 #[.float .f32 r] w (Numb r w) := by
  unfold Numb
  cases hf : fin32 r with
  | false =>
    have HF := Lib.hid hf
    clear hf
    go_enter Try.func60, Try.ntmps60
    go_wp2_with (go_at_call 102; refine (l01Finite_any _ _).mono ?_; rintro e w' ⟨rfl, m, rfl⟩; rw [HF.out])
    refine bodyPost_ret (results_tmp2 rfl _ _ _) rfl ?_
    exact ⟨rfl, _, rfl⟩
  | true =>
    have HF := Lib.hid hf
    clear hf
    go_enter Try.func60, Try.ntmps60
    go_wp2_with (go_at_call 102; refine (l01Finite_any _ _).mono ?_; rintro e w' ⟨rfl, m, rfl⟩; rw [HF.out])
    refine bodyPost_ret (results_tmp2 rfl _ _ _) rfl ?_
    exact ⟨rfl, _, rfl⟩
theorem finiteOnly_any (r : Nat) (w : World) : Calls Try.prog 104 #[.float .f32 r] w (Numb r w) := by
  unfold Numb
  cases hf : fin32 r with
  | false =>
    have HF := Lib.hid hf
    clear hf
    go_enter Try.func104, Try.ntmps104
    go_wp2_with (go_at_call 99; refine (implFinite_any _ _).mono ?_; rintro e w' ⟨rfl, m, rfl⟩; rw [HF.out])
    refine bodyPost_ret (results_tmp2 rfl _ _ _) rfl ?_
    exact ⟨rfl, _, rfl⟩
  | true =>
    have HF := Lib.hid hf
    clear hf
    go_enter Try.func104, Try.ntmps104
    go_wp2_with (go_at_call 99; refine (implFinite_any _ _).mono ?_; rintro e w' ⟨rfl, m, rfl⟩; rw [HF.out])
    refine bodyPost_ret (results_tmp2 rfl _ _ _) rfl ?_
    exact ⟨rfl, _, rfl⟩
theorem numb_cls {r : Nat} {C : Option Nat} (h : Fl.cls .f32 r = C) : Fl.cls .f32 (bif fin32 r then r else 0) = bif finC C then C else some 0 := by
  rw [fin_cls h]
  cases finC C
  · exact cls_zero
  · exact h

set_option maxHeartbeats 1000000 in
theorem specGainOf_any (v : Value) (R : Rw) (u : Value) (X : List Nat) (w : World) (hv : RV w v R) (hu : SL w u X) (oR : OKR R) (oX : OKF X) :
    Calls Try.prog 22 #[v, u] w (SaysFB (gainC R X) (gainB R X) w) := by
  have hn := oR.size
  have hx := oX.size
  have HB := Lib.hid (below_alloc w)
  obtain ⟨s1, s2, s3, rfl, g1, g2, g3⟩ := hv
  have HP : Hid (RP (w.alloc (.cells #[.int .i64 R.vars, s1, s2, s3] 27 (0, 0))) w.heap.size s1 s2 s3 R) := Lib.hid ⟨by go_simp, by go_simp, by go_simp, by go_simp, g1.below (HB.out _) (Nat.le_refl _), g2.below (HB.out _) (Nat.le_refl _), g3.below (HB.out _) (Nat.le_refl _)⟩
  have HU := Lib.hid (fun o => hu.below (HB.out o) (Nat.le_refl _))
  have G3 := Lib.hid (fun o => g3.below (HB.out o) (Nat.le_refl _))
  obtain ⟨ao, cap, rfl⟩ := hu.long
  clear g1 g2 g3 hu
  unfold gainC gainB
  cases hf : fitB R X with
  | false =>
    have HF := Lib.hid hf
    clear hf
    go_enter Try.func22, Try.ntmps22
    go_wp2_with (go_at_call 59; refine (l02Fit_is _ _ s1 s2 s3 R _ X _ HP.out (HU.out _) hn hx HF.out).mono ?_; rintro e w' ⟨rfl, n1, rfl⟩)
    refine bodyPost_ret (results_tmp2 rfl _ _ _) rfl ?_
    exact ⟨_, rfl, cls_zero, below_drewN (HB.out _) _⟩
  | true =>
    have HF := Lib.hid hf
    have hk := fitB_ok hf
    have he : R.G.length = X.length := by have := hk.1.g; omega
    have HE := Lib.hid he
    have hg : R.G.length ≤ 1048576 := by omega
    clear hf hk he
    go_enter Try.func22, Try.ntmps22
    go_wp2_with fail
    go_at_call 59; refine (l02Fit_is _ _ s1 s2 s3 R _ X _ HP.out (HU.out _) hn hx HF.out).mono ?_; rintro e w' ⟨rfl, n1, rfl⟩
    go_wp2_with fail
    go_at_call 61; refine (l02Dot_any _ _ R.G X _ (SL.dn (G3.out _)) (SL.dn (HU.out _)) hg HE.out).mono ?_; rintro e w' ⟨r, n2, rfl, rfl, hc⟩
    have HC := Lib.hid hc
    clear hc
    go_wp2_with fail
    go_at_call 60; refine (l02Number_any _ _).mono ?_; rintro e w' ⟨rfl, n3, rfl⟩
    go_wp2_with fail
    refine bodyPost_ret (results_tmp2 rfl _ _ _) rfl ?_
    exact ⟨_, by rw [← fin_cls HC.out]; rfl, numb_cls HC.out, below_drewN (HB.out _) _⟩

theorem isPoint_any (v : Value) (R : Rw) (u : Value) (X : List Nat) (w : World) (hv : RV w v R) (hu : SL w u X) (hx : X.length ≤ 1048576) (b : Bool) (hb : finN R.vars X = b) (hr : 1 ≤ R.vars ∧ R.vars ≤ 8) :
    Calls Try.prog 62 #[v, u] w (Says b w) := by
  have HB := Lib.hid (below_alloc w)
  obtain ⟨s1, s2, s3, rfl, g1, g2, g3⟩ := hv
  have HU := Lib.hid (fun o => hu.below (HB.out o) (Nat.le_refl _))
  have H := Lib.hid hb
  obtain ⟨hr1, hr2⟩ := hr
  clear g1 g2 g3 hb hu
  go_enter Try.func62, Try.ntmps62
  go_wp2_with (go_at_call 55; refine (areFinite_is _ _ _ X _ (HU.out _) hx H.out).mono ?_; rintro e w' ⟨rfl, n1, rfl⟩)
  go_ret
  exact says rfl (below_drewN (HB.out _) _)

set_option maxHeartbeats 1000000 in
theorem finiteDot_any (v u : Value) (Y Z : List Nat) (w : World) (hv : SL w v Y) (hu : SL w u Z) (h1 : Y.length ≤ 256) (h2 : Y.length = Z.length) :
    Calls Try.prog 63 #[v, u] w (SaysFB (bif finC (dotC Y Z Y.length) then dotC Y Z Y.length else some 0) (finC (dotC Y Z Y.length)) w) := by
  have HV := Lib.hid hv
  have HU := Lib.hid hu
  have HE := Lib.hid h2
  clear hv hu h2
  go_enter Try.func63, Try.ntmps63
  go_wp2_with fail
  go_at_call 103; refine (implDot_yes _ _ Y Z _ HV.out HU.out h1 HE.out).mono ?_; rintro e w' ⟨r, n, rfl, rfl, hc⟩
  have HC := Lib.hid hc
  clear hc
  go_wp2_with fail
  go_at_call 104; refine (finiteOnly_any _ _).mono ?_; rintro e w' ⟨rfl, n3, rfl⟩
  go_wp2_with fail
  refine bodyPost_ret (results_tmp2 rfl _ _ _) rfl ?_
  exact ⟨_, by rw [← fin_cls HC.out]; rfl, numb_cls HC.out, below_drewN (Below.refl _ _) _⟩

theorem implValid_is (b : Bool) (v : Value) (R : Rw) (w : World) (hv : RV w v R) (hn : R.size ≤ 1048576) (hb : okR R = b) :
    Calls Try.prog 18 #[v] w (Says b w) := by
  subst hb
  exact implValid_any v R w hv hn
set_option maxHeartbeats 2000000 in
theorem implGainOf_any (v : Value) (R : Rw) (u : Value) (X : List Nat) (w : World) (hv : RV w v R) (hu : SL w u X) (oR : OKR R) (oX : OKF X) :
    Calls Try.prog 24 #[v, u] w (SaysFB (gainC R X) (gainB R X) w) := by
  have hn := oR.size
  have hx := oX.size
  have HV := Lib.hid hv
  have HU := Lib.hid hu
  have HB := Lib.hid (below_alloc w)
  obtain ⟨s1, s2, s3, rfl, g1, g2, g3⟩ := hv
  have F0 := Lib.hid (Box4.mk' w (.int .i64 R.vars) s1 s2 s3 27)
  have G3 := Lib.hid g3
  obtain ⟨ao, cap, rfl⟩ := hu.long
  clear g1 g2 g3 hu
  unfold gainC gainB
  cases h1 : okR R with
  | false =>
    have H1 := Lib.hid h1
    have e : fitB R X = false := by unfold fitB; rw [h1]; rfl
    rw [e]
    clear h1 e
    go_enter Try.func24, Try.ntmps24
    go_wp2_with (go_at_call 18; refine (implValid_is _ _ R _ (HV.out.below (HB.out _) (Nat.le_refl _)) hn H1.out).mono ?_; rintro e w1 ⟨rfl, b⟩; have H2 := Lib.hid b; clear b)
    refine bodyPost_ret (results_tmp2 rfl _ _ _) rfl ?_
    exact ⟨_, rfl, cls_zero, (HB.out _).trans (H2.out.mono (by simp))⟩
  | true =>
    have H1 := Lib.hid h1
    have hk := (okR_iff R).1 h1
    have hr : 1 ≤ R.vars ∧ R.vars ≤ 8 := ⟨hk.v1, hk.v2⟩
    have HR := Lib.hid hr
    cases h2 : finN R.vars X with
    | false =>
      have H2 := Lib.hid h2
      have e : fitB R X = false := by unfold fitB; rw [h1]; unfold finN at h2; rw [h2]; rfl
      rw [e]
      clear h1 h2 e hk hr
      go_enter Try.func24, Try.ntmps24
      go_wp2_with fail
      go_at_call 18; refine (implValid_is _ _ R _ (HV.out.below (HB.out _) (Nat.le_refl _)) hn H1.out).mono ?_; rintro e w1 ⟨rfl, b⟩
      have F1 := Lib.hid (F0.out.keep b F0.out.lt)
      have B1 := Lib.hid ((HB.out _).trans (b.mono (by simp)))
      clear b
      obtain ⟨c0, c1, c2, c3⟩ := F1.out
      go_wp2_with fail
      clear c0 c1 c2 c3
      go_at_call 62; refine (isPoint_any _ R _ X _ (HV.out.below B1.out (Nat.le_refl _)) (HU.out.below B1.out (Nat.le_refl _)) hx _ H2.out HR.out).mono ?_; rintro e w2 ⟨rfl, b⟩
      have B2 := Lib.hid (B1.out.trans (b.mono B1.out.size))
      clear b
      go_wp2_with fail
      refine bodyPost_ret (results_tmp2 rfl _ _ _) rfl ?_
      exact ⟨_, rfl, cls_zero, B2.out⟩
    | true =>
      have H2 := Lib.hid h2
      have hxx : (X.length : Int) = R.vars ∧ finAll X = true := by unfold finN at h2; simpa using h2
      have e : fitB R X = true := by unfold fitB; rw [h1, decide_eq_true hxx.1, hxx.2]; rfl
      have hg := hk.g
      have he : R.G.length = X.length := by omega
      have hg8 : R.G.length ≤ 256 := by omega
      have HE := Lib.hid he
      rw [e]
      clear h1 h2 e hk hr hxx hg he
      go_enter Try.func24, Try.ntmps24
      go_wp2_with fail
      go_at_call 18; refine (implValid_is _ _ R _ (HV.out.below (HB.out _) (Nat.le_refl _)) hn H1.out).mono ?_; rintro e w1 ⟨rfl, b⟩
      have F1 := Lib.hid (F0.out.keep b F0.out.lt)
      have B1 := Lib.hid ((HB.out _).trans (b.mono (by simp)))
      clear b
      obtain ⟨c0, c1, c2, c3⟩ := F1.out
      go_wp2_with fail
      clear c0 c1 c2 c3
      go_at_call 62; refine (isPoint_any _ R _ X _ (HV.out.below B1.out (Nat.le_refl _)) (HU.out.below B1.out (Nat.le_refl _)) hx _ H2.out HR.out).mono ?_; rintro e w2 ⟨rfl, b⟩
      have F2 := Lib.hid (F1.out.keep b F1.out.lt)
      have B2 := Lib.hid (B1.out.trans (b.mono B1.out.size))
      clear b
      obtain ⟨c0, c1, c2, c3⟩ := F2.out
      go_wp2_with fail
      clear c0 c1 c2 c3
      go_at_call 63; refine (finiteDot_any _ _ R.G X _ (G3.out.below B2.out (Nat.le_refl _)) (HU.out.below B2.out (Nat.le_refl _)) hg8 HE.out).mono ?_; rintro e w3 ⟨r, rfl, hc, b⟩
      have HC := Lib.hid hc
      have B3 := Lib.hid (B2.out.trans (b.mono B2.out.size))
      clear b hc
      go_wp2_with fail
      refine bodyPost_ret (results_tmp2 rfl _ _ _) rfl ?_
      exact ⟨_, rfl, HC.out, B3.out⟩
end Go.Proofs.Ytdacbkkanhelfaa
