/- How far prices are from a plan, on both sides. -/
import Derived.Test.YtdacbkkanhelfabGain
namespace Go.Proofs.Ytdacbkkanhelfab
open Go.RowKit Go.ChangeShapes Go.WideShapes
attribute [local go_sem] run_sub

def pricedB (R : Rw) (Y : List Nat) : Bool := okR R && (decide (Y.length = R.B.length) && finAll Y)
def gapD (R : Rw) (X Y : List Nat) : Option Nat := Fl.arC .sub .f32 (dotC R.B Y R.B.length) (gainC R X)
def gapB (R : Rw) (X Y : List Nat) : Bool := gainB R X && (pricedB R Y && finC (gapD R X Y))
def gapC (R : Rw) (X Y : List Nat) : Option Nat := bif gapB R X Y then gapD R X Y else some 0

theorem fin_of {x : Nat} (h : fin32 x = true) : Fl.Fin Ieee.single x := by
  unfold fin32 at h
  unfold Fl.Fin
  rw [Fl.single_inf]
  exact of_decide_eq_true h
theorem inf_fin {s : Bool} : fin32 (Ieee.single.write (.infinity s)) = false := by cases s <;> decide
/-- What is finite less a finite number is finite. -/
theorem sub_fin {C D : Option Nat} (hD : finC D = true) (h : finC (Fl.arC .sub .f32 C D) = true) : finC C = true := by
  cases C with
  | none => simp [Fl.arC, finC] at h
  | some x =>
    cases D with
    | none => simp [finC] at hD
    | some y =>
      have hy := fin_of hD
      show fin32 x = true
      rcases Fl.read_cases Fl.single_ok x with hx | hx | hx
      · unfold fin32
        unfold Fl.Fin at hx
        rw [Fl.single_inf] at hx
        exact decide_eq_true hx
      · exfalso
        have e : floatBits .sub .f32 x y = some (Ieee.single.write (.infinity (Fl.sg Ieee.single x))) := by
          show Ieee.single.sub x y = _
          unfold Ieee.Format.sub
          rw [hx, Fl.read_fin hy]
          rfl
        have h2 : finC (floatBits .sub .f32 x y) = true := h
        rw [e] at h2
        have h3 : fin32 (Ieee.single.write (.infinity (Fl.sg Ieee.single x))) = true := h2
        rw [inf_fin] at h3; cases h3
      · exfalso
        have e : floatBits .sub .f32 x y = none := by
          cases hb : floatBits .sub .f32 x y with
          | none => rfl
          | some r =>
            have := (Fl.bits_facts hb).2.1
            rw [Fl.cls_none (k := .f32) hx] at this; cases this
        have h2 : finC (floatBits .sub .f32 x y) = true := h
        rw [e] at h2; cases h2
theorem gainC_fin {R : Rw} {X : List Nat} (h : gainB R X = true) : finC (gainC R X) = true := by
  unfold gainC
  rw [h]
  unfold gainB at h
  rw [Bool.and_eq_true] at h
  exact h.2

set_option maxHeartbeats 1000000 in
theorem l02Priced_any (g : Nat) (s1 s2 s3 : Value) (R : Rw) (u : Value) (Y : List Nat) (w : World) (h : RP w g s1 s2 s3 R) (hu : SL w u Y) (hn : R.size ≤ 1048576) (hx : Y.length ≤ 1048576) (t : Bool) (ht : pricedB R Y = t) :
    Calls Try.prog 104 #[.pointer (some ⟨g, 0, none⟩), u] w (Tells t w) := by
  subst ht
  have HP := Lib.hid h
  have HU := Lib.hid hu
  have c2 := h.c2
  obtain ⟨ao2, cap2, rfl⟩ := h.r2.long
  obtain ⟨ao, cap, rfl⟩ := hu.long
  clear hu h
  unfold pricedB
  cases h1 : okR R with
  | false =>
    have H1 := Lib.hid h1
    clear h1
    go_enter Try.func104, Try.ntmps104
    go_wp2_with (go_at_call 63; refine (l02Is_is _ _ s1 _ s3 R _ HP.out hn H1.out).mono ?_; rintro e w' ⟨rfl, n1, rfl⟩)
    go_ret
    exact tells _ rfl
  | true =>
    have H1 := Lib.hid h1
    clear h1
    cases h2 : decide (Y.length = R.B.length) with
    | false =>
      have t2 : ((Y.length : Int) == (R.B.length : Int)) = false := by simp at h2 ⊢; omega
      clear h2
      go_enter Try.func104, Try.ntmps104
      go_wp2_with (go_at_call 63; refine (l02Is_is _ _ s1 _ s3 R _ HP.out hn H1.out).mono ?_; rintro e w' ⟨rfl, n1, rfl⟩)
      go_ret
      exact tells _ rfl
    | true =>
      have t2 : ((Y.length : Int) == (R.B.length : Int)) = true := by simp at h2 ⊢; omega
      clear h2
      go_enter Try.func104, Try.ntmps104
      go_wp2_with fail
      go_at_call 63; refine (l02Is_is _ _ s1 _ s3 R _ HP.out hn H1.out).mono ?_; rintro e w' ⟨rfl, n1, rfl⟩
      go_wp2_with fail
      go_at_call 122; refine (l02Finite_any _ Y _ (SL.dn HU.out) hx).mono ?_; rintro e w' ⟨rfl, n2, rfl⟩
      go_wp2_with fail
      go_ret
      exact tells _ rfl
theorem isPriceList_any (v : Value) (R : Rw) (u : Value) (Y : List Nat) (w : World) (hv : RV w v R) (hu : SL w u Y) (hx : Y.length ≤ 1048576) (b : Bool) (hb : finN (R.B.length : Nat) Y = b) :
    Calls Try.prog 106 #[v, u] w (Says b w) := by
  have HB := Lib.hid (below_alloc w)
  obtain ⟨s1, s2, s3, rfl, g1, g2, g3⟩ := hv
  obtain ⟨ao2, cap2, rfl⟩ := g2.long
  have HU := Lib.hid (fun o => hu.below (HB.out o) (Nat.le_refl _))
  have H := Lib.hid hb
  clear g1 g2 g3 hb hu
  go_enter Try.func106, Try.ntmps106
  go_wp2_with (go_at_call 101; refine (areFinite_is _ _ _ Y _ (HU.out _) hx H.out).mono ?_; rintro e w' ⟨rfl, n1, rfl⟩)
  go_ret
  exact says rfl (below_drewN (HB.out _) _)
theorem specGainOf_is (t : Bool) (v : Value) (R : Rw) (u : Value) (X : List Nat) (w : World) (hv : RV w v R) (hu : SL w u X) (oR : OKR R) (oX : OKF X) (h : gainB R X = t) :
    Calls Try.prog 103 #[v, u] w (SaysFB (gainC R X) t w) := by
  subst h; exact specGainOf_any v R u X w hv hu oR oX
theorem implGainOf_is (t : Bool) (v : Value) (R : Rw) (u : Value) (X : List Nat) (w : World) (hv : RV w v R) (hu : SL w u X) (oR : OKR R) (oX : OKF X) (h : gainB R X = t) :
    Calls Try.prog 97 #[v, u] w (SaysFB (gainC R X) t w) := by
  subst h; exact implGainOf_any v R u X w hv hu oR oX
theorem RP.box (w : World) {s1 s2 s3 : Value} {R : Rw} (g1 : SL w s1 R.N) (g2 : SL w s2 R.B) (g3 : SL w s3 R.G) : RP (w.alloc (.cells #[.int .i64 R.vars, s1, s2, s3] 27)) w.heap.size s1 s2 s3 R :=
  ⟨World.cell?_alloc_new _ _ _ _, World.cell?_alloc_new _ _ _ _, World.cell?_alloc_new _ _ _ _, World.cell?_alloc_new _ _ _ _, g1.below (below_alloc _ _) (Nat.le_refl _), g2.below (below_alloc _ _) (Nat.le_refl _), g3.below (below_alloc _ _) (Nat.le_refl _)⟩
theorem RP.keep {B : Nat} {w w' : World} {g : Nat} {s1 s2 s3 : Value} {R : Rw} (h : RP w g s1 s2 s3 R) (hb : Below B w w') (hB : w.heap.size ≤ B) (hg : g < B) : RP w' g s1 s2 s3 R :=
  ⟨keep_cell h.c0 hb hg, keep_cell h.c1 hb hg, keep_cell h.c2 hb hg, keep_cell h.c3 hb hg, h.r1.below hb hB, h.r2.below hb hB, h.r3.below hb hB⟩
theorem pricedB_ok {R : Rw} {Y : List Nat} (h : pricedB R Y = true) : OkR R ∧ Y.length = R.B.length ∧ finAll Y = true := by
  unfold pricedB at h
  simp only [Bool.and_eq_true, decide_eq_true_eq] at h
  exact ⟨(okR_iff R).1 h.1, h.2.1, h.2.2⟩

set_option maxHeartbeats 2000000 in
theorem specPriceGap_any (v : Value) (R : Rw) (u : Value) (X : List Nat) (y : Value) (Y : List Nat) (w : World) (hv : RV w v R) (hu : SL w u X) (hy : SL w y Y) (oR : OKR R) (oX : OKF X) (oY : OKF Y) :
    Calls Try.prog 45 #[v, u, y] w (SaysFB (gapC R X Y) (gapB R X Y) w) := by
  have hn := oR.size
  have hyl := oY.size
  have HV := Lib.hid hv
  have HU := Lib.hid hu
  have HY := Lib.hid hy
  have HB := Lib.hid (below_alloc w)
  obtain ⟨s1, s2, s3, rfl, g1, g2, g3⟩ := hv
  have HP := Lib.hid (RP.box w g1 g2 g3)
  have F0 := Lib.hid (Box4.mk' w (.int .i64 R.vars) s1 s2 s3 27)
  have G2 := Lib.hid g2
  obtain ⟨ax, cx, rfl⟩ := hu.long
  obtain ⟨ay, cy, rfl⟩ := hy.long
  clear g1 g2 g3 hu hy
  unfold gapC gapB
  cases h1 : gainB R X with
  | false =>
    have H1 := Lib.hid h1
    clear h1
    go_enter Try.func45, Try.ntmps45
    go_wp2_with fail
    go_at_call 103; refine (specGainOf_is _ _ R _ X _ (HV.out.below (HB.out _) (Nat.le_refl _)) (HU.out.below (HB.out _) (Nat.le_refl _)) oR oX H1.out).mono ?_; rintro e w1 ⟨r, rfl, hc, b⟩
    have B1 := Lib.hid ((HB.out _).trans (b.mono (by simp)))
    clear b hc
    go_wp2_with fail
    refine bodyPost_ret (results_tmp2 rfl _ _ _) rfl ?_
    exact ⟨_, rfl, cls_zero, B1.out⟩
  | true =>
    have H1 := Lib.hid h1
    have HGF := Lib.hid (gainC_fin h1)
    clear h1
    cases h2 : pricedB R Y with
    | false =>
      have H2 := Lib.hid h2
      clear h2
      go_enter Try.func45, Try.ntmps45
      go_wp2_with fail
      go_at_call 103; refine (specGainOf_is _ _ R _ X _ (HV.out.below (HB.out _) (Nat.le_refl _)) (HU.out.below (HB.out _) (Nat.le_refl _)) oR oX H1.out).mono ?_; rintro e w1 ⟨r, rfl, hc, b⟩
      have B1 := Lib.hid ((HB.out _).trans (b.mono (by simp)))
      have P1 := Lib.hid (HP.out.keep b (Nat.le_refl _) F0.out.lt)
      clear b hc
      go_wp2_with fail
      go_at_call 104; refine (l02Priced_any _ s1 s2 s3 R _ Y _ P1.out (HY.out.below B1.out (Nat.le_refl _)) hn hyl _ H2.out).mono ?_; rintro e w2 ⟨rfl, n2, rfl⟩
      go_wp2_with fail
      refine bodyPost_ret (results_tmp2 rfl _ _ _) rfl ?_
      exact ⟨_, rfl, cls_zero, below_drewN B1.out _⟩
    | true =>
      have H2 := Lib.hid h2
      have HE := Lib.hid (pricedB_ok h2).2.1.symm
      have hb8 : R.B.length ≤ 1048576 := by have := (pricedB_ok h2).1.b2; omega
      clear h2
      go_enter Try.func45, Try.ntmps45
      go_wp2_with fail
      go_at_call 103; refine (specGainOf_is _ _ R _ X _ (HV.out.below (HB.out _) (Nat.le_refl _)) (HU.out.below (HB.out _) (Nat.le_refl _)) oR oX H1.out).mono ?_; rintro e w1 ⟨r, rfl, hc, b⟩
      have B1 := Lib.hid ((HB.out _).trans (b.mono (by simp)))
      have P1 := Lib.hid (HP.out.keep b (Nat.le_refl _) F0.out.lt)
      have HC := Lib.hid hc
      clear b hc
      have d2 := P1.out.c2
      go_wp2_with fail
      go_at_call 104; refine (l02Priced_any _ s1 s2 s3 R _ Y _ P1.out (HY.out.below B1.out (Nat.le_refl _)) hn hyl _ H2.out).mono ?_; rintro e w2 ⟨rfl, n2, rfl⟩
      go_wp2_with fail
      go_at_call 95; refine (l02Dot_any _ _ R.B Y _ (SL.dn (G2.out.below B1.out (Nat.le_refl _))) (SL.dn (HY.out.below B1.out (Nat.le_refl _))) hb8 HE.out).mono ?_; rintro e w3 ⟨q, n3, rfl, rfl, hq⟩
      have HQ := Lib.hid hq
      clear hq
      go_wp2_with fail
      go_at_call 105; refine (l02Number_any _ _).mono ?_; rintro e w' ⟨rfl, n4, rfl⟩
      go_wp2_with fail
      refine bodyPost_ret (results_tmp2 rfl _ _ _) rfl ?_
      have hcl : ∀ W, Fl.cls .f32 (Fl.ares W .sub .f32 q r) = gapD R X Y := fun W => by rw [Fl.cls_ares, HQ.out, HC.out]; rfl
      exact ⟨_, by rw [← fin_cls (hcl _)]; rfl, numb_cls (hcl _), below_drewN B1.out _⟩
set_option maxHeartbeats 2000000 in
theorem implPriceGap_any (v : Value) (R : Rw) (u : Value) (X : List Nat) (y : Value) (Y : List Nat) (w : World) (hv : RV w v R) (hu : SL w u X) (hy : SL w y Y) (oR : OKR R) (oX : OKF X) (oY : OKF Y) :
    Calls Try.prog 46 #[v, u, y] w (SaysFB (gapC R X Y) (gapB R X Y) w) := by
  have hyl := oY.size
  have HV := Lib.hid hv
  have HU := Lib.hid hu
  have HY := Lib.hid hy
  have HB := Lib.hid (below_alloc w)
  obtain ⟨s1, s2, s3, rfl, g1, g2, g3⟩ := hv
  have F0 := Lib.hid (Box4.mk' w (.int .i64 R.vars) s1 s2 s3 27)
  have G2 := Lib.hid g2
  obtain ⟨ax, cx, rfl⟩ := hu.long
  obtain ⟨ay, cy, rfl⟩ := hy.long
  clear g1 g2 g3 hu hy
  unfold gapC gapB
  cases h1 : gainB R X with
  | false =>
    have H1 := Lib.hid h1
    clear h1
    go_enter Try.func46, Try.ntmps46
    go_wp2_with fail
    go_at_call 97; refine (implGainOf_is _ _ R _ X _ (HV.out.below (HB.out _) (Nat.le_refl _)) (HU.out.below (HB.out _) (Nat.le_refl _)) oR oX H1.out).mono ?_; rintro e w1 ⟨r, rfl, hc, b⟩
    have B1 := Lib.hid ((HB.out _).trans (b.mono (by simp)))
    clear b hc
    go_wp2_with fail
    refine bodyPost_ret (results_tmp2 rfl _ _ _) rfl ?_
    exact ⟨_, rfl, cls_zero, B1.out⟩
  | true =>
    have H1 := Lib.hid h1
    have HGF := Lib.hid (gainC_fin h1)
    have hR : okR R = true := by unfold gainB fitB at h1; simp only [Bool.and_eq_true] at h1; exact h1.1.1
    have hk := (okR_iff R).1 hR
    have hb8 : R.B.length ≤ 256 := by have := hk.b2; omega
    clear h1
    cases h2 : finN (R.B.length : Nat) Y with
    | false =>
      have H2 := Lib.hid h2
      have HPB : Hid (pricedB R Y = false) := Lib.hid (by
        unfold pricedB; unfold finN at h2
        rw [hR, Bool.true_and]
        rw [← h2]; congr 1; exact decide_eq_decide.2 ⟨fun h => by omega, fun h => by omega⟩)
      clear h2 hR hk
      rw [HPB.out]
      go_enter Try.func46, Try.ntmps46
      go_wp2_with fail
      go_at_call 97; refine (implGainOf_is _ _ R _ X _ (HV.out.below (HB.out _) (Nat.le_refl _)) (HU.out.below (HB.out _) (Nat.le_refl _)) oR oX H1.out).mono ?_; rintro e w1 ⟨r, rfl, hc, b⟩
      have B1 := Lib.hid ((HB.out _).trans (b.mono (by simp)))
      have F1 := Lib.hid (F0.out.keep b F0.out.lt)
      clear b hc
      obtain ⟨d0, d1, d2, d3⟩ := F1.out
      go_wp2_with fail
      go_at_call 106; refine (isPriceList_any _ R _ Y _ (HV.out.below B1.out (Nat.le_refl _)) (HY.out.below B1.out (Nat.le_refl _)) hyl _ H2.out).mono ?_; rintro e w2 ⟨rfl, b⟩
      have B2 := Lib.hid (B1.out.trans (b.mono B1.out.size))
      clear b
      go_wp2_with fail
      refine bodyPost_ret (results_tmp2 rfl _ _ _) rfl ?_
      exact ⟨_, rfl, cls_zero, B2.out⟩
    | true =>
      have H2 := Lib.hid h2
      have hl : Y.length = R.B.length ∧ finAll Y = true := by unfold finN at h2; simp only [Bool.and_eq_true, decide_eq_true_eq] at h2; exact ⟨by omega, h2.2⟩
      have HPB : Hid (pricedB R Y = true) := Lib.hid (by unfold pricedB; rw [hR, decide_eq_true hl.1, hl.2]; rfl)
      have HE := Lib.hid hl.1.symm
      clear h2 hR hk hl
      rw [HPB.out]
      cases h3 : finC (dotC R.B Y R.B.length) with
      | false =>
        have H3 := Lib.hid h3
        have HGG : Hid (finC (gapD R X Y) = false) := Lib.hid (by
          cases hh : finC (gapD R X Y) with
          | false => rfl
          | true => have := sub_fin HGF.out hh; rw [h3] at this; cases this)
        rw [HGG.out]
        clear h3
        go_enter Try.func46, Try.ntmps46
        go_wp2_with fail
        go_at_call 97; refine (implGainOf_is _ _ R _ X _ (HV.out.below (HB.out _) (Nat.le_refl _)) (HU.out.below (HB.out _) (Nat.le_refl _)) oR oX H1.out).mono ?_; rintro e w1 ⟨r, rfl, hc, b⟩
        have B1 := Lib.hid ((HB.out _).trans (b.mono (by simp)))
        have F1 := Lib.hid (F0.out.keep b F0.out.lt)
        clear b hc
        obtain ⟨d0, d1, d2, d3⟩ := F1.out
        go_wp2_with fail
        go_at_call 106; refine (isPriceList_any _ R _ Y _ (HV.out.below B1.out (Nat.le_refl _)) (HY.out.below B1.out (Nat.le_refl _)) hyl _ H2.out).mono ?_; rintro e w2 ⟨rfl, b⟩
        have B2 := Lib.hid (B1.out.trans (b.mono B1.out.size))
        have F2 := Lib.hid (F1.out.keep b F1.out.lt)
        clear b d0 d1 d2 d3
        obtain ⟨d0, d1, d2, d3⟩ := F2.out
        go_wp2_with fail
        go_at_call 107; refine (finiteDot_any _ _ R.B Y _ (G2.out.below B2.out (Nat.le_refl _)) (HY.out.below B2.out (Nat.le_refl _)) hb8 HE.out).mono ?_; rw [H3.out]; rintro e w3 ⟨q, rfl, hq, b⟩
        have B3 := Lib.hid (B2.out.trans (b.mono B2.out.size))
        clear b hq
        go_wp2_with fail
        refine bodyPost_ret (results_tmp2 rfl _ _ _) rfl ?_
        exact ⟨_, rfl, cls_zero, B3.out⟩
      | true =>
        have H3 := Lib.hid h3
        clear h3
        go_enter Try.func46, Try.ntmps46
        go_wp2_with fail
        go_at_call 97; refine (implGainOf_is _ _ R _ X _ (HV.out.below (HB.out _) (Nat.le_refl _)) (HU.out.below (HB.out _) (Nat.le_refl _)) oR oX H1.out).mono ?_; rintro e w1 ⟨r, rfl, hc, b⟩
        have B1 := Lib.hid ((HB.out _).trans (b.mono (by simp)))
        have F1 := Lib.hid (F0.out.keep b F0.out.lt)
        have HC := Lib.hid hc
        clear b hc
        obtain ⟨d0, d1, d2, d3⟩ := F1.out
        go_wp2_with fail
        go_at_call 106; refine (isPriceList_any _ R _ Y _ (HV.out.below B1.out (Nat.le_refl _)) (HY.out.below B1.out (Nat.le_refl _)) hyl _ H2.out).mono ?_; rintro e w2 ⟨rfl, b⟩
        have B2 := Lib.hid (B1.out.trans (b.mono B1.out.size))
        have F2 := Lib.hid (F1.out.keep b F1.out.lt)
        clear b d0 d1 d2 d3
        obtain ⟨d0, d1, d2, d3⟩ := F2.out
        go_wp2_with fail
        go_at_call 107; refine (finiteDot_any _ _ R.B Y _ (G2.out.below B2.out (Nat.le_refl _)) (HY.out.below B2.out (Nat.le_refl _)) hb8 HE.out).mono ?_; rw [H3.out]; rintro e w3 ⟨q, rfl, hq, b⟩
        have B3 := Lib.hid (B2.out.trans (b.mono B2.out.size))
        have HQ : Hid (Fl.cls .f32 q = dotC R.B Y R.B.length) := Lib.hid hq
        clear b hq
        go_wp2_with fail
        go_at_call 108; refine (finiteOnly_any _ _).mono ?_; rintro e w' ⟨rfl, n4, rfl⟩
        go_wp2_with fail
        refine bodyPost_ret (results_tmp2 rfl _ _ _) rfl ?_
        have hcl : ∀ W, Fl.cls .f32 (Fl.ares W .sub .f32 q r) = gapD R X Y := fun W => by rw [Fl.cls_ares, HQ.out, HC.out]; rfl
        exact ⟨_, by rw [← fin_cls (hcl _)]; rfl, numb_cls (hcl _), below_drewN B3.out _⟩
end Go.Proofs.Ytdacbkkanhelfab
