/- AngleTurns answers as its model, for all two numbers. -/
import Derived.Test.YtimdlnbdnednaacAngleB
import Derived.Test.YtimdlnbdnednaacFrame
import Derived.ProofKit
namespace Go.Proofs.Ytimdlnbdnednaac
open Go.ChangeShapes Go.WideShapes Go.ChangeAt Go.RowKit Go.ChangeMaps
attribute [local go_sem] run_sub run_quo run_neg Fl.cls_ares Fl.ord_bits Fl.run_widen Fl.run_narrow call_f64from

def Ans32 (C : Option Nat) (w : World) (e : Ending) (w' : World) : Prop := ∃ r n, e = .returned (.float .f32 r) ∧ w' = w.drewN n ∧ Fl.cls .f32 r = C
theorem not_wide {x : Nat} (h : ¬ Fl.Fin Ieee.single x) (w : World) : ¬ Fl.Fin Ieee.double (Fl.wres w x) := by
  intro hf
  rcases Fl.read_cases Fl.single_ok x with h1 | h1 | h1
  · exact h h1
  · have e : Fl.wres w x = Ieee.double.write (.infinity (Fl.sg Ieee.single x)) := by unfold Fl.wres; rw [h1]; rfl
    rw [e] at hf
    have h2 := Fl.fin_inf hf
    have h3 : Ieee.double.read (Ieee.double.write (.infinity (Fl.sg Ieee.single x))) = .infinity (Fl.sg Ieee.single x) := by cases Fl.sg Ieee.single x <;> decide
    rw [h3] at h2; cases h2
  · have hc := Fl.cls_wres w x
    rw [Fl.cls_none (k := .f32) h1] at hc
    have h2 := Fl.fin_nan hf
    rw [Fl.cls_some (k := .f64) h2] at hc; cases hc
theorem fin64_not {y : Nat} (h : ¬ Fl.Fin Ieee.double y) : fin64 y = false := by
  unfold fin64; unfold Fl.Fin at h; rw [Fl.double_inf] at h; simpa using h
theorem fin64_yes {y : Nat} (h : Fl.Fin Ieee.double y) : fin64 y = true := by
  unfold fin64; unfold Fl.Fin at h; rw [Fl.double_inf] at h; simpa using h
theorem wide_one {x : Nat} (h : Fl.Fin Ieee.single x) : (∀ w, Fl.wres w x = Ieee.double.write (Ieee.single.read x)) ∧ Fl.wdr x = 0 := by
  have hn := Fl.fin_nan h
  refine ⟨fun w => ?_, ?_⟩
  · unfold Fl.wres; rw [hn]; rfl
  · unfold Fl.wdr; rw [hn]; rfl
theorem nres_zero (w : World) : Fl.cls .f32 (Fl.nres w 0) = some 0 := by
  rw [Fl.cls_nres w (by decide +kernel), show Fl.cls .f64 0 = some 0 by decide]; decide +kernel
theorem nres_nan (w : World) {r : Nat} (h : Fl.cls .f64 r = none) : Fl.cls .f32 (Fl.nres w r) = none := by
  rw [Fl.cls_nres w (ovfC_nan h), h]; rfl
theorem nres_pc (w : World) {r : Nat} {C : Option Nat} {j : Nat} (h : Fl.cls .f64 r = C) (hp : PC C j) (hj : j ≤ 100) : Fl.cls .f32 (Fl.nres w r) = Fl.narrowC C := by
  rw [Fl.cls_nres w (ovf_pc h hp hj), h]

/-- The double of a finite single. -/
def wd (x : Nat) : Nat := Ieee.double.write (Ieee.single.read x)
theorem order_wide {x : Nat} (h : Fl.Fin Ieee.single x) : Fl.ordC .f32 (Fl.cls .f32 x) (Fl.cls .f32 0) = Fl.ordC .f64 (Fl.cls .f64 (wd x)) (Fl.cls .f64 0) := by
  obtain ⟨f2, v2⟩ := Fl.wide_fin h
  have z1 : Fl.Fin Ieee.single 0 := by unfold Fl.Fin; decide
  have z2 : Fl.Fin Ieee.double 0 := by unfold Fl.Fin; decide
  have s1 : Fl.sv Ieee.single 0 = 0 := by unfold Fl.sv; rw [show Fl.sg Ieee.single 0 = false by decide, show Fl.rg Ieee.single 0 = 0 by decide, Fl.rv_zero]; rfl
  have s2 : Fl.sv Ieee.double 0 = 0 := by unfold Fl.sv; rw [show Fl.sg Ieee.double 0 = false by decide, show Fl.rg Ieee.double 0 = 0 by decide, Fl.rv_zero]; rfl
  rw [← Fl.ord_bits, ← Fl.ord_bits]
  show Ieee.single.order x 0 = Ieee.double.order (wd x) 0
  have o1 := Fl.order_fin h z1
  have o2 := Fl.order_fin f2 z2
  rw [s1] at o1
  rw [s2, v2] at o2
  rcases (by grind : Fl.sv Ieee.single x < 0 ∨ Fl.sv Ieee.single x = 0 ∨ 0 < Fl.sv Ieee.single x) with hc | hc | hc
  · rw [o1.1.2 hc]; exact (o2.1.2 hc).symm
  · rw [o1.2.1.2 hc]; exact (o2.2.1.2 hc).symm
  · rw [o1.2.2.2 hc]; exact (o2.2.2.2 hc).symm

theorem eq_zero_iff {x : Nat} (h : Fl.Fin Ieee.double x) : (Fl.ordC .f64 (Fl.cls .f64 x) (Fl.cls .f64 0) == some Ordering.eq) = false → 0 < Fl.sv Ieee.double (absB x) := by
  intro h1
  have z2 : Fl.Fin Ieee.double 0 := by unfold Fl.Fin; decide
  have s2 : Fl.sv Ieee.double 0 = 0 := by unfold Fl.sv; rw [show Fl.sg Ieee.double 0 = false by decide, show Fl.rg Ieee.double 0 = 0 by decide, Fl.rv_zero]; rfl
  rw [← Fl.ord_bits] at h1
  have o := Fl.order_fin h z2
  have hne : Fl.sv Ieee.double x ≠ 0 := by
    intro hc
    have : Ieee.double.order x 0 = some .eq := o.2.1.2 (by rw [s2]; exact hc)
    have h2 : (Ieee.double.order x 0 == some Ordering.eq) = false := h1
    rw [this] at h2; cases h2
  have hn := Fl.rv_nonneg Ieee.double (Fl.rg Ieee.double x)
  have hv : Fl.sv Ieee.double (absB x) = Fl.rv Ieee.double (Fl.rg Ieee.double x) := by unfold Fl.sv; rw [absB_sg, absB_rg]; rfl
  rw [hv]
  unfold Fl.sv at hne
  split at hne <;> grind

theorem ratio_pc {y x : Nat} (fy : Fl.Fin Ieee.double y) (fx : Fl.Fin Ieee.double x) {zx zy s xn yn : Bool} (hp : Point y x zx zy s xn yn) (hz : (zx && zy) = false) : PC (ratioC s y x) 1 := by
  have ay : Fl.Fin Ieee.double (absB y) := by unfold Fl.Fin at *; rw [absB_rg]; exact fy
  have ax : Fl.Fin Ieee.double (absB x) := by unfold Fl.Fin at *; rw [absB_rg]; exact fx
  have vy : 0 ≤ Fl.sv Ieee.double (absB y) := by unfold Fl.sv; rw [absB_sg]; exact Fl.rv_nonneg _ _
  have vx : 0 ≤ Fl.sv Ieee.double (absB x) := by unfold Fl.sv; rw [absB_sg]; exact Fl.rv_nonneg _ _
  have hs := hp.steep
  rw [← Fl.ord_bits] at hs
  have o := Fl.order_fin ay ax
  unfold ratioC
  cases s with
  | true =>
    have h1 : Ieee.double.order (absB y) (absB x) = some .gt := eq_of_beq hs
    have h2 := o.2.2.1 h1
    exact quo_small ax ay vx (Rat.le_of_lt h2) (by grind)
  | false =>
    have h2 : Fl.sv Ieee.double (absB y) ≤ Fl.sv Ieee.double (absB x) := by
      apply Rat.not_lt.1
      intro hc
      have h3 : (Ieee.double.order (absB y) (absB x) == some Ordering.gt) = false := hs
      rw [o.2.2.2 hc] at h3; cases h3
    have hpos : 0 < Fl.sv Ieee.double (absB x) := by
      cases zx with
      | false => exact eq_zero_iff fx hp.zerox
      | true =>
        cases zy with
        | true => cases hz
        | false => have := eq_zero_iff fy hp.zeroy; grind
    exact quo_small ay ax vy h2 hpos

theorem wd_lt {x : Nat} (h : Fl.Fin Ieee.single x) : wd x < 18446744073709551616 := by have := wres_lt default x; rw [(wide_one h).1] at this; exact this
def zB (x : Nat) : Bool := Fl.ordC .f64 (Fl.cls .f64 (wd x)) (Fl.cls .f64 0) == some Ordering.eq
def nB (x : Nat) : Bool := Fl.ordC .f64 (Fl.cls .f64 (wd x)) (Fl.cls .f64 0) == some Ordering.lt
def sB (y x : Nat) : Bool := Fl.ordC .f64 (Fl.cls .f64 (absB (wd y))) (Fl.cls .f64 (absB (wd x))) == some Ordering.gt
def angC (y x : Nat) : Option Nat := endC (sB y x) (nB x) (nB y) (shC (ratioC (sB y x) (wd y) (wd x)))
theorem point_of {y x : Nat} (fy : Fl.Fin Ieee.single y) (fx : Fl.Fin Ieee.single x) : Point (wd y) (wd x) (zB x) (zB y) (sB y x) (nB x) (nB y) :=
  ⟨self_zero (Fl.wide_fin fy).1, self_zero (Fl.wide_fin fx).1, rfl, rfl, rfl, rfl, rfl⟩
theorem angC_pc {y x : Nat} (fy : Fl.Fin Ieee.single y) (fx : Fl.Fin Ieee.single x) (hz : (zB x && zB y) = false) : PC (angC y x) 82 :=
  endC_pc (shC_pc (ratio_pc (Fl.wide_fin fy).1 (Fl.wide_fin fx).1 (point_of fy fx) hz)) _ _ _

/-- The model's angle: where a coordinate is not finite; of two zeros. -/
theorem l01Angle_nan (y x : Nat) (h : ¬ (Fl.Fin Ieee.double y ∧ Fl.Fin Ieee.double x)) (w : World) : Calls Try.prog 71 #[.float .f64 y, .float .f64 x] w (Ans64 none w) := by
  by_cases hy : Fl.Fin Ieee.double y
  · have hx : ¬ Fl.Fin Ieee.double x := fun hx => h ⟨hy, hx⟩
    have h1 := self_zero hy
    have h2 := self_none (sub_not_fin hx)
    clear h hy hx
    go_enter Try.func71, Try.ntmps71
    go_wp2
    refine bodyPost_ret (results_tmp rfl _ _ _) rfl ?_
    exact ⟨_, _, rfl, rfl, nanC⟩
  · have h1 := self_none (sub_not_fin hy)
    clear h hy
    go_enter Try.func71, Try.ntmps71
    go_wp2
    refine bodyPost_ret (results_tmp rfl _ _ _) rfl ?_
    exact ⟨_, _, rfl, rfl, nanC⟩
theorem l01Angle_zero (y x : Nat) {s xn yn : Bool} (hp : Point y x true true s xn yn) (w : World) : Calls Try.prog 71 #[.float .f64 y, .float .f64 x] w fun e w' => e = .returned (.float .f64 0) ∧ ∃ n, w' = w.drewN n := by
  obtain ⟨h1, h2, h3, h4, _, _, _⟩ := hp
  go_enter Try.func71, Try.ntmps71
  go_wp2
  go_ret
  exact ⟨rfl, _, rfl⟩
theorem specAngle_nan (y x : Nat) (h : ¬ (Fl.Fin Ieee.single y ∧ Fl.Fin Ieee.single x)) (w : World) : Calls Try.prog 50 #[.float .f32 y, .float .f32 x] w (Ans32 none w) := by
  have hh : ∀ W W', ¬ (Fl.Fin Ieee.double (Fl.wres W y) ∧ Fl.Fin Ieee.double (Fl.wres W' x)) := by
    intro W W' hc
    by_cases hy : Fl.Fin Ieee.single y
    · exact not_wide (fun hx => h ⟨hy, hx⟩) W' hc.2
    · exact not_wide hy W hc.1
  have H := Lib.hid hh
  clear h hh
  go_enter Try.func50, Try.ntmps50
  go_wp2_with (first | (go_at_call 71; refine (l01Angle_nan _ _ (H.out _ _) _).mono ?_; rintro e w' ⟨r, n, rfl, rfl, hc⟩; have HC := Lib.hid hc; clear hc) | (go_at_call 63; go_in))
  refine bodyPost_ret (results_tmp rfl _ _ _) rfl ?_
  exact ⟨_, _, rfl, rfl, nres_nan _ (Hid.out (by assumption))⟩
theorem specAngle_zero (y x : Nat) (fy : Fl.Fin Ieee.single y) (fx : Fl.Fin Ieee.single x) (hz : zB x = true ∧ zB y = true) (w : World) : Calls Try.prog 50 #[.float .f32 y, .float .f32 x] w (Ans32 (some 0) w) := by
  obtain ⟨h1, h2⟩ := wide_one fy
  obtain ⟨h3, h4⟩ := wide_one fx
  have hp := point_of fy fx
  rw [hz.1, hz.2] at hp
  have HP := Lib.hid hp
  clear fy fx hp hz
  go_enter Try.func50, Try.ntmps50
  go_wp2_with (first | (go_at_call 71; refine (l01Angle_zero _ _ HP.out _).mono ?_; rintro e w' ⟨rfl, n, rfl⟩) | (go_at_call 63; go_in))
  refine bodyPost_ret (results_tmp rfl _ _ _) rfl ?_
  exact ⟨_, _, rfl, rfl, nres_zero _⟩
theorem specAngle_part (y x : Nat) (fy : Fl.Fin Ieee.single y) (fx : Fl.Fin Ieee.single x) (hz : (zB x && zB y) = false) (w : World) : Calls Try.prog 50 #[.float .f32 y, .float .f32 x] w (Ans32 (Fl.narrowC (angC y x)) w) := by
  obtain ⟨h1, h2⟩ := wide_one fy
  obtain ⟨h3, h4⟩ := wide_one fx
  have HP := Lib.hid (point_of fy fx)
  have HZ := Lib.hid hz
  have HB := Lib.hid (angC_pc fy fx hz)
  have HL1 := Lib.hid (wd_lt fy)
  have HL2 := Lib.hid (wd_lt fx)
  clear fy fx hz
  go_enter Try.func50, Try.ntmps50
  go_wp2_with (first | (go_at_call 71; refine (l01Angle_any _ _ HL1.out HL2.out HP.out HZ.out _).mono ?_; rintro e w' ⟨r, n, rfl, rfl, hc⟩; have HC := Lib.hid hc; clear hc) | (go_at_call 63; go_in))
  refine bodyPost_ret (results_tmp rfl _ _ _) rfl ?_
  exact ⟨_, _, rfl, rfl, nres_pc _ (Hid.out (by assumption)) HB.out (by decide)⟩

theorem implFinite_any (x : Nat) (w : World) : Calls Try.prog 45 #[.float .f32 x] w fun e w' => e = .returned (.bool (fin64 (Fl.wres w x))) ∧ ∃ n, w' = w.drewN n := by
  go_enter Try.func45, Try.ntmps45
  go_wp2_with (go_at_call 37; refine (isFinite64_any _ (wres_lt _ _) _).mono ?_; rintro e w' ⟨rfl, rfl⟩)
  go_ret
  exact ⟨rfl, _, rfl⟩
theorem finite_yes (x : Nat) (h : Fl.Fin Ieee.single x) (w : World) : Calls Try.prog 45 #[.float .f32 x] w fun e w' => e = .returned (.bool true) ∧ ∃ n, w' = w.drewN n := by
  have hf : fin64 (Fl.wres w x) = true := by rw [(wide_one h).1 w]; exact fin64_yes (Fl.wide_fin h).1
  have := implFinite_any x w
  rw [hf] at this
  exact this
theorem finite_no (x : Nat) (h : ¬ Fl.Fin Ieee.single x) (w : World) : Calls Try.prog 45 #[.float .f32 x] w fun e w' => e = .returned (.bool false) ∧ ∃ n, w' = w.drewN n := by
  have hf := fin64_not (not_wide h w)
  have := implFinite_any x w
  rw [hf] at this
  exact this
theorem implAngle_nan (y x : Nat) (h : ¬ (Fl.Fin Ieee.single y ∧ Fl.Fin Ieee.single x)) (w : World) : Calls Try.prog 21 #[.float .f32 y, .float .f32 x] w (Ans32 none w) := by
  by_cases hx : Fl.Fin Ieee.single x
  · have hy : ¬ Fl.Fin Ieee.single y := fun hy => h ⟨hy, hx⟩
    have H1 := Lib.hid hx
    have H2 := Lib.hid hy
    clear h hx hy
    go_enter Try.func21, Try.ntmps21
    go_wp2_with fail
    go_at_call 45; refine (finite_yes _ H1.out _).mono ?_; rintro e w' ⟨rfl, n, rfl⟩
    go_wp2_with fail
    go_at_call 45; refine (finite_no _ H2.out _).mono ?_; rintro e w' ⟨rfl, n2, rfl⟩
    go_wp2
    refine bodyPost_ret (results_tmp rfl _ _ _) rfl ?_
    exact ⟨_, _, rfl, rfl, nres_nan _ nanC⟩
  · have H1 := Lib.hid hx
    clear h hx
    go_enter Try.func21, Try.ntmps21
    go_wp2_with fail
    go_at_call 45; refine (finite_no _ H1.out _).mono ?_; rintro e w' ⟨rfl, n, rfl⟩
    go_wp2
    refine bodyPost_ret (results_tmp rfl _ _ _) rfl ?_
    exact ⟨_, _, rfl, rfl, nres_nan _ nanC⟩
theorem zb32 {x : Nat} (h : Fl.Fin Ieee.single x) {b : Bool} (hz : zB x = b) : (Fl.ordC .f32 (Fl.cls .f32 x) (Fl.cls .f32 0) == some Ordering.eq) = b := by rw [order_wide h]; exact hz
theorem nb32 {x : Nat} (h : Fl.Fin Ieee.single x) {b : Bool} (hz : nB x = b) : (Fl.ordC .f32 (Fl.cls .f32 x) (Fl.cls .f32 0) == some Ordering.lt) = b := by rw [order_wide h]; exact hz
theorem implAngle_zero (y x : Nat) (fy : Fl.Fin Ieee.single y) (fx : Fl.Fin Ieee.single x) (hz : zB x = true ∧ zB y = true) (w : World) : Calls Try.prog 21 #[.float .f32 y, .float .f32 x] w (Ans32 (some 0) w) := by
  have h1 := zb32 fx hz.1
  have h2 := zb32 fy hz.2
  have H1 := Lib.hid fx
  have H2 := Lib.hid fy
  clear fx fy hz
  go_enter Try.func21, Try.ntmps21
  go_wp2_with fail
  go_at_call 45; refine (finite_yes _ H1.out _).mono ?_; rintro e w' ⟨rfl, n, rfl⟩
  go_wp2_with fail
  go_at_call 45; refine (finite_yes _ H2.out _).mono ?_; rintro e w' ⟨rfl, n2, rfl⟩
  go_wp2
  refine bodyPost_ret (results_tmp rfl _ _ _) rfl ?_
  exact ⟨_, _, rfl, rfl, by decide⟩
set_option maxHeartbeats 8000000 in
theorem implAngle_part (y x : Nat) (fy : Fl.Fin Ieee.single y) (fx : Fl.Fin Ieee.single x) (hz : (zB x && zB y) = false) (w : World) : Calls Try.prog 21 #[.float .f32 y, .float .f32 x] w (Ans32 (Fl.narrowC (angC y x)) w) := by
  obtain ⟨g1, g2⟩ := wide_one fy
  obtain ⟨g3, g4⟩ := wide_one fx
  rw [show Ieee.double.write (Ieee.single.read y) = wd y from rfl] at g1
  rw [show Ieee.double.write (Ieee.single.read x) = wd x from rfl] at g3
  have HB := Lib.hid (angC_pc fy fx hz)
  have HL1 := Lib.hid (wd_lt fy)
  have HL2 := Lib.hid (wd_lt fx)
  unfold angC at *
  cases a1 : zB x <;> cases a2 : zB y <;> (first | (exfalso; rw [a1, a2] at hz; cases hz; done) | skip) <;> cases a3 : sB y x <;> cases a4 : nB x <;> cases a5 : nB y
  all_goals
    have h1 := zb32 fx a1
    have h2 := zb32 fy a2
    have h4 := nb32 fx a4
    have h5 := nb32 fy a5
    have H1 := Lib.hid fx
    have H2 := Lib.hid fy
    rw [a3, a4, a5] at HB
    unfold sB at a3
    clear fx fy hz a1 a2 a4 a5
    go_enter Try.func21, Try.ntmps21
    go_wp2_with fail
    go_at_call 45; refine (finite_yes _ H1.out _).mono ?_; rintro e w' ⟨rfl, n, rfl⟩
    go_wp2_with fail
    go_at_call 45; refine (finite_yes _ H2.out _).mono ?_; rintro e w' ⟨rfl, n2, rfl⟩
    go_wp2_with (first | (go_at_call 51; refine (abs_any _ (by first | exact HL1.out | exact HL2.out) _).mono ?_; rintro e w' ⟨rfl, rfl⟩) | (go_at_call 52; refine (shallow_any _ _ rfl _).mono ?_; rintro e w' ⟨r, n3, rfl, rfl, hc⟩; rw [Fl.cls_ares] at hc; have HC := Lib.hid hc; clear hc) | (go_at_call 49; go_in))
    refine bodyPost_ret (results_tmp rfl _ _ _) rfl ?_
    refine ⟨_, _, rfl, rfl, nres_pc _ ?_ HB.out (by decide)⟩
    simp only [cls_neg, Fl.cls_ares, Hid.out (by assumption : Hid (Fl.cls .f64 _ = _))]
    rfl
theorem angle_same (y x : Nat) : ∃ C, (∀ w, Calls Try.prog 50 #[.float .f32 y, .float .f32 x] w (Ans32 C w)) ∧ (∀ w, Calls Try.prog 21 #[.float .f32 y, .float .f32 x] w (Ans32 C w)) := by
  by_cases h : Fl.Fin Ieee.single y ∧ Fl.Fin Ieee.single x
  · cases hz : zB x && zB y with
    | true =>
      have hz2 : zB x = true ∧ zB y = true := by simpa using hz
      exact ⟨_, specAngle_zero y x h.1 h.2 hz2, implAngle_zero y x h.1 h.2 hz2⟩
    | false => exact ⟨_, specAngle_part y x h.1 h.2 hz, implAngle_part y x h.1 h.2 hz⟩
  · exact ⟨_, specAngle_nan y x h, implAngle_nan y x h⟩
theorem fnExactAngleTurns_any (y x : Nat) (w : World) :
    Calls Try.prog 6 #[.float .f32 y, .float .f32 x] w fun e w' => e = .returned (.bool true) ∧ Below w.heap.size w w' := by
  obtain ⟨C, hs, hi⟩ := angle_same y x
  have HS := Lib.hid hs
  have HI := Lib.hid hi
  clear hs hi
  go_enter Try.func6, Try.ntmps6
  go_wp2_with (go_at_call 20; go_in)
  go_at_call 50; refine (HS.out _).mono ?_; rintro e w' ⟨r, n, rfl, rfl, hc⟩; have HC := Lib.hid hc; clear hc
  go_wp2_with fail
  go_at_call 21; refine (HI.out _).mono ?_; rintro e w' ⟨r2, n2, rfl, rfl, hc⟩; have HC2 := Lib.hid hc; clear hc
  go_wp2_with (go_at_call 19; refine (same_any _ _ (by rw [Fl.cls_wres, Fl.cls_wres, HC.out, HC2.out]) _).mono ?_; rintro e w' ⟨rfl, n, rfl⟩)
  go_ret
  exact ⟨rfl, below_drewN (Below.refl _ _) _⟩

theorem Try.own : ownKnob Try.prog.godebug = none := by kernel_rfl
theorem Try.laidOut : laidOutB Try.prog = true := by kernel_rfl
theorem f32_lt {x : Nat} (h : (Lit.float .f32 x).wf = true) : x < 4294967296 := by simpa [Lit.wf] using h
theorem f64_lt {x : Nat} (h : (Lit.float .f64 x).wf = true) : x < 18446744073709551616 := by simpa [Lit.wf] using h
theorem i64_in {x : Int} (h : (Lit.int .i64 x).wf = true) : -9223372036854775808 ≤ x ∧ x ≤ 9223372036854775807 := by
  have h1 : IntKind.i64.min = -9223372036854775808 := by decide
  have h2 : IntKind.i64.max = 9223372036854775807 := by decide
  simp only [Lit.wf, Bool.and_eq_true, decide_eq_true_eq, h1, h2] at h
  exact h

set_option maxRecDepth 100000 in
theorem fnExactAngleTurns_lifted (os : Os) (started : os.Started) (H : Type) (enc : TypeId × Value → H) :
    ReturnsInHanded {} Try.checked os 6 .any (Rows.fnExactAngleTurnsSpec.pre6 enc Try.prog Try.f6 [] false) (Rows.fnExactAngleTurnsSpec.post enc Try.prog Try.f6 false true false false) := by
  refine Frame.law_lifted (tb := 4) Try.own started (by kernel_rfl) Try.func6
    (ChangeSpec.witness6 (enc := enc) (C := Try.checked) false ⟨#[], #[.float .f32 0, .float .f32 0], []⟩ 8 (by kernel_rfl) (by kernel_rfl) (by kernel_rfl) (by kernel_rfl))
    Try.laidOut (by kernel_rfl) rfl (by kernel_rfl) Try.underlying4 (fun ds hd => ?_) ?_
  · rw [Try.params6] at hd
    match ds, hd with
    | [_, _], _ => exact ⟨rfl, rfl, rfl⟩
  intro W base args ds p hval0 hA0 hlt hsz0
  have hval : ∀ (j : Nat) t v, Try.f6.params[j]? = some t → args[j]? = some v → Value.okWide Try.prog W .any base t v := hval0
  have hA : DataW.TrodAll enc Try.prog W 0 (fun _ => true) true Try.f6.params.toList args.toList ds p := hA0
  have hsz : (DataW.weightsEach Try.prog Try.f6.params.toList ds).all (· ≤ reachBytes) = true := hsz0
  rw [Try.params6] at hA hval hsz
  clear hval0 hA0 hsz0
  obtain ⟨v0, v1, d0, d1, p0, p1, rfl, rfl, rfl, h0, h1⟩ := trodAll_two hA
  obtain ⟨a0, rfl, rfl, rfl, w0⟩ := open_float Try.underlying28 (hval 0 28 v0 rfl rfl) h0
  have b0 := f32_lt w0
  obtain ⟨a1, rfl, rfl, rfl, w1⟩ := open_float Try.underlying28 (hval 1 28 v1 rfl rfl) h1
  have b1 := f32_lt w1
  exact fnExactAngleTurns_any a0 a1 W

theorem fnExactAngleTurns_holds : Rows.FnExactAngleTurnsSaid :=
  OpenClaim.holds_of_wide 6 Try.f6 rfl rfl rfl rfl rfl rfl rfl ⟨rfl, rfl, rfl, rfl, rfl⟩ rfl rfl rfl rfl rfl (by kernel_rfl) Try.func6 (by kernel_rfl)
    (of_decide_eq_true (by kernel_rfl)) (by unfold Func.isWrapper; first | (rw [if_pos (by decide +kernel)]; kernel_rfl) | (rw [if_neg (by decide +kernel)]; exact ⟨rfl, rfl⟩))
    (fun os started H enc _ => fnExactAngleTurns_lifted os started H enc)
end Go.Proofs.Ytimdlnbdnednaac
