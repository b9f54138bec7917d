/- Turns that are not finite, whole, or neither: what the guards say. -/
import Derived.Test.YtimdlnbdnednaacSineB
import Derived.Test.YtimdlnbdnednaacSame
import Derived.Test.YtimdlnbdnednaacAbs
namespace Go.Proofs.Ytimdlnbdnednaac
open Go.RowKit Ieee
attribute [local go_sem] run_add run_sub run_mul run_quo Fl.cls_ares Fl.ord_bits run_neg call_f64bits call_f64from

theorem lit52 : BC (litC 4841369599423283200) ((2 : Rat) ^ 52) ((2 : Rat) ^ 52) := by
  have := lit_bc (b := 4841369599423283200) (by omega)
  rw [show (4841369599423283200 : Nat) = pw 52 by decide, rv_pw] at this
  exact this
theorem litm52 : BC (litC 14064741636278059008) (-((2 : Rat) ^ 52)) (-((2 : Rat) ^ 52)) := by
  have hr : Fl.rg double 14064741636278059008 = pw 52 := by decide
  have hs : Fl.sg double 14064741636278059008 = true := by decide
  have hf : Fl.Fin double 14064741636278059008 := by unfold Fl.Fin; decide
  have hv : Fl.sv double 14064741636278059008 = -((2 : Rat) ^ 52) := by unfold Fl.sv; rw [hs, hr, rv_pw]; rfl
  exact ⟨_, Fl.cls_some (k := .f64) (Fl.fin_nan hf), hf, by rw [hv]; exact Rat.le_refl, by rw [hv]; exact Rat.le_refl⟩

theorem cls_fin {x : Nat} (hf : Fl.Fin double x) : BC (Fl.cls .f64 x) (Fl.sv double x) (Fl.sv double x) :=
  ⟨x, Fl.cls_some (k := .f64) (Fl.fin_nan hf), hf, Rat.le_refl, Rat.le_refl⟩
theorem abs_fin {x : Nat} (hf : Fl.Fin double x) : BC (Fl.cls .f64 (absB x)) (Fl.rv double (Fl.rg double x)) (Fl.rv double (Fl.rg double x)) := by
  have h2 : Fl.Fin double (absB x) := by unfold Fl.Fin at *; rw [absB_rg]; exact hf
  have hv : Fl.sv double (absB x) = Fl.rv double (Fl.rg double x) := by unfold Fl.sv; rw [absB_sg, absB_rg]; rfl
  have := cls_fin h2
  rw [hv] at this
  exact this
/-- Whole turns. -/
def whole (x : Nat) : Bool := geC (Fl.cls .f64 (absB x)) (litC 4841369599423283200)
theorem whole_iff {x : Nat} (hf : Fl.Fin double x) : (whole x = true → (2 : Rat) ^ 52 ≤ Fl.rv double (Fl.rg double x)) ∧ (whole x = false → Fl.rv double (Fl.rg double x) ≤ (2 : Rat) ^ 52 ∧ ¬ (2 : Rat) ^ 52 ≤ Fl.rv double (Fl.rg double x)) := by
  have hb := abs_fin hf
  obtain ⟨a, ha, fa, a1, a2⟩ := hb
  obtain ⟨b, hb, fb, b1, b2⟩ := lit52
  have ho := Fl.order_fin fa fb
  have e : whole x = (double.order a b == some .gt || double.order a b == some .eq) := by unfold whole; rw [ha, hb]; rfl
  rw [e]
  constructor
  · intro h
    simp only [Bool.or_eq_true, beq_iff_eq] at h
    rcases h with h | h
    · have := ho.2.2.1 h; grind
    · have := ho.2.1.1 h; grind
  · intro h
    simp only [Bool.or_eq_false_iff, beq_eq_false_iff_ne] at h
    have h1 : ¬ Fl.sv double b < Fl.sv double a := fun hc => h.1 (ho.2.2.2 hc)
    have h2 : ¬ Fl.sv double a = Fl.sv double b := fun hc => h.2 (ho.2.1.2 hc)
    constructor <;> grind

theorem self_zero {x : Nat} (hf : Fl.Fin double x) : (Fl.ordC .f64 (Fl.arC .sub .f64 (Fl.cls .f64 x) (Fl.cls .f64 x)) (Fl.cls .f64 0) != some Ordering.eq) = false := by
  obtain ⟨r, hr, near⟩ := Fl.sub_near hf hf
  have hc : Fl.cls .f64 x = some x := Fl.cls_some (k := .f64) (Fl.fin_nan hf)
  rw [Rat.sub_self] at near
  have b := near.bound 0 (by decide) (by rw [Fl.rv_zero]; decide) (by rw [Fl.rv_zero]; decide)
  rw [Fl.rv_zero] at b
  obtain ⟨z, hz, fz, z1, z2⟩ := lit_zero
  have e : Fl.arC .sub .f64 (Fl.cls .f64 x) (Fl.cls .f64 x) = some r := by rw [hc]; exact hr
  have e0 : Fl.cls .f64 0 = some z := hz
  rw [e, e0]
  have := (Fl.order_fin b.1 fz).2.1.2 (by grind)
  show (double.order r z != some .eq) = false
  rw [this]; rfl
theorem self_none {C : Option Nat} (h : Fl.arC .sub .f64 C C = none) : (Fl.ordC .f64 (Fl.arC .sub .f64 C C) (Fl.cls .f64 0) != some Ordering.eq) = true := by
  rw [h]; rfl
theorem sub_not_fin {x : Nat} (h : ¬ Fl.Fin double x) : Fl.arC .sub .f64 (Fl.cls .f64 x) (Fl.cls .f64 x) = none := by
  rcases Fl.read_cases Fl.double_ok x with h1 | h1 | h1
  · exact (h h1).elim
  · have hc : Fl.cls .f64 x = some x := Fl.cls_some (k := .f64) (by show (double.read x).isNaN = false; rw [h1]; rfl)
    rw [hc]
    show double.sub x x = none
    unfold Format.sub
    rw [h1]
    cases Fl.sg double x <;> rfl
  · rw [Fl.cls_none (k := .f64) h1]; rfl

theorem small_of {x : Nat} (hf : Fl.Fin double x) (hw : whole x = false) : Small x := by
  have hb := (whole_iff hf).2 hw
  have hn := Fl.rv_nonneg double (Fl.rg double x)
  obtain ⟨b, hb1, fb, b1, b2⟩ := lit52
  obtain ⟨c, hc1, fc, c1, c2⟩ := litm52
  have hc : Fl.cls .f64 x = some x := Fl.cls_some (k := .f64) (Fl.fin_nan hf)
  have e1 : Fl.cls .f64 4841369599423283200 = some b := hb1
  have e2 : Fl.cls .f64 14064741636278059008 = some c := hc1
  have hv : Fl.sv double x < (2 : Rat) ^ 52 ∧ -((2 : Rat) ^ 52) < Fl.sv double x := by
    have h1 := Rat.not_le.1 hb.2
    unfold Fl.sv
    split <;> constructor <;> grind
  refine ⟨self_zero hf, ?_, ?_, (trunc_facts hf hb.1).1⟩
  · rw [hc, e1]
    show (double.order x b == some .gt || double.order x b == some .eq) = false
    rw [(Fl.order_fin hf fb).1.2 (by grind)]; rfl
  · rw [hc, e2]
    show (double.order x c == some .lt || double.order x c == some .eq) = false
    rw [(Fl.order_fin hf fc).2.2.2 (by grind)]; rfl
theorem partC_of_small {x : Nat} (hf : Fl.Fin double x) (hw : whole x = false) : BC (partC x) 0 1 := partC_bc hf ((whole_iff hf).2 hw).1

theorem nan_bits : (double.read 9221120237041090561).isNaN = true := by decide
theorem nanC : Fl.cls .f64 9221120237041090561 = none := Fl.cls_none (k := .f64) nan_bits

/-- The model's sine of turns that are not finite. -/
theorem l01SineWide_nan (x : Nat) (h : ¬ Fl.Fin double x) (w : World) : Calls Try.prog 62 #[.float .f64 x] w (Ans64 none w) := by
  have hs := self_none (sub_not_fin h)
  clear h
  go_enter Try.func62, Try.ntmps62
  go_wp2
  refine bodyPost_ret (results_tmp rfl _ _ _) rfl ?_
  exact ⟨_, _, rfl, rfl, nanC⟩
/-- .. of whole turns. -/
theorem l01SineWide_whole (x : Nat) (hf : Fl.Fin double x) (hw : whole x = true) (w : World) : Calls Try.prog 62 #[.float .f64 x] w fun e w' => e = .returned (.float .f64 0) ∧ ∃ n, w' = w.drewN n := by
  have hs := self_zero hf
  have hb := (whole_iff hf).1 hw
  obtain ⟨b, hb1, fb, b1, b2⟩ := lit52
  obtain ⟨c, hc1, fc, c1, c2⟩ := litm52
  have hc : Fl.cls .f64 x = some x := Fl.cls_some (k := .f64) (Fl.fin_nan hf)
  have e1 : Fl.cls .f64 4841369599423283200 = some b := hb1
  have e2 : Fl.cls .f64 14064741636278059008 = some c := hc1
  cases hsg : Fl.sg double x with
  | false =>
    have hu : (Fl.ordC .f64 (Fl.cls .f64 x) (Fl.cls .f64 4841369599423283200) == some Ordering.gt || Fl.ordC .f64 (Fl.cls .f64 x) (Fl.cls .f64 4841369599423283200) == some Ordering.eq) = true := by
      rw [hc, e1]
      show (double.order x b == some .gt || double.order x b == some .eq) = true
      have hv : Fl.sv double x = Fl.rv double (Fl.rg double x) := by unfold Fl.sv; rw [hsg]; rfl
      by_cases heq : Fl.sv double x = Fl.sv double b
      · rw [(Fl.order_fin hf fb).2.1.2 heq]; rfl
      · rw [(Fl.order_fin hf fb).2.2.2 (by grind)]; rfl
    clear hc e1 e2 hb1 hc1 hf hw hb
    go_enter Try.func62, Try.ntmps62
    go_wp2
    go_ret
    exact ⟨rfl, _, rfl⟩
  | true =>
    have hv : Fl.sv double x = -(Fl.rv double (Fl.rg double x)) := by unfold Fl.sv; rw [hsg]; rfl
    have hlt : Fl.sv double x < Fl.sv double b := by
      have : (0 : Rat) < (2 : Rat) ^ 52 := Rat.pow_pos (by decide)
      grind
    have hu : (Fl.ordC .f64 (Fl.cls .f64 x) (Fl.cls .f64 4841369599423283200) == some Ordering.gt || Fl.ordC .f64 (Fl.cls .f64 x) (Fl.cls .f64 4841369599423283200) == some Ordering.eq) = false := by
      rw [hc, e1]
      show (double.order x b == some .gt || double.order x b == some .eq) = false
      rw [(Fl.order_fin hf fb).1.2 hlt]; rfl
    have hd : (Fl.ordC .f64 (Fl.cls .f64 x) (Fl.cls .f64 14064741636278059008) == some Ordering.lt || Fl.ordC .f64 (Fl.cls .f64 x) (Fl.cls .f64 14064741636278059008) == some Ordering.eq) = true := by
      rw [hc, e2]
      show (double.order x c == some .lt || double.order x c == some .eq) = true
      by_cases heq : Fl.sv double x = Fl.sv double c
      · rw [(Fl.order_fin hf fc).2.1.2 heq]; rfl
      · rw [(Fl.order_fin hf fc).1.2 (by grind)]; rfl
    clear hc e1 e2 hb1 hc1 hf hw hb hlt hv
    go_enter Try.func62, Try.ntmps62
    go_wp2
    go_ret
    exact ⟨rfl, _, rfl⟩
theorem isWhole_any (x : Nat) (hx : x < 18446744073709551616) (w : World) : Calls Try.prog 40 #[.float .f64 x] w fun e w' => e = .returned (.bool (whole x)) ∧ w = w' := by
  go_enter Try.func40, Try.ntmps40
  go_wp2_with (go_at_call 51; refine (abs_any _ hx _).mono ?_; rintro e w' ⟨rfl, rfl⟩)
  go_ret
  exact ⟨rfl, rfl⟩

/-- A class within a single's bounds: narrowing it is no draw. -/
theorem rv_single_p100 : Fl.rv single 1904214016 = (2 : Rat) ^ 100 := by
  rw [show (1904214016 : Nat) = 226 * single.binade + 8388608 by decide, Fl.rv_of single (by decide) (by decide)]
  have : Fl.qv 8388608 (single.leastPlace + ((226 : Nat) : Int)) = Fl.qv 1 100 := by
    apply Rat.le_antisymm <;> (rw [Fl.qv_le]; decide)
  rw [this]; decide +kernel
theorem ovf_pc {r : Nat} {C : Option Nat} {j : Nat} (h : Fl.cls .f64 r = C) (hp : PC C j) (hj : j ≤ 100) : Fl.ovf r = false := by
  obtain ⟨x, rfl, f, a, b⟩ := hp
  have e : r = x := by
    unfold Fl.cls at h; split at h
    · cases h
    · injection h
  subst e
  have h1 := pow_le hj
  exact Fl.ovf_of (R := 1904214016) f (by decide) (by rw [rv_single_p100]; grind) (by rw [rv_single_p100]; grind)
theorem ovfC_nan {r : Nat} (h : Fl.cls .f64 r = none) : Fl.ovf r = false := by
  have hn : (double.read r).isNaN = true := by
    unfold Fl.cls at h; split at h
    · assumption
    · cases h
  unfold Fl.ovf
  cases hc : double.read r with
  | nan s t => rfl
  | number s m e => rw [hc] at hn; cases hn
  | infinity s => rfl
end Go.Proofs.Ytimdlnbdnednaac
