/- Is a single finite? Both sides' functions say so. -/
import Derived.Test.YtajekehidofkiaaAbs
namespace Go.Proofs.Ytajekehidofkiaa
open Go.RowKit
attribute [local go_sem] run_sub Fl.run_widen

/-- Is a single finite? -/
def fin32 (x : Nat) : Bool := decide (Fl.rg Ieee.single x < 2139095040)
theorem sub_self_eq (w : World) (x : Nat) : (FloatKind.f32.format.order (Fl.ares w .sub .f32 x x) 0 == some Ordering.eq) = fin32 x := by
  show (Ieee.single.order (Fl.ares w .sub .f32 x x) 0 == some Ordering.eq) = fin32 x
  have h0 : Fl.Fin Ieee.single 0 := by unfold Fl.Fin; decide
  have hz : Fl.sv Ieee.single 0 = 0 := by
    unfold Fl.sv
    rw [show Fl.sg Ieee.single 0 = false by decide, show Fl.rg Ieee.single 0 = 0 by decide, Fl.rv_zero]; rfl
  unfold fin32
  rcases Fl.read_cases Fl.single_ok x with h | h | h
  · obtain ⟨r, hr, near⟩ := Fl.sub_near h h
    have e : Fl.ares w .sub .f32 x x = r := by
      unfold Fl.ares
      rw [show floatBits .sub .f32 x x = some r from hr]
    rw [Rat.sub_self] at near
    have b := near.bound 0 (by decide) (by rw [Fl.rv_zero]; decide) (by rw [Fl.rv_zero]; decide)
    rw [Fl.rv_zero] at b
    have he : Fl.sv Ieee.single r = Fl.sv Ieee.single 0 := by rw [hz]; grind
    rw [e, (Fl.order_fin b.1 h0).2.1.2 he]
    unfold Fl.Fin at h
    rw [Fl.single_inf] at h
    simp [h]
  · have hn : floatBits .sub .f32 x x = none := by
      show Ieee.single.sub x x = none
      unfold Ieee.Format.sub
      rw [h]
      cases Fl.sg Ieee.single x <;> rfl
    have hc := Fl.nanAt_bits w .f32 x x
    have e : Fl.ares w .sub .f32 x x = Fl.nanAt w (.nanBits .f32 x x) := by unfold Fl.ares; rw [hn]
    rw [e, show Ieee.single.order = FloatKind.f32.format.order from rfl, Fl.ord_bits, hc]
    have : ¬ Fl.rg Ieee.single x < 2139095040 := by
      intro hl
      have := Fl.fin_inf (f := Ieee.single) (b := x) (by unfold Fl.Fin; rw [Fl.single_inf]; exact hl)
      rw [h] at this; cases this
    simp [this, Fl.ordC]
  · have hn : floatBits .sub .f32 x x = none := by
      cases hb : floatBits .sub .f32 x x with
      | none => rfl
      | some r =>
        have := (Fl.bits_facts hb).2.1
        rw [Fl.cls_none (k := .f32) h] at this; cases this
    have hc := Fl.nanAt_bits w .f32 x x
    have e : Fl.ares w .sub .f32 x x = Fl.nanAt w (.nanBits .f32 x x) := by unfold Fl.ares; rw [hn]
    rw [e, show Ieee.single.order = FloatKind.f32.format.order from rfl, Fl.ord_bits, hc]
    have : ¬ Fl.rg Ieee.single x < 2139095040 := by
      intro hl
      have := Fl.fin_nan (f := Ieee.single) (b := x) (by unfold Fl.Fin; rw [Fl.single_inf]; exact hl)
      rw [h] at this; cases this
    simp [this, Fl.ordC]

theorem wres_fin (w : World) (x : Nat) : fin64 (Fl.wres w x) = fin32 x := by
  unfold fin64 fin32
  rcases Fl.read_cases Fl.single_ok x with h | h | h
  · have h1 := (Fl.wide_fin h).1
    unfold Fl.wres
    rw [Fl.fin_nan h]
    unfold Fl.Fin at h h1
    rw [Fl.single_inf] at h
    rw [Fl.double_inf] at h1
    simp [h, h1]
  · unfold Fl.wres
    rw [h]
    have e : Fl.rg Ieee.double (Ieee.double.write (.infinity (Fl.sg Ieee.single x))) = 9218868437227405312 := by
      cases Fl.sg Ieee.single x <;> decide
    have : ¬ Fl.rg Ieee.single x < 2139095040 := by
      intro hl
      have := Fl.fin_inf (f := Ieee.single) (b := x) (by unfold Fl.Fin; rw [Fl.single_inf]; exact hl)
      rw [h] at this; cases this
    simp only [Ieee.Datum.isNaN, Bool.false_eq_true, if_false, e]
    simp [this]
  · have hc := Fl.cls_wres w x
    rw [Fl.cls_none (k := .f32) h] at hc
    have hn : (Ieee.double.read (Fl.wres w x)).isNaN = true := by
      cases hd : (Ieee.double.read (Fl.wres w x)).isNaN with
      | true => rfl
      | false => rw [Fl.cls_some (k := .f64) hd] at hc; cases hc
    rw [nan64_of] at hn
    have : ¬ Fl.rg Ieee.single x < 2139095040 := by
      intro hl
      have := Fl.fin_nan (f := Ieee.single) (b := x) (by unfold Fl.Fin; rw [Fl.single_inf]; exact hl)
      rw [h] at this; cases this
    simp at hn
    simp [this]
    omega
theorem l01Finite_any (x : Nat) (w : World) :
    Calls Try.prog 100 #[.float .f32 x] w fun e w' => e = .returned (.bool (fin32 x)) ∧ ∃ n, w' = w.drewN n := by
  have H := Lib.hid (sub_self_eq w x)
  go_enter Try.func100, Try.ntmps100
  go_wp2
  go_ret
  exact ⟨by rw [← H.out]; rfl, _, rfl⟩

theorem implFinite_any (x : Nat) (w : World) :
    Calls Try.prog 101 #[.float .f32 x] w fun e w' => e = .returned (.bool (fin32 x)) ∧ ∃ n, w' = w.drewN n := by
  go_enter Try.func101, Try.ntmps101
  go_wp2_with (go_at_call 107; refine (isFinite64_any _ (wres_lt _ _) _).mono ?_; rintro e w' ⟨rfl, rfl⟩)
  go_ret
  exact ⟨by rw [← wres_fin w x]; rfl, _, rfl⟩

end Go.Proofs.Ytajekehidofkiaa
