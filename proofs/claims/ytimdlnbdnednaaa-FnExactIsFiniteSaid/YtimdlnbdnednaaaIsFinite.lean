/- IsFinite answers as its model, for every number. -/
import Derived.Test.YtimdlnbdnednaaaAbs
import Derived.Test.YtimdlnbdnednaaaFrame
import Derived.ProofKit
namespace Go.Proofs.Ytimdlnbdnednaaa
open Go.ChangeShapes Go.WideShapes Go.ChangeAt Go.RowKit Go.ChangeMaps
attribute [local go_sem] call_f32bits run_sub Fl.run_widen

theorem Try.own : ownKnob Try.prog.godebug = none := by kernel_rfl
theorem Try.laidOut : laidOutB Try.prog = true := by kernel_rfl
theorem f32_lt {x : Nat} (h : (Lit.float .f32 x).wf = true) : x < 4294967296 := by simpa [Lit.wf] using h
theorem f64_lt {x : Nat} (h : (Lit.float .f64 x).wf = true) : x < 18446744073709551616 := by simpa [Lit.wf] using h
theorem i64_in {x : Int} (h : (Lit.int .i64 x).wf = true) : -9223372036854775808 ≤ x ∧ x ≤ 9223372036854775807 := by
  have h1 : IntKind.i64.min = -9223372036854775808 := by decide
  have h2 : IntKind.i64.max = 9223372036854775807 := by decide
  simp only [Lit.wf, Bool.and_eq_true, decide_eq_true_eq, h1, h2] at h
  exact h

/-- Is a single finite? -/
def fin32 (x : Nat) : Bool := decide (Fl.rg Ieee.single x < 2139095040)
theorem sub_self_eq (w : World) (x : Nat) : (FloatKind.f32.format.order (Fl.ares w .sub .f32 x x) 0 == some Ordering.eq) = fin32 x := by
  show (Ieee.single.order (Fl.ares w .sub .f32 x x) 0 == some Ordering.eq) = fin32 x
  have h0 : Fl.Fin Ieee.single 0 := by unfold Fl.Fin; decide
  have hz : Fl.sv Ieee.single 0 = 0 := by
    unfold Fl.sv
    rw [show Fl.sg Ieee.single 0 = false by decide, show Fl.rg Ieee.single 0 = 0 by decide, Fl.rv_zero]; rfl
  unfold fin32
  rcases Fl.read_cases Fl.single_ok x with h | h | h
  · obtain ⟨r, hr, near⟩ := Fl.sub_near h h
    have e : Fl.ares w .sub .f32 x x = r := by
      unfold Fl.ares
      rw [show floatBits .sub .f32 x x = some r from hr]
    rw [Rat.sub_self] at near
    have b := near.bound 0 (by decide) (by rw [Fl.rv_zero]; decide) (by rw [Fl.rv_zero]; decide)
    rw [Fl.rv_zero] at b
    have he : Fl.sv Ieee.single r = Fl.sv Ieee.single 0 := by rw [hz]; grind
    rw [e, (Fl.order_fin b.1 h0).2.1.2 he]
    unfold Fl.Fin at h
    rw [Fl.single_inf] at h
    simp [h]
  · have hn : floatBits .sub .f32 x x = none := by
      show Ieee.single.sub x x = none
      unfold Ieee.Format.sub
      rw [h]
      cases Fl.sg Ieee.single x <;> rfl
    have hc := Fl.nanAt_bits w .f32 x x
    have e : Fl.ares w .sub .f32 x x = Fl.nanAt w (.nanBits .f32 x x) := by unfold Fl.ares; rw [hn]
    rw [e, show Ieee.single.order = FloatKind.f32.format.order from rfl, Fl.ord_bits, hc]
    have : ¬ Fl.rg Ieee.single x < 2139095040 := by
      intro hl
      have := Fl.fin_inf (f := Ieee.single) (b := x) (by unfold Fl.Fin; rw [Fl.single_inf]; exact hl)
      rw [h] at this; cases this
    simp [this, Fl.ordC]
  · have hn : floatBits .sub .f32 x x = none := by
      cases hb : floatBits .sub .f32 x x with
      | none => rfl
      | some r =>
        have := (Fl.bits_facts hb).2.1
        rw [Fl.cls_none (k := .f32) h] at this; cases this
    have hc := Fl.nanAt_bits w .f32 x x
    have e : Fl.ares w .sub .f32 x x = Fl.nanAt w (.nanBits .f32 x x) := by unfold Fl.ares; rw [hn]
    rw [e, show Ieee.single.order = FloatKind.f32.format.order from rfl, Fl.ord_bits, hc]
    have : ¬ Fl.rg Ieee.single x < 2139095040 := by
      intro hl
      have := Fl.fin_nan (f := Ieee.single) (b := x) (by unfold Fl.Fin; rw [Fl.single_inf]; exact hl)
      rw [h] at this; cases this
    simp [this, Fl.ordC]

theorem wres_lt (w : World) (x : Nat) : Fl.wres w x < 18446744073709551616 := by
  have h2 : (2 : Nat) ^ Ieee.double.width = 18446744073709551616 := by decide
  unfold Fl.wres
  split
  · unfold Fl.nanAt Question.cut
    simp only
    omega
  · rw [← h2]; exact Ieee.Format.write_lt _ _
theorem wres_fin (w : World) (x : Nat) : fin64 (Fl.wres w x) = fin32 x := by
  unfold fin64 fin32
  rcases Fl.read_cases Fl.single_ok x with h | h | h
  · have h1 := (Fl.wide_fin h).1
    unfold Fl.wres
    rw [Fl.fin_nan h]
    unfold Fl.Fin at h h1
    rw [Fl.single_inf] at h
    rw [Fl.double_inf] at h1
    simp [h, h1]
  · unfold Fl.wres
    rw [h]
    have e : Fl.rg Ieee.double (Ieee.double.write (.infinity (Fl.sg Ieee.single x))) = 9218868437227405312 := by
      cases Fl.sg Ieee.single x <;> decide
    have : ¬ Fl.rg Ieee.single x < 2139095040 := by
      intro hl
      have := Fl.fin_inf (f := Ieee.single) (b := x) (by unfold Fl.Fin; rw [Fl.single_inf]; exact hl)
      rw [h] at this; cases this
    simp only [Ieee.Datum.isNaN, Bool.false_eq_true, if_false, e]
    simp [this]
  · have hc := Fl.cls_wres w x
    rw [Fl.cls_none (k := .f32) h] at hc
    have hn : (Ieee.double.read (Fl.wres w x)).isNaN = true := by
      cases hd : (Ieee.double.read (Fl.wres w x)).isNaN with
      | true => rfl
      | false => rw [Fl.cls_some (k := .f64) hd] at hc; cases hc
    rw [nan64_of] at hn
    have : ¬ Fl.rg Ieee.single x < 2139095040 := by
      intro hl
      have := Fl.fin_nan (f := Ieee.single) (b := x) (by unfold Fl.Fin; rw [Fl.single_inf]; exact hl)
      rw [h] at this; cases this
    simp at hn
    simp [this]
    omega
theorem l01Finite_any (x : Nat) (w : World) :
    Calls Try.prog 29 #[.float .f32 x] w fun e w' => e = .returned (.bool (fin32 x)) ∧ ∃ n, w' = w.drewN n := by
  have H := Lib.hid (sub_self_eq w x)
  go_enter Try.func29, Try.ntmps29
  go_wp2
  go_ret
  exact ⟨by rw [← H.out]; rfl, _, rfl⟩

theorem specFinite_any (x : Nat) (w : World) :
    Calls Try.prog 13 #[.float .f32 x] w fun e w' => e = .returned (.bool (fin32 x)) ∧ ∃ n, w' = w.drewN n := by
  go_enter Try.func13, Try.ntmps13
  go_wp2_with (go_at_call 29; refine (l01Finite_any _ _).mono ?_; rintro e w' ⟨rfl, n, rfl⟩)
  go_ret
  exact ⟨rfl, _, rfl⟩

theorem implFinite_any (x : Nat) (w : World) :
    Calls Try.prog 14 #[.float .f32 x] w fun e w' => e = .returned (.bool (fin32 x)) ∧ ∃ n, w' = w.drewN n := by
  go_enter Try.func14, Try.ntmps14
  go_wp2_with (go_at_call 30; refine (isFinite64_any _ (wres_lt _ _) _).mono ?_; rintro e w' ⟨rfl, rfl⟩)
  go_ret
  exact ⟨by rw [← wres_fin w x]; rfl, _, rfl⟩

theorem fnExactIsFinite_any (x : Nat) (w : World) :
    Calls Try.prog 4 #[.float .f32 x] w fun e w' => e = .returned (.bool true) ∧ Below w.heap.size w w' := by
  go_enter Try.func4, Try.ntmps4
  go_wp2_with (first | (go_at_call 13; refine (specFinite_any _ _).mono ?_; rintro e w' ⟨rfl, n, rfl⟩) | (go_at_call 14; refine (implFinite_any _ _).mono ?_; rintro e w' ⟨rfl, n, rfl⟩))
  go_ret
  exact ⟨rfl, below_drewN (Below.refl _ _) _⟩

set_option maxRecDepth 100000 in
theorem fnExactIsFinite_lifted (os : Os) (started : os.Started) (H : Type) (enc : TypeId × Value → H) :
    ReturnsInHanded {} Try.checked os 4 .any (Rows.fnExactIsFiniteSpec.pre6 enc Try.prog Try.f4 [] false) (Rows.fnExactIsFiniteSpec.post enc Try.prog Try.f4 false true false false) := by
  refine Frame.law_lifted (tb := 4) Try.own started (by kernel_rfl) Try.func4
    (ChangeSpec.witness6 (enc := enc) (C := Try.checked) false ⟨#[], #[.float .f32 0], []⟩ 8 (by kernel_rfl) (by kernel_rfl) (by kernel_rfl) (by kernel_rfl))
    Try.laidOut (by kernel_rfl) rfl (by kernel_rfl) Try.underlying4 (fun ds hd => ?_) ?_
  · rw [Try.params4] at hd
    match ds, hd with
    | [_], _ => exact ⟨rfl, rfl, rfl⟩
  intro W base args ds p hval0 hA0 hlt hsz0
  have hval : ∀ (j : Nat) t v, Try.f4.params[j]? = some t → args[j]? = some v → Value.okWide Try.prog W .any base t v := hval0
  have hA : DataW.TrodAll enc Try.prog W 0 (fun _ => true) true Try.f4.params.toList args.toList ds p := hA0
  have hsz : (DataW.weightsEach Try.prog Try.f4.params.toList ds).all (· ≤ reachBytes) = true := hsz0
  rw [Try.params4] at hA hval hsz
  clear hval0 hA0 hsz0
  obtain ⟨v0, d0, rfl, rfl, h0⟩ := trodAll_one hA
  obtain ⟨a0, rfl, rfl, rfl, w0⟩ := open_float Try.underlying22 (hval 0 22 v0 rfl rfl) h0
  have b0 := f32_lt w0
  exact fnExactIsFinite_any a0 W

theorem fnExactIsFinite_holds : Rows.FnExactIsFiniteSaid :=
  OpenClaim.holds_of_wide 4 Try.f4 rfl rfl rfl rfl rfl rfl rfl ⟨rfl, rfl, rfl, rfl, rfl⟩ rfl rfl rfl rfl rfl (by kernel_rfl) Try.func4 (by kernel_rfl)
    (of_decide_eq_true (by kernel_rfl)) (by unfold Func.isWrapper; first | (rw [if_pos (by decide +kernel)]; kernel_rfl) | (rw [if_neg (by decide +kernel)]; exact ⟨rfl, rfl⟩))
    (fun os started H enc _ => fnExactIsFinite_lifted os started H enc)
end Go.Proofs.Ytimdlnbdnednaaa
