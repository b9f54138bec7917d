/- sameFloat is true of two doubles of one class. -/
import Derived.Test.YtajekehidofkiaaExt
namespace Go.Proofs.Ytajekehidofkiaa
open Go.RowKit
attribute [local go_sem] run_quo

theorem eq_self_num {x : Nat} (h : (Ieee.double.read x).isNaN = false) : (FloatKind.f64.format.order x x == some Ordering.eq) = true := by
  show (Ieee.double.order x x == some Ordering.eq) = true
  rw [Fl.ord_self h]; rfl
theorem ne_self_num {x : Nat} (h : (Ieee.double.read x).isNaN = false) : (FloatKind.f64.format.order x x != some Ordering.eq) = false := by
  show (Ieee.double.order x x != some Ordering.eq) = false
  rw [Fl.ord_self h]; rfl
theorem ne_self_nan {x : Nat} (h : (Ieee.double.read x).isNaN = true) : (FloatKind.f64.format.order x x != some Ordering.eq) = true := by
  show (Ieee.double.order x x != some Ordering.eq) = true
  rw [(Fl.ord_nan h x).1]; rfl

theorem ares_some {w : World} {op : BinOp} {k : FloatKind} {x y r : Nat} (h : floatBits op k x y = some r) : Fl.ares w op k x y = r := by unfold Fl.ares; rw [h]

/-- One over a zero is not NaN. -/
theorem one_over_zero {x : Nat} (h : (FloatKind.f64.format.order x 0 == some Ordering.eq) = true) : ∃ r, floatBits .quo .f64 4607182418800017408 x = some r := by
  have h1 : Ieee.double.order x 0 = some Ordering.eq := eq_of_beq h
  have h0 : Fl.Fin Ieee.double 0 := by unfold Fl.Fin; decide
  show ∃ r, Ieee.double.div 4607182418800017408 x = some r
  have hone : Ieee.double.read 4607182418800017408 = .number false 4503599627370496 (-52) := by decide +kernel
  rcases Fl.read_cases Fl.double_ok x with hx | hx | hx
  · have h2 := (Fl.order_fin hx h0).2.1.1 h1
    have hz : Fl.sv Ieee.double 0 = 0 := by
      unfold Fl.sv
      rw [show Fl.sg Ieee.double 0 = false by decide, show Fl.rg Ieee.double 0 = 0 by decide, Fl.rv_zero]; rfl
    rw [hz] at h2
    have h3 : Fl.rg Ieee.double x = 0 := by
      have h4 : Fl.rv Ieee.double (Fl.rg Ieee.double x) ≤ Fl.rv Ieee.double 0 := by
        rw [Fl.rv_zero]; unfold Fl.sv at h2; split at h2 <;> grind
      have := (Fl.rv_le_iff Ieee.double (Nat.le_of_lt hx) (Nat.zero_le _)).1 h4
      omega
    unfold Ieee.Format.div
    rw [hone, Fl.read_fin hx, h3]
    exact ⟨_, rfl⟩
  · unfold Ieee.Format.order at h1
    rw [hx] at h1
    exfalso
    rw [Fl.read_fin h0] at h1
    cases hs : Fl.sg Ieee.double x <;> rw [hs] at h1 <;> simp [Ieee.Datum.order] at h1
  · exfalso
    rw [(Fl.ord_nan hx 0).1] at h1; cases h1

set_option maxHeartbeats 400000 in
theorem same_num (a : Nat) (hn : (Ieee.double.read a).isNaN = false) (w : World) :
    Calls Try.prog 61 #[.float .f64 a, .float .f64 a] w fun e w' => e = .returned (.bool true) ∧ ∃ n, w' = w.drewN n := by
  have h1 := ne_self_num hn
  have h2 := eq_self_num hn
  clear hn
  cases hz : (FloatKind.f64.format.order a 0 == some Ordering.eq) with
  | true =>
    obtain ⟨r, hr⟩ := one_over_zero hz
    have hq : ∀ w : World, Fl.ares w .quo .f64 4607182418800017408 a = r := fun w => ares_some hr
    clear hr
    go_enter Try.func61, Try.ntmps61
    go_wp2
    go_ret
    exact ⟨by simp, _, rfl⟩
  | false =>
    go_enter Try.func61, Try.ntmps61
    go_wp2
    go_ret
    exact ⟨rfl, 0, rfl⟩
theorem same_nan (a b : Nat) (ha : (Ieee.double.read a).isNaN = true) (hb : (Ieee.double.read b).isNaN = true) (w : World) :
    Calls Try.prog 61 #[.float .f64 a, .float .f64 b] w fun e w' => e = .returned (.bool true) ∧ ∃ n, w' = w.drewN n := by
  have h1 := ne_self_nan ha
  have h2 := ne_self_nan hb
  clear ha hb
  go_enter Try.func61, Try.ntmps61
  go_wp2
  go_ret
  exact ⟨rfl, 0, rfl⟩
theorem same_any (a b : Nat) (h : Fl.cls .f64 a = Fl.cls .f64 b) (w : World) :
    Calls Try.prog 61 #[.float .f64 a, .float .f64 b] w fun e w' => e = .returned (.bool true) ∧ ∃ n, w' = w.drewN n := by
  obtain ⟨h1, h2⟩ := Fl.cls_wf h
  cases hn : (Ieee.double.read a).isNaN with
  | true => exact same_nan a b hn (by rw [← hn]; exact h1.symm) w
  | false =>
    obtain rfl := h2 hn
    exact same_num a hn w
end Go.Proofs.Ytajekehidofkiaa
