/- Subnormal numbers: on bits, and by comparison. -/
import Derived.Test.YtimdlnbdnednaaaAbs
import Derived.Laws.BitsAllLaws
import Derived.Laws.BitsLemmas
namespace Go.Proofs.Ytimdlnbdnednaaa
open Go.RowKit
attribute [local go_sem] call_f32bits Fl.run_widen

theorem ofInt_i64 (a : Nat) (ha : a < 9223372036854775808) : (BitVec.ofInt 64 (a : Int)).toNat = a := by
  rw [BitVec.ofInt_natCast, BitVec.toNat_ofNat]; exact Nat.mod_eq_of_lt (by omega)
theorem i64_and_nat (a b : Nat) (ha : a < 9223372036854775808) (hb : b < 9223372036854775808) : bits .and .i64 (a : Int) (b : Int) = ((a &&& b : Nat) : Int) := by
  have hx : a &&& b < 2 ^ 63 := Nat.and_lt_two_pow _ (by omega)
  show IntKind.i64.wrap ((BitVec.ofInt 64 (a : Int) &&& BitVec.ofInt 64 (b : Int)).toNat : Int) = _
  rw [BitVec.toNat_and, ofInt_i64 a ha, ofInt_i64 b hb, IntKind.wrap_i64]
  omega

theorem mask_nat (x : Nat) : x &&& 2139095040 = (x / 8388608 % 256) * 8388608 := by
  have h1 : (x &&& 2139095040) % 2 ^ 23 = 0 := by
    rw [Nat.and_mod_two_pow]; simp
  have h2 : (x &&& 2139095040) / 2 ^ 23 = x / 2 ^ 23 % 2 ^ 8 := by
    rw [Nat.and_div_two_pow, ← Nat.and_two_pow_sub_one_eq_mod]
  have h3 := Nat.div_add_mod (x &&& 2139095040) (2 ^ 23)
  rw [h1, h2] at h3
  omega
theorem sign_nat (x : Nat) (hx : x < 4294967296) : x &&& 2147483648 = (x / 2147483648) * 2147483648 := by
  have h1 : (x &&& 2147483648) % 2 ^ 31 = 0 := by
    rw [Nat.and_mod_two_pow]; simp
  have h2 : (x &&& 2147483648) / 2 ^ 31 = x / 2 ^ 31 % 2 ^ 1 := by
    rw [Nat.and_div_two_pow, ← Nat.and_two_pow_sub_one_eq_mod]
  have h3 := Nat.div_add_mod (x &&& 2147483648) (2 ^ 31)
  rw [h1, h2] at h3
  omega

/-- The number's exponent is the least. -/
def low32 (x : Nat) : Bool := decide (Fl.rg Ieee.single x < 8388608)
def zero32 (x : Nat) : Bool := decide (Fl.rg Ieee.single x = 0)
def subn (x : Nat) : Bool := !zero32 x && low32 x

theorem nan_rg {x : Nat} (h : (Ieee.single.read x).isNaN = true) : 2139095040 < Fl.rg Ieee.single x := by
  rcases Nat.lt_or_ge 2139095040 (Fl.rg Ieee.single x) with h3 | h3
  · exact h3
  · exfalso
    rcases Nat.lt_or_ge (Fl.rg Ieee.single x) 2139095040 with h4 | h4
    · have := Fl.fin_nan (f := Ieee.single) (b := x) (by unfold Fl.Fin; rw [Fl.single_inf]; exact h4)
      rw [h] at this; cases this
    · have := Fl.inf_of_rung Fl.single_ok (b := x) (by rw [Fl.single_inf]; omega)
      rw [this] at h; cases h
theorem inf_rg {x : Nat} {s : Bool} (h : Ieee.single.read x = .infinity s) : Fl.rg Ieee.single x = 2139095040 := by
  rcases Nat.lt_trichotomy (Fl.rg Ieee.single x) 2139095040 with h1 | h1 | h1
  · have := Fl.fin_inf (f := Ieee.single) (b := x) (by unfold Fl.Fin; rw [Fl.single_inf]; exact h1)
    rw [h] at this; cases this
  · exact h1
  · exfalso
    have h2 : (Ieee.single.read x).isNaN = true := by
      unfold Fl.rg at h1
      unfold Ieee.Format.read
      simp only
      rw [if_neg (by rw [Fl.single_B]; omega), if_neg (by rw [Fl.single_inf]; omega), if_neg (by rw [Fl.single_inf]; omega)]; rfl
    rw [h] at h2; cases h2

theorem told_low (x : Nat) : ((Fl.told x &&& 2139095040 : Nat) : Int) = 0 ↔ low32 x = true := by
  unfold low32
  rw [mask_nat]
  cases hn : (Ieee.single.read x).isNaN with
  | true =>
    have := nan_rg hn
    rw [Fl.told_nan hn]
    simp; omega
  | false =>
    rw [Fl.told_num hn]
    unfold Fl.rg; rw [Fl.single_S]
    simp; omega

theorem zero32_eq (x : Nat) : (FloatKind.f32.format.order x 0 != some Ordering.eq) = !zero32 x := by
  show (Ieee.single.order x 0 != some Ordering.eq) = !zero32 x
  have h0 : Fl.Fin Ieee.single 0 := by unfold Fl.Fin; decide
  have hz : Fl.sv Ieee.single 0 = 0 := by
    unfold Fl.sv
    rw [show Fl.sg Ieee.single 0 = false by decide, show Fl.rg Ieee.single 0 = 0 by decide, Fl.rv_zero]; rfl
  unfold zero32
  rcases Fl.read_cases Fl.single_ok x with h | h | h
  · have h1 := (Fl.order_fin h h0).2.1
    rw [hz] at h1
    by_cases hr : Fl.rg Ieee.single x = 0
    · have : Fl.sv Ieee.single x = 0 := by unfold Fl.sv; rw [hr, Fl.rv_zero]; split <;> simp
      rw [h1.2 this]; simp [hr]
    · have hne : Ieee.single.order x 0 ≠ some Ordering.eq := by
        intro hc
        have h2 := h1.1 hc
        have h3 : Fl.rv Ieee.single (Fl.rg Ieee.single x) ≤ Fl.rv Ieee.single 0 := by
          rw [Fl.rv_zero]; unfold Fl.sv at h2; split at h2 <;> grind
        have := (Fl.rv_le_iff Ieee.single (Nat.le_of_lt h) (Nat.zero_le _)).1 h3
        omega
      simp [hr, hne]
  · have := inf_rg h
    unfold Ieee.Format.order
    rw [h, Fl.read_fin h0, this]
    cases Fl.sg Ieee.single x <;> rfl
  · have := nan_rg h
    rw [(Fl.ord_nan h 0).1, decide_eq_false (by omega : ¬ Fl.rg Ieee.single x = 0)]
    rfl

/-- Below 2 to the power of -126, as a double. -/
theorem low_eq (w : World) (x : Nat) : (FloatKind.f64.format.order (absB (Fl.wres w x)) 4039728865751334912 == some Ordering.lt) = low32 x := by
  show (Ieee.double.order (absB (Fl.wres w x)) 4039728865751334912 == some Ordering.lt) = low32 x
  have hc : Fl.Fin Ieee.double 4039728865751334912 := by unfold Fl.Fin; decide
  unfold low32
  rcases Fl.read_cases Fl.single_ok x with h | h | h
  · obtain ⟨h1, h2⟩ := Fl.wide_fin h
    have e : Fl.wres w x = Ieee.double.write (Ieee.single.read x) := by
      unfold Fl.wres; rw [Fl.fin_nan h]; rfl
    rw [e]
    have h3 : Fl.Fin Ieee.double (absB (Ieee.double.write (Ieee.single.read x))) := by unfold Fl.Fin at *; rw [absB_rg]; exact h1
    have h4 := (Fl.order_fin h3 hc).1
    have e1 : Fl.sv Ieee.double (absB (Ieee.double.write (Ieee.single.read x))) = Fl.rv Ieee.single (Fl.rg Ieee.single x) := by
      have n1 := Fl.rv_nonneg Ieee.single (Fl.rg Ieee.single x)
      have n2 := Fl.rv_nonneg Ieee.double (Fl.rg Ieee.double (Ieee.double.write (Ieee.single.read x)))
      unfold Fl.sv at h2 ⊢
      rw [absB_sg, absB_rg]
      simp only [Bool.false_eq_true, if_false]
      split at h2 <;> split at h2 <;> grind
    have e2 : Fl.sv Ieee.double 4039728865751334912 = Fl.rv Ieee.single 8388608 := by
      unfold Fl.sv
      rw [show Fl.sg Ieee.double 4039728865751334912 = false by decide, show Fl.rg Ieee.double 4039728865751334912 = 4039728865751334912 by decide]
      simp only [Bool.false_eq_true, if_false]
      rw [show (4039728865751334912 : Nat) = 896 * Ieee.double.binade + 4503599627370496 by decide, Fl.rv_of Ieee.double (by decide) (by decide),
        show (8388608 : Nat) = 0 * Ieee.single.binade + 8388608 by decide, Fl.rv_of Ieee.single (by decide) (by decide)]
      apply Rat.le_antisymm <;> (rw [Fl.qv_le]; decide)
    rw [e1, e2] at h4
    by_cases hr : Fl.rg Ieee.single x < 8388608
    · rw [h4.2 (Fl.rv_lt_inf _ hr (by decide))]; simp [hr]
    · have : Ieee.double.order (absB (Ieee.double.write (Ieee.single.read x))) 4039728865751334912 ≠ some Ordering.lt := by
        intro hl
        have h5 := Fl.rv_le_of Ieee.single (a := 8388608) (b := Fl.rg Ieee.single x) (by omega) (Nat.le_of_lt h)
        exact absurd (h4.1 hl) (Rat.not_lt.2 h5)
      simp [hr, this]
  · have hr := inf_rg h
    have e : Fl.wres w x = Ieee.double.write (.infinity (Fl.sg Ieee.single x)) := by
      unfold Fl.wres; rw [h]; rfl
    rw [e, hr]
    have e3 : absB (Ieee.double.write (.infinity (Fl.sg Ieee.single x))) = 9218868437227405312 := by
      cases Fl.sg Ieee.single x <;> decide
    rw [e3]
    decide +kernel
  · have hr := nan_rg h
    have hc2 := Fl.cls_wres w x
    rw [Fl.cls_none (k := .f32) h] at hc2
    have hn : (Ieee.double.read (Fl.wres w x)).isNaN = true := by
      cases hd : (Ieee.double.read (Fl.wres w x)).isNaN with
      | true => rfl
      | false => rw [Fl.cls_some (k := .f64) hd] at hc2; cases hc2
    rw [nan64_of] at hn
    have hn2 : (Ieee.double.read (absB (Fl.wres w x))).isNaN = true := by rw [nan64_of, absB_rg]; exact hn
    rw [(Fl.ord_nan hn2 4039728865751334912).1]
    simp; omega

theorem told_lt (x : Nat) (hx : x < 4294967296) : Fl.told x < 4294967296 := by
  cases hn : (Ieee.single.read x).isNaN with
  | true => rw [Fl.told_nan hn]; omega
  | false => rw [Fl.told_num hn]; exact hx
theorem mask_eq (x : Nat) (hx : x < 4294967296) : (bits BinOp.and IntKind.i64 (Fl.told x : Int) 2139095040 == 0) = low32 x := by
  have h := i64_and_nat (Fl.told x) 2139095040 (by have := told_lt x hx; omega) (by omega)
  have h2 := told_low x
  rw [show ((2139095040 : Nat) : Int) = 2139095040 from rfl] at h
  rw [h]
  cases hl : low32 x with
  | true => rw [h2.2 hl]; rfl
  | false =>
    have : ¬ ((Fl.told x &&& 2139095040 : Nat) : Int) = 0 := fun hc => by rw [h2.1 hc] at hl; cases hl
    simpa using this

theorem specSub_any (x : Nat) (hx : x < 4294967296) (w : World) :
    Calls Try.prog 22 #[.float .f32 x] w fun e w' => e = .returned (.bool (subn x)) ∧ w = w' := by
  have hz := zero32_eq x
  have hm := mask_eq x hx
  unfold subn
  cases h1 : zero32 x <;> cases h2 : low32 x <;> rw [h1] at hz <;> rw [h2] at hm <;> clear h1 h2
  all_goals
    go_enter Try.func22, Try.ntmps22
    go_wp2_with (go_at_call 31; refine (specBits_any _ hx _).mono ?_; rintro e w' ⟨rfl, rfl⟩)
    go_ret
    exact ⟨rfl, rfl⟩
theorem implSub_any (x : Nat) (w : World) :
    Calls Try.prog 23 #[.float .f32 x] w fun e w' => e = .returned (.bool (subn x)) ∧ ∃ n, w' = w.drewN n := by
  have hz := zero32_eq x
  have hm := low_eq w x
  unfold subn
  cases h1 : zero32 x <;> cases h2 : low32 x <;> rw [h1] at hz <;> rw [h2] at hm <;> clear h1 h2
  all_goals
    go_enter Try.func23, Try.ntmps23
    go_wp2_with (go_at_call 37; refine (abs_any _ (wres_lt _ _) _).mono ?_; rintro e w' ⟨rfl, rfl⟩)
    go_ret
    exact ⟨rfl, by first | exact ⟨0, rfl⟩ | exact ⟨_, rfl⟩⟩
end Go.Proofs.Ytimdlnbdnednaaa
