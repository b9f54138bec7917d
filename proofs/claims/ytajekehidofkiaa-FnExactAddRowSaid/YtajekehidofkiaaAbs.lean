/- math.Abs, math.IsNaN, math.IsInf and what is finite. -/
import Derived.Test.YtajekehidofkiaaExt
import Derived.Laws.BitsAllLaws
namespace Go.Proofs.Ytajekehidofkiaa
open Go.RowKit
attribute [local go_sem] call_f64bits call_f64from

/-- The bits of an absolute value. -/
def absB (x : Nat) : Nat := x % 9223372036854775808
theorem abs_bits (x : Nat) (hx : x < 18446744073709551616) : bits .andNot .u64 (x : Int) 9223372036854775808 = (absB x : Int) := by
  rw [u64_andNot _ _ (by omega) (by omega) (by omega) (by omega)]
  congr 1
  rw [Int.toNat_natCast]
  show x &&& (2 ^ 63 - 1) = _
  rw [Nat.and_two_pow_sub_one_eq_mod]
  rfl
theorem abs_any (x : Nat) (hx : x < 18446744073709551616) (w : World) :
    Calls Try.prog 114 #[.float .f64 x] w fun e w' => e = .returned (.float .f64 (absB x)) ∧ w = w' := by
  go_enter Try.func114, Try.ntmps114
  go_wp2
  go_ret
  refine ⟨?_, rfl⟩
  have := abs_bits x hx
  show Ending.returned (Value.float FloatKind.f64 (bits BinOp.andNot IntKind.u64 (↑x) 9223372036854775808).toNat) = _
  rw [this, Int.toNat_natCast]

theorem absB_rg (x : Nat) : Fl.rg Ieee.double (absB x) = Fl.rg Ieee.double x := by
  unfold Fl.rg absB; rw [Fl.double_S]; omega
theorem absB_sg (x : Nat) : Fl.sg Ieee.double (absB x) = false := by
  unfold Fl.sg absB; rw [Fl.double_S, Nat.div_eq_of_lt (by omega)]; rfl
theorem absB_lt (x : Nat) : absB x < 9223372036854775808 := Nat.mod_lt _ (by omega)

/-- Is a double finite? -/
def fin64 (x : Nat) : Bool := decide (Fl.rg Ieee.double x < 9218868437227405312)
theorem nan64_of {x : Nat} : (Ieee.double.read x).isNaN = decide (9218868437227405312 < Fl.rg Ieee.double x) := by
  rcases Fl.read_cases Fl.double_ok x with h | h | h
  · rw [Fl.fin_nan h]; unfold Fl.Fin at h; rw [Fl.double_inf] at h
    symm; simp; omega
  · rw [h]
    have : ¬ 9218868437227405312 < Fl.rg Ieee.double x := by
      intro hc
      have h2 : (Ieee.double.read x).isNaN = true := by
        unfold Fl.rg at hc
        unfold Ieee.Format.read
        simp only
        rw [if_neg (by rw [Fl.double_B]; omega), if_neg (by rw [Fl.double_inf]; omega), if_neg (by rw [Fl.double_inf]; omega)]; rfl
      rw [h] at h2; cases h2
    simp [this, Ieee.Datum.isNaN]
  · rw [h]
    rcases Nat.lt_or_ge 9218868437227405312 (Fl.rg Ieee.double x) with h3 | h3
    · simp [h3]
    · exfalso
      rcases Nat.lt_or_ge (Fl.rg Ieee.double x) 9218868437227405312 with h4 | h4
      · have := Fl.fin_nan (f := Ieee.double) (b := x) (by unfold Fl.Fin; rw [Fl.double_inf]; exact h4)
        rw [h] at this; cases this
      · have := Fl.inf_of_rung Fl.double_ok (b := x) (by rw [Fl.double_inf]; omega)
        rw [this] at h; cases h

/-- Is the absolute value above the greatest finite double? -/
theorem max_gt {x : Nat} (hn : (Ieee.double.read x).isNaN = false) :
    (FloatKind.f64.format.order (absB x) 9218868437227405311 == some Ordering.gt) = !fin64 x := by
  show (Ieee.double.order (absB x) 9218868437227405311 == some Ordering.gt) = _
  have hm : Fl.Fin Ieee.double 9218868437227405311 := by unfold Fl.Fin; rw [Fl.double_inf]; unfold Fl.rg; rw [Fl.double_S]; omega
  unfold fin64
  rcases Fl.read_cases Fl.double_ok x with h | h | h
  · have h2 : Fl.Fin Ieee.double (absB x) := by unfold Fl.Fin at *; rw [absB_rg]; exact h
    have h3 := (Fl.order_fin h2 hm).2.2
    have h4 : ¬ Fl.sv Ieee.double 9218868437227405311 < Fl.sv Ieee.double (absB x) := by
      unfold Fl.sv
      rw [absB_sg, absB_rg]
      have e1 : Fl.sg Ieee.double 9218868437227405311 = false := by unfold Fl.sg; rw [Fl.double_S]; decide
      have e2 : Fl.rg Ieee.double 9218868437227405311 = 9218868437227405311 := by unfold Fl.rg; rw [Fl.double_S]
      rw [e1, e2]
      simp only [Bool.false_eq_true, if_false]
      apply Rat.not_lt.2
      unfold Fl.Fin at h
      rw [Fl.double_inf] at h
      exact Fl.rv_le_of _ (by omega) (by rw [Fl.double_inf]; omega)
    unfold Fl.Fin at h
    rw [Fl.double_inf] at h
    have h5 : Ieee.double.order (absB x) 9218868437227405311 ≠ some Ordering.gt := fun hc => h4 (h3.1 hc)
    simp [h, h5]
  · have e : Fl.rg Ieee.double x = 9218868437227405312 := by
      rcases Nat.lt_trichotomy (Fl.rg Ieee.double x) 9218868437227405312 with h1 | h1 | h1
      · have := Fl.fin_inf (f := Ieee.double) (b := x) (by unfold Fl.Fin; rw [Fl.double_inf]; exact h1)
        rw [h] at this; cases this
      · exact h1
      · rw [nan64_of] at hn; simp at hn; omega
    have h2 := Fl.inf_of_rung Fl.double_ok (b := absB x) (by rw [absB_rg, e, Fl.double_inf])
    rw [absB_sg] at h2
    unfold Ieee.Format.order
    rw [h2, Fl.read_fin hm, e]
    rfl
  · rw [h] at hn; cases hn

theorem neq64_nan {x : Nat} (h : (Ieee.double.read x).isNaN = true) : (FloatKind.f64.format.order x x != some Ordering.eq) = true := by
  show (Ieee.double.order x x != some Ordering.eq) = true
  rw [(Fl.ord_nan h x).1]; rfl
theorem neq64_num {x : Nat} (h : (Ieee.double.read x).isNaN = false) : (FloatKind.f64.format.order x x != some Ordering.eq) = false := by
  show (Ieee.double.order x x != some Ordering.eq) = false
  rw [Fl.ord_self h]; rfl

/-- math.IsNaN. -/
theorem isNaN_any (x : Nat) (w : World) :
    Calls Try.prog 111 #[.float .f64 x] w fun e w' => e = .returned (.bool (Ieee.double.read x).isNaN) ∧ w = w' := by
  cases hn : (Ieee.double.read x).isNaN with
  | true =>
    have h1 := neq64_nan hn
    clear hn
    go_enter Try.func111, Try.ntmps111
    go_wp2
    go_ret
    exact ⟨rfl, rfl⟩
  | false =>
    have h1 := neq64_num hn
    clear hn
    go_enter Try.func111, Try.ntmps111
    go_wp2
    go_ret
    exact ⟨rfl, rfl⟩
/-- math.IsInf(x, 0), of what is a number. -/
theorem isInf_any (x : Nat) (hx : x < 18446744073709551616) (hn : (Ieee.double.read x).isNaN = false) (w : World) :
    Calls Try.prog 112 #[.float .f64 x, .int .i64 0] w fun e w' => e = .returned (.bool (!fin64 x)) ∧ w = w' := by
  have h1 := max_gt hn
  clear hn
  go_enter Try.func112, Try.ntmps112
  go_wp2_with (go_at_call 114; refine (abs_any _ hx _).mono ?_; rintro e w' ⟨rfl, rfl⟩)
  go_ret
  exact ⟨rfl, rfl⟩
/-- impl.isFinite64. -/
theorem isFinite64_any (x : Nat) (hx : x < 18446744073709551616) (w : World) :
    Calls Try.prog 107 #[.float .f64 x] w fun e w' => e = .returned (.bool (fin64 x)) ∧ w = w' := by
  cases hn : (Ieee.double.read x).isNaN with
  | true =>
    have hf : fin64 x = false := by
      rw [nan64_of] at hn
      unfold fin64
      simp at hn ⊢
      omega
    have hn' := Lib.hid hn
    clear hn
    go_enter Try.func107, Try.ntmps107
    go_wp2_with (go_at_call 111; refine (isNaN_any _ _).mono ?_; rw [hn'.out]; rintro e w' ⟨rfl, rfl⟩)
    go_ret
    exact ⟨by rw [hf]; rfl, rfl⟩
  | false =>
    have hn' := Lib.hid hn
    clear hn
    go_enter Try.func107, Try.ntmps107
    go_wp2_with (first | (go_at_call 111; refine (isNaN_any _ _).mono ?_; rw [hn'.out]; rintro e w' ⟨rfl, rfl⟩) | (go_at_call 112; refine (isInf_any _ hx hn'.out _).mono ?_; rintro e w' ⟨rfl, rfl⟩))
    go_ret
    exact ⟨by simp, rfl⟩

theorem wres_lt (w : World) (x : Nat) : Fl.wres w x < 18446744073709551616 := by
  have h2 : (2 : Nat) ^ Ieee.double.width = 18446744073709551616 := by decide
  unfold Fl.wres
  split
  · unfold Fl.nanAt Question.cut
    simp only
    omega
  · rw [← h2]; exact Ieee.Format.write_lt _ _
end Go.Proofs.Ytajekehidofkiaa
