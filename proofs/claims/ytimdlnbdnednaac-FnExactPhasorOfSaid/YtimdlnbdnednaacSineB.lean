/- The sine's parts are within bounds; turns that are not whole. -/
import Derived.Test.YtimdlnbdnednaacBnd
import Derived.Test.YtimdlnbdnednaacSineS
namespace Go.Proofs.Ytimdlnbdnednaac
open Go.RowKit Ieee

theorem cutz (s : Bool) (n d : Nat) : Toward.zero.cut s n d = n / 2 ^ d := by
  unfold Toward.cut
  simp only [Nat.one_shiftLeft, Bool.toNat_false, Nat.add_zero]
  by_cases h : d ≤ n.log2 + 2
  · rw [Nat.min_eq_left h]
  · rw [Nat.min_eq_right (by omega)]
    have hn : n < 2 ^ (n.log2 + 1) := Nat.lt_log2_self
    have h1 : 2 ^ (n.log2 + 1) ≤ 2 ^ (n.log2 + 2) := Nat.pow_le_pow_right (by omega) (by omega)
    have h2 : 2 ^ (n.log2 + 2) ≤ 2 ^ d := Nat.pow_le_pow_right (by omega) (by omega)
    rw [Nat.div_eq_of_lt (by omega), Nat.div_eq_of_lt (by omega)]
theorem qv_nat (M : Nat) : Fl.qv M 0 = (M : Rat) := by unfold Fl.qv; rw [Rat.zpow_zero, Rat.mul_one]

theorem trunc_facts {x : Nat} (hf : Fl.Fin double x) (hb : Fl.rv double (Fl.rg double x) ≤ (2 : Rat) ^ 52) :
    floatToIntVal .f64 x .i64 = some (toI x) ∧ (toI x).natAbs < 2 ^ 53 ∧ (Fl.sg double x = false → 0 ≤ Fl.sv double x - (toI x : Rat) ∧ Fl.sv double x - (toI x : Rat) ≤ 1) ∧ (Fl.sg double x = true → -1 ≤ Fl.sv double x - (toI x : Rat) ∧ Fl.sv double x - (toI x : Rat) ≤ 0) := by
  have hr := Fl.read_fin hf
  obtain ⟨m, hm⟩ : ∃ m, m = Fl.rk double (Fl.rg double x) := ⟨_, rfl⟩
  obtain ⟨e, he⟩ : ∃ e : Int, e = double.leastPlace + (Fl.rq double (Fl.rg double x) : Nat) := ⟨_, rfl⟩
  have hv : Fl.rv double (Fl.rg double x) = Fl.qv m e := by unfold Fl.rv; rw [hm, he]
  rw [← hm, ← he] at hr
  rw [hv] at hb
  obtain ⟨M, hM⟩ : ∃ M, M = (m <<< e.toNat) / 2 ^ (-e).toNat := ⟨_, rfl⟩
  have i1 : Fl.qv M 0 ≤ Fl.qv m e := by
    rw [Fl.qv_le, hM, Nat.shiftLeft_eq, show (0 - e).toNat = (-e).toNat by omega, show (e - 0).toNat = e.toNat by omega]
    exact Nat.div_mul_le_self _ _
  have i2 : Fl.qv m e ≤ Fl.qv (M + 1) 0 := by
    rw [Fl.qv_le, hM, Nat.shiftLeft_eq, show (0 - e).toNat = (-e).toNat by omega, show (e - 0).toNat = e.toNat by omega]
    have := Nat.lt_div_mul_add (a := m * 2 ^ e.toNat) (Nat.two_pow_pos (-e).toNat)
    rw [Nat.succ_mul]
    omega
  rw [qv_nat] at i1 i2
  have hM52 : M ≤ 2 ^ 52 := by
    have h1 : (M : Rat) ≤ ((2 ^ 52 : Nat) : Rat) := by
      rw [Rat.natCast_pow]
      exact Rat.le_trans i1 hb
    exact Rat.natCast_le_natCast.1 h1
  have ht : (FloatKind.f64.decode x).toInt .zero = some (if Fl.sg double x then -(M : Int) else (M : Int)) := by
    show (double.read x).toInt .zero = _
    rw [hr]
    simp only [Datum.toInt, Datum.integral, cutz, signed, Nat.shiftLeft_zero]
    rw [← hM]
  have hval : floatToIntVal .f64 x .i64 = some (if Fl.sg double x then -(M : Int) else (M : Int)) := by
    unfold floatToIntVal
    rw [ht]
    have h1 : IntKind.i64.min = -9223372036854775808 := by decide
    have h2 : IntKind.i64.max = 9223372036854775807 := by decide
    simp only [h1, h2]
    rw [if_pos (by split <;> omega)]
  have hI : toI x = if Fl.sg double x then -(M : Int) else (M : Int) := by unfold toI; rw [hval]; rfl
  refine ⟨by rw [hI]; exact hval, by rw [hI]; split <;> omega, fun hs => ?_, fun hs => ?_⟩
  · rw [hI, hs]
    unfold Fl.sv
    rw [hs, hv]
    simp only [Bool.false_eq_true, if_false, Rat.intCast_natCast]
    rw [Rat.natCast_add] at i2
    constructor
    · grind
    · have : ((1 : Nat) : Rat) = 1 := rfl
      rw [this] at i2
      grind
  · rw [hI, hs]
    unfold Fl.sv
    rw [hs, hv]
    simp only [if_true, Rat.intCast_neg, Rat.intCast_natCast]
    rw [Rat.natCast_add] at i2
    have : ((1 : Nat) : Rat) = 1 := rfl
    rw [this] at i2
    constructor <;> grind

theorem lit_zero : BC (litC 0) 0 0 := by
  have := lit_bc (b := 0) (by omega)
  rw [Fl.rv_zero] at this
  exact this
theorem rv_one : Fl.rv double 4607182418800017408 = 1 := rv_pw 0
theorem lit_one : BC (litC 4607182418800017408) 1 1 := by
  have := lit_bc (b := 4607182418800017408) (by omega)
  rw [rv_one] at this
  exact this
theorem rv_half : Fl.rv double 4602678819172646912 = 1 / 2 := by
  have h := rv_pow 1021
  rw [show 1021 * 4503599627370496 + 4503599627370496 = 4602678819172646912 by decide] at h
  rw [h]; decide +kernel
theorem lit_half : BC (litC 4602678819172646912) (1 / 2) (1 / 2) := by
  have := lit_bc (b := 4602678819172646912) (by omega)
  rw [rv_half] at this
  exact this
theorem rv_quarter : Fl.rv double 4598175219545276416 = 1 / 4 := by
  have h := rv_pow 1020
  rw [show 1020 * 4503599627370496 + 4503599627370496 = 4598175219545276416 by decide] at h
  rw [h]; decide +kernel
theorem lit_quarter : BC (litC 4598175219545276416) (1 / 4) (1 / 4) := by
  have := lit_bc (b := 4598175219545276416) (by omega)
  rw [rv_quarter] at this
  exact this
theorem lit_tau : PC (litC 4618760256179416344) 3 := by
  have h := lit_bc (b := 4618760256179416344) (by omega)
  have h2 : Fl.rv double 4618760256179416344 ≤ Fl.rv double (pw 3) := Fl.rv_le_of _ (by decide) (by decide)
  rw [rv_pw] at h2
  have h3 := Fl.rv_nonneg double 4618760256179416344
  have h4 := pow_nonneg 3
  exact BC.mono h (by grind) h2

/-- Two classes compared. -/
theorem BC.lt_iff {a b : Option Nat} {la ha lb hb : Rat} (h : BC a la ha) (k : BC b lb hb) (hk : lb = hb) : (ltC a b = true → BC a la lb) ∧ (ltC a b = false → BC a lb ha ∨ lb ≤ la) := by
  obtain ⟨x, rfl, fx, x1, x2⟩ := h
  obtain ⟨y, rfl, fy, y1, y2⟩ := k
  have ho := Fl.order_fin fx fy
  constructor
  · intro h1
    have h2 : double.order x y = some .lt := eq_of_beq h1
    have := ho.1.1 h2
    exact ⟨x, rfl, fx, x1, by grind⟩
  · intro h1
    left
    refine ⟨x, rfl, fx, ?_, x2⟩
    apply Rat.not_lt.1
    intro hc
    have h3 : Fl.sv double x < Fl.sv double y := by grind
    have h4 := ho.1.2 h3
    have : ltC (some x) (some y) = true := by
      show (double.order x y == some .lt) = true
      rw [h4]; rfl
    rw [h1] at this; cases this
theorem BC.ge_case {a b : Option Nat} {la ha c : Rat} (h : BC a la ha) (k : BC b c c) : (geC a b = true → BC a c ha) ∧ (geC a b = false → BC a la c) := by
  obtain ⟨x, rfl, fx, x1, x2⟩ := h
  obtain ⟨y, rfl, fy, y1, y2⟩ := k
  have ho := Fl.order_fin fx fy
  have e : geC (some x) (some y) = (double.order x y == some .gt || double.order x y == some .eq) := rfl
  constructor
  · intro h1
    refine ⟨x, rfl, fx, ?_, x2⟩
    rw [e] at h1
    simp only [Bool.or_eq_true, beq_iff_eq] at h1
    rcases h1 with h1 | h1
    · have := ho.2.2.1 h1; grind
    · have := ho.2.1.1 h1; grind
  · intro h1
    refine ⟨x, rfl, fx, x1, ?_⟩
    apply Rat.not_lt.1
    intro hc
    have h3 : Fl.sv double y < Fl.sv double x := by grind
    rw [e, ho.2.2.2 h3] at h1
    cases h1
theorem BC.gt_case {a b : Option Nat} {la ha c : Rat} (h : BC a la ha) (k : BC b c c) : (gtC a b = true → BC a c ha) ∧ (gtC a b = false → BC a la c) := by
  obtain ⟨x, rfl, fx, x1, x2⟩ := h
  obtain ⟨y, rfl, fy, y1, y2⟩ := k
  have ho := Fl.order_fin fx fy
  have e : gtC (some x) (some y) = (double.order x y == some .gt) := rfl
  constructor
  · intro h1
    refine ⟨x, rfl, fx, ?_, x2⟩
    rw [e] at h1
    have := ho.2.2.1 (eq_of_beq h1)
    grind
  · intro h1
    refine ⟨x, rfl, fx, x1, ?_⟩
    apply Rat.not_lt.1
    intro hc
    have h3 : Fl.sv double y < Fl.sv double x := by grind
    rw [e, ho.2.2.2 h3] at h1
    cases h1

theorem part0_bc {x : Nat} (hf : Fl.Fin double x) (hb : Fl.rv double (Fl.rg double x) ≤ (2 : Rat) ^ 52) : BC (part0 x) (-1) 1 := by
  obtain ⟨_, h2, h3, h4⟩ := trunc_facts hf hb
  obtain ⟨y, hy, fy, y1, y2⟩ := intC_bc h2
  obtain ⟨r, hr, hn⟩ := Fl.sub_near hf fy
  have hc : Fl.cls .f64 x = some x := Fl.cls_some (k := .f64) (Fl.fin_nan hf)
  have e : part0 x = some r := by
    unfold part0
    rw [hc, hy]; exact hr
  rw [e]
  have := near_bc hn (R := 4607182418800017408) (by decide) (by
    rw [rv_one]
    cases hs : Fl.sg double x
    · have := h3 hs; grind
    · have := h4 hs; grind) (by
    rw [rv_one]
    cases hs : Fl.sg double x
    · have := h3 hs; grind
    · have := h4 hs; grind)
  rw [rv_one] at this
  exact this
theorem partC_bc {x : Nat} (hf : Fl.Fin double x) (hb : Fl.rv double (Fl.rg double x) ≤ (2 : Rat) ^ 52) : BC (partC x) 0 1 := by
  have h0 := part0_bc hf hb
  have hc := BC.lt_iff h0 lit_zero rfl
  unfold partC
  cases h1 : ltC (part0 x) (litC 0) with
  | true =>
    have h2 := hc.1 h1
    obtain ⟨r, v, e, hn, i1, i2⟩ := BC.add_near h2 lit_one
    show BC (addC _ _) 0 1
    rw [e]
    have := near_pos hn (R := 4607182418800017408) (by decide) (by grind) (by rw [rv_one]; grind)
    rw [rv_one] at this
    exact this
  | false =>
    rcases hc.2 h1 with h2 | h2
    · exact h2
    · exfalso; revert h2; decide
theorem half_bc {f : Option Nat} (h : BC f 0 1) : BC (half f) 0 (1 / 2) := by
  have hc := BC.ge_case h lit_half
  unfold half
  cases h1 : geC f (litC 4602678819172646912) with
  | true =>
    obtain ⟨r, v, e, hn, i1, i2⟩ := BC.sub_near (hc.1 h1) lit_half
    show BC (subC _ _) 0 (1 / 2)
    rw [e]
    have := near_pos hn (R := 4602678819172646912) (by decide) (by grind) (by rw [rv_half]; grind)
    rw [rv_half] at this
    exact this
  | false => exact hc.2 h1
theorem fold_bc {f : Option Nat} (h : BC f 0 (1 / 2)) : BC (fold f) 0 (1 / 2) := by
  unfold fold
  cases h1 : gtC f (litC 4598175219545276416) with
  | true =>
    obtain ⟨r, v, e, hn, i1, i2⟩ := BC.sub_near lit_half h
    show BC (subC _ _) 0 (1 / 2)
    rw [e]
    have := near_pos hn (R := 4602678819172646912) (by decide) (by grind) (by rw [rv_half]; grind)
    rw [rv_half] at this
    exact this
  | false => exact h
theorem pc_one : PC (litC 4607182418800017408) 0 := BC.mono lit_one (by decide +kernel) (by decide +kernel)
theorem zC_pc {x : Nat} (h : BC (partC x) 0 1) : PC (zC x) 3 := by
  have h1 : PC (fold (half (partC x))) 0 := BC.mono (fold_bc (half_bc h)) (by decide +kernel) (by decide +kernel)
  exact PC.mul h1 lit_tau (by decide)
theorem den_bc {j : Nat} (h : j < 8) : BC (intC (2 * (8 - (j : Int)) * (2 * (8 - (j : Int)) + 1))) 1 300 := by
  rcases (by omega : j = 0 ∨ j = 1 ∨ j = 2 ∨ j = 3 ∨ j = 4 ∨ j = 5 ∨ j = 6 ∨ j = 7) with rfl | rfl | rfl | rfl | rfl | rfl | rfl | rfl
  all_goals exact BC.mono (intC_bc (by decide)) (by decide +kernel) (by decide +kernel)
theorem sumC_pc {u : Option Nat} (h : PC u 6) : ∀ j, j ≤ 8 → PC (sumC u j) (8 * j)
  | 0, _ => pc_one
  | j + 1, hj => by
    have ih := sumC_pc h j (by omega)
    have h1 := PC.mul h ih (by omega)
    have h2 := PC.quo h1 (den_bc (j := j) (by omega)) Rat.le_refl (by omega)
    have h3 := PC.sub (pc_one.mono (by omega)) h2 (by omega)
    exact h3.mono (by omega)
theorem neg_pc {C : Option Nat} {j : Nat} (h : PC C j) : PC (negC C) j := by
  obtain ⟨r, rfl, f, a, b⟩ := h
  have e := neg_rg r
  refine ⟨_, rfl, by unfold Fl.Fin at *; rw [e]; exact f, ?_⟩
  have n := Fl.rv_nonneg double (Fl.rg double r)
  unfold Fl.sv at *
  rw [e]
  split at a <;> split <;> constructor <;> grind
theorem sineC_pc {x : Nat} (h : BC (partC x) 0 1) : PC (sineC x) 67 := by
  have hz := zC_pc h
  have hu := PC.mul hz hz (by decide)
  have hs := sumC_pc hu 8 (by decide)
  have hm := PC.mul hz hs (by decide)
  unfold sineC
  cases geC (partC x) (litC 4602678819172646912) with
  | true => exact neg_pc hm
  | false => exact hm
end Go.Proofs.Ytimdlnbdnednaac
