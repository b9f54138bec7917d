/- Bounds of doubles of a class: what rounding, sums, products and quotients keep. -/
import Derived.Test.YtimdlnbdnednaacSineC
namespace Go.Proofs.Ytimdlnbdnednaac
open Go.RowKit Ieee

/-- A class of a finite double between two bounds. -/
def BC (C : Option Nat) (lo hi : Rat) : Prop := ∃ r, C = some r ∧ Fl.Fin double r ∧ lo ≤ Fl.sv double r ∧ Fl.sv double r ≤ hi

theorem BC.mono {C : Option Nat} {lo hi lo' hi' : Rat} (h : BC C lo hi) (h1 : lo' ≤ lo) (h2 : hi ≤ hi') : BC C lo' hi' := by
  obtain ⟨r, e, f, a, b⟩ := h
  exact ⟨r, e, f, Rat.le_trans h1 a, Rat.le_trans b h2⟩

theorem near_bc {v : Rat} {r R : Nat} (h : Fl.Near double v r) (hR : R < double.infRung) (h1 : -(Fl.rv double R) ≤ v) (h2 : v ≤ Fl.rv double R) : BC (some r) (-(Fl.rv double R)) (Fl.rv double R) := by
  have := h.bound R hR h2 h1
  exact ⟨r, rfl, this.1, this.2.2, this.2.1⟩
theorem near_pos {v : Rat} {r R : Nat} (h : Fl.Near double v r) (hR : R < double.infRung) (h1 : 0 ≤ v) (h2 : v ≤ Fl.rv double R) : BC (some r) 0 (Fl.rv double R) := by
  have hn := Fl.rv_nonneg double R
  have := h.bound R hR h2 (by grind)
  exact ⟨r, rfl, this.1, h.nonneg h1, this.2.1⟩
theorem near_ge {v : Rat} {r R Q : Nat} (h : Fl.Near double v r) (hR : R < double.infRung) (hQ : Q ≤ double.infRung) (h0 : 0 < Q) (h1 : Fl.rv double Q ≤ v) (h2 : v ≤ Fl.rv double R) : BC (some r) (Fl.rv double Q) (Fl.rv double R) := by
  have hn := Fl.rv_nonneg double R
  have hq := Fl.rv_nonneg double Q
  have := h.bound R hR h2 (by grind)
  exact ⟨r, rfl, this.1, h.above Q hQ h0 h1, this.2.1⟩

theorem BC.add_near {a b : Option Nat} {la ha lb hb : Rat} (h : BC a la ha) (k : BC b lb hb) : ∃ r v, addC a b = some r ∧ Fl.Near double v r ∧ la + lb ≤ v ∧ v ≤ ha + hb := by
  obtain ⟨x, rfl, fx, x1, x2⟩ := h
  obtain ⟨y, rfl, fy, y1, y2⟩ := k
  obtain ⟨r, hr, hn⟩ := Fl.add_near fx fy
  exact ⟨r, _, hr, hn, by grind, by grind⟩
theorem BC.sub_near {a b : Option Nat} {la ha lb hb : Rat} (h : BC a la ha) (k : BC b lb hb) : ∃ r v, subC a b = some r ∧ Fl.Near double v r ∧ la - hb ≤ v ∧ v ≤ ha - lb := by
  obtain ⟨x, rfl, fx, x1, x2⟩ := h
  obtain ⟨y, rfl, fy, y1, y2⟩ := k
  obtain ⟨r, hr, hn⟩ := Fl.sub_near fx fy
  exact ⟨r, _, hr, hn, by grind, by grind⟩
theorem abs_mul {x y A B : Rat} (h1 : -A ≤ x) (h2 : x ≤ A) (h3 : -B ≤ y) (h4 : y ≤ B) : -(A * B) ≤ x * y ∧ x * y ≤ A * B := by
  have p1 : 0 ≤ (A - x) * (B + y) := Rat.mul_nonneg (by grind) (by grind)
  have p2 : 0 ≤ (A + x) * (B - y) := Rat.mul_nonneg (by grind) (by grind)
  have p3 : 0 ≤ (A - x) * (B - y) := Rat.mul_nonneg (by grind) (by grind)
  have p4 : 0 ≤ (A + x) * (B + y) := Rat.mul_nonneg (by grind) (by grind)
  constructor <;> grind
theorem BC.mul_near {a b : Option Nat} {A B : Rat} (h : BC a (-A) A) (k : BC b (-B) B) : ∃ r v, mulC a b = some r ∧ Fl.Near double v r ∧ -(A * B) ≤ v ∧ v ≤ A * B := by
  obtain ⟨x, rfl, fx, x1, x2⟩ := h
  obtain ⟨y, rfl, fy, y1, y2⟩ := k
  obtain ⟨r, hr, hn⟩ := Fl.mul_near fx fy
  have := abs_mul x1 x2 y1 y2
  exact ⟨r, _, hr, hn, this.1, this.2⟩

/-- A quotient, to some digits, is at most twice the true one. -/
theorem quotient_val {s t : Bool} {m n : Nat} {i j : Int} (hn : n ≠ 0) : ∃ s' m' e', (Datum.number s m i).quotient 54 (.number t n j) = some (.number s' m' e') ∧ Fl.qv m' e' * Fl.qv n j ≤ 2 * Fl.qv m i := by
  refine ⟨s ^^ t, 2 * ((m <<< (54 + n.log2 - m.log2)) / n) + ((m <<< (54 + n.log2 - m.log2)) % n != 0).toNat, i - j - ((54 + n.log2 - m.log2 : Nat) : Int) - 1, by simp only [Datum.quotient, if_neg hn], ?_⟩
  generalize hmore : 54 + n.log2 - m.log2 = more
  rw [← Fl.qv_mul]
  have e0 : (2 : Rat) * Fl.qv m i = Fl.qv (4 * (m <<< more)) (i - more - 1) := by
    have h1 : Fl.qv m i = Fl.qv (m * 2 ^ (more + 1)) (i - more - 1) := by
      rw [Fl.qv_shift m (show i - more - 1 ≤ i by omega)]
      congr 3
      omega
    rw [h1, Nat.shiftLeft_eq, Nat.pow_succ]
    unfold Fl.qv
    have : ((4 * (m * 2 ^ more) : Nat) : Rat) = 2 * ((m * (2 ^ more * 2) : Nat) : Rat) := by
      have : 4 * (m * 2 ^ more) = 2 * (m * (2 ^ more * 2)) := by grind
      rw [this, Rat.natCast_mul]; rfl
    rw [this, Rat.mul_assoc]
  rw [e0, show i - j - (more : Int) - 1 + j = i - more - 1 by omega, Fl.qv_le_same]
  have hD : (m <<< more) = m * 2 ^ more := Nat.shiftLeft_eq _ _
  rw [hD]
  generalize m * 2 ^ more = D at *
  by_cases hm : D = 0
  · subst hm; simp
  · have hb : (D % n != 0).toNat ≤ 1 := by cases (D % n != 0) <;> decide
    have hdiv := Nat.div_mul_le_self D n
    by_cases hlt : D < n
    · -- the dividend has digits enough
      exfalso
      have hm0 : m ≠ 0 := by rintro rfl; apply hm; rw [← hD]; simp
      have h1 : 2 ^ m.log2 ≤ m := Nat.log2_self_le hm0
      have h2 : n < 2 ^ (n.log2 + 1) := Nat.lt_log2_self
      have h3 : 2 ^ m.log2 * 2 ^ more ≤ D := by rw [← hD, Nat.shiftLeft_eq]; exact Nat.mul_le_mul_right _ h1
      rw [← Nat.pow_add] at h3
      have h4 : 2 ^ (n.log2 + 1) ≤ 2 ^ (m.log2 + more) := Nat.pow_le_pow_right (by omega) (by omega)
      omega
    · have h1 : 1 ≤ D / n := (Nat.le_div_iff_mul_le (by omega)).2 (by omega)
      have h2 : (2 * (D / n) + (D % n != 0).toNat) * n ≤ (4 * (D / n)) * n := Nat.mul_le_mul_right _ (by omega)
      have h3 : (4 * (D / n)) * n = 4 * (D / n * n) := Nat.mul_assoc _ _ _
      omega

theorem abs_quo {q b A : Rat} (hq : 0 ≤ q) (hb : 1 ≤ b) (h : q * b ≤ 2 * A) : q ≤ 2 * A := by
  have : 0 ≤ q * (b - 1) := Rat.mul_nonneg hq (by grind)
  grind
theorem BC.quo_near {a b : Option Nat} {A lb hb : Rat} (h : BC a (-A) A) (k : BC b lb hb) (h1 : 1 ≤ lb) : ∃ r v, quoC a b = some r ∧ Fl.Near double v r ∧ -(2 * A) ≤ v ∧ v ≤ 2 * A := by
  obtain ⟨x, rfl, fx, x1, x2⟩ := h
  obtain ⟨y, rfl, fy, y1, y2⟩ := k
  have hy : 1 ≤ Fl.sv double y := Rat.le_trans h1 y1
  have rx := Fl.read_fin fx
  have ry := Fl.read_fin fy
  have hsy : Fl.sv double y = Fl.rv double (Fl.rg double y) := by
    have := Fl.rv_nonneg double (Fl.rg double y)
    unfold Fl.sv at hy ⊢
    split at hy
    · grind
    · rename_i hs; rw [if_neg hs]
  have hn : Fl.rk double (Fl.rg double y) ≠ 0 := by
    intro h0
    rw [hsy] at hy
    unfold Fl.rv Fl.qv at hy
    rw [h0] at hy
    simp at hy
    revert hy; decide
  obtain ⟨s', m', e', hq, hle⟩ := quotient_val (s := Fl.sg double x) (t := Fl.sg double y) (m := Fl.rk double (Fl.rg double x)) (i := double.leastPlace + (Fl.rq double (Fl.rg double x) : Nat)) (j := double.leastPlace + (Fl.rq double (Fl.rg double y) : Nat)) hn
  refine ⟨_, Fl.dv s' m' e', by
    show double.div x y = _
    unfold Format.div
    rw [rx, ry]
    show Option.map double.write (Datum.quotient 54 _ _) = _
    rw [hq]; rfl, Fl.near_write double rfl, ?_⟩
  have hx : Fl.rv double (Fl.rg double x) ≤ A := by
    unfold Fl.sv at x1 x2
    split at x1 <;> grind
  have hb2 : Fl.qv m' e' * Fl.rv double (Fl.rg double y) ≤ 2 * A := by
    have h3 : Fl.qv m' e' * Fl.rv double (Fl.rg double y) ≤ 2 * Fl.rv double (Fl.rg double x) := hle
    grind
  rw [hsy] at hy
  have h4 := abs_quo (Fl.qv_nonneg m' e') hy hb2
  have h5 := Fl.qv_nonneg m' e'
  unfold Fl.dv
  split <;> constructor <;> grind

/-- The rung of a power of two, and the value of a literal. -/
theorem rv_pow (q : Nat) : Fl.rv double (q * 4503599627370496 + 4503599627370496) = Fl.qv 1 ((q : Int) - 1022) := by
  have := Fl.rv_of double (q := q) (k := 4503599627370496) (by decide) (Or.inr (by decide))
  rw [Fl.double_B, Fl.double_lp] at this
  rw [this]
  apply Rat.le_antisymm
  · rw [Fl.qv_le, show ((-1074 + (q : Int)) - ((q : Int) - 1022)).toNat = 0 by omega, show (((q : Int) - 1022) - (-1074 + (q : Int))).toNat = 52 by omega]; decide
  · rw [Fl.qv_le, show ((-1074 + (q : Int)) - ((q : Int) - 1022)).toNat = 0 by omega, show (((q : Int) - 1022) - (-1074 + (q : Int))).toNat = 52 by omega]; decide
/-- The rung of 2 to the power of j. -/
def pw (j : Nat) : Nat := (1022 + j) * 4503599627370496 + 4503599627370496
theorem pw_lt {j : Nat} (h : j ≤ 1000) : pw j < double.infRung := by
  rw [Fl.double_inf]; unfold pw
  have : (1022 + j) * 4503599627370496 ≤ 2022 * 4503599627370496 := Nat.mul_le_mul_right _ (by omega)
  omega
theorem rv_pw (j : Nat) : Fl.rv double (pw j) = (2 : Rat) ^ j := by
  unfold pw
  rw [rv_pow, show (((1022 + j : Nat) : Int) - 1022) = (j : Int) by omega]
  unfold Fl.qv
  rw [Rat.zpow_natCast]
  exact Rat.one_mul _

/-- A class within a power of two. -/
def PC (C : Option Nat) (j : Nat) : Prop := BC C (-((2 : Rat) ^ j)) ((2 : Rat) ^ j)
theorem pow_nonneg (j : Nat) : (0 : Rat) ≤ (2 : Rat) ^ j := Rat.le_of_lt (Rat.pow_pos (by decide))
theorem pow_add (i j : Nat) : (2 : Rat) ^ (i + j) = (2 : Rat) ^ i * (2 : Rat) ^ j := by
  induction j with
  | zero => simp
  | succ j ih => rw [← Nat.add_assoc, Rat.pow_succ, ih, Rat.pow_succ, Rat.mul_assoc]
theorem pow_le {i j : Nat} (h : i ≤ j) : (2 : Rat) ^ i ≤ (2 : Rat) ^ j := by
  obtain ⟨k, rfl⟩ : ∃ k, j = i + k := ⟨j - i, by omega⟩
  induction k with
  | zero => exact Rat.le_refl
  | succ k ih =>
    have h1 := ih (by omega)
    have h2 := pow_nonneg (i + k)
    rw [show i + (k + 1) = (i + k) + 1 by omega, Rat.pow_succ]
    grind
theorem PC.mono {C : Option Nat} {i j : Nat} (h : PC C i) (hij : i ≤ j) : PC C j := BC.mono h (by have := pow_le hij; grind) (pow_le hij)
theorem PC.of {C : Option Nat} {lo hi : Rat} (h : BC C lo hi) {j : Nat} (h1 : -((2 : Rat) ^ j) ≤ lo) (h2 : hi ≤ (2 : Rat) ^ j) : PC C j := BC.mono h h1 h2
theorem pc_of_near {v : Rat} {r j : Nat} (hj : j ≤ 1000) (h : Fl.Near double v r) (h1 : -((2 : Rat) ^ j) ≤ v) (h2 : v ≤ (2 : Rat) ^ j) : PC (some r) j := by
  have := near_bc h (pw_lt hj) (by rw [rv_pw]; exact h1) (by rw [rv_pw]; exact h2)
  rw [rv_pw] at this
  exact this
theorem PC.mul {a b : Option Nat} {i j : Nat} (h : PC a i) (k : PC b j) (hj : i + j ≤ 1000) : PC (mulC a b) (i + j) := by
  obtain ⟨r, v, e, hn, h1, h2⟩ := BC.mul_near h k
  rw [e]
  exact pc_of_near hj hn (by rw [pow_add]; exact h1) (by rw [pow_add]; exact h2)
theorem PC.add {a b : Option Nat} {i : Nat} (h : PC a i) (k : PC b i) (hj : i + 1 ≤ 1000) : PC (addC a b) (i + 1) := by
  obtain ⟨r, v, e, hn, h1, h2⟩ := BC.add_near h k
  rw [e]
  have e2 : (2 : Rat) ^ (i + 1) = (2 : Rat) ^ i * 2 := Rat.pow_succ _ _
  exact pc_of_near hj hn (by rw [e2]; grind) (by rw [e2]; grind)
theorem PC.sub {a b : Option Nat} {i : Nat} (h : PC a i) (k : PC b i) (hj : i + 1 ≤ 1000) : PC (subC a b) (i + 1) := by
  obtain ⟨r, v, e, hn, h1, h2⟩ := BC.sub_near h k
  rw [e]
  have e2 : (2 : Rat) ^ (i + 1) = (2 : Rat) ^ i * 2 := Rat.pow_succ _ _
  exact pc_of_near hj hn (by rw [e2]; grind) (by rw [e2]; grind)
theorem PC.quo {a b : Option Nat} {i : Nat} {lb hb : Rat} (h : PC a i) (k : BC b lb hb) (h1 : 1 ≤ lb) (hj : i + 1 ≤ 1000) : PC (quoC a b) (i + 1) := by
  obtain ⟨r, v, e, hn, h2, h3⟩ := BC.quo_near h k h1
  rw [e]
  have e2 : (2 : Rat) ^ (i + 1) = (2 : Rat) ^ i * 2 := Rat.pow_succ _ _
  exact pc_of_near hj hn (by rw [e2]; grind) (by rw [e2]; grind)

/-- An integer below 2 to the power of 53 is a double. -/
theorem int_rung {m : Nat} (h1 : m < 2 ^ 53) : ∃ R, R < double.infRung ∧ Fl.qv m 0 = Fl.rv double R := by
  by_cases hm : m = 0
  · subst hm
    refine ⟨0, by decide, ?_⟩
    rw [Fl.rv_zero]; unfold Fl.qv; simp
  · have hlo : 2 ^ m.log2 ≤ m := Nat.log2_self_le hm
    have hhi : m < 2 ^ (m.log2 + 1) := Nat.lt_log2_self
    have hL : m.log2 ≤ 52 := by
      have : m.log2 < 53 := (Nat.log2_lt hm).2 h1
      omega
    generalize m.log2 = L at *
    have k1 : 2 ^ 52 ≤ m * 2 ^ (52 - L) := by
      have : 2 ^ L * 2 ^ (52 - L) ≤ m * 2 ^ (52 - L) := Nat.mul_le_mul_right _ hlo
      rw [← Nat.pow_add, show L + (52 - L) = 52 by omega] at this
      exact this
    have k2 : m * 2 ^ (52 - L) < 2 * 2 ^ 52 := by
      have : m * 2 ^ (52 - L) < 2 ^ (L + 1) * 2 ^ (52 - L) := Nat.mul_lt_mul_of_pos_right hhi (Nat.two_pow_pos _)
      rw [← Nat.pow_add, show L + 1 + (52 - L) = 53 by omega] at this
      exact this
    refine ⟨(L + 1022) * double.binade + m * 2 ^ (52 - L), ?_, ?_⟩
    · rw [Fl.double_inf, Fl.double_B]
      have : (L + 1022) * 4503599627370496 ≤ 1200 * 4503599627370496 := Nat.mul_le_mul_right _ (by omega)
      omega
    · rw [Fl.rv_of double (by rw [Fl.double_B]; exact k2) (Or.inr (by rw [Fl.double_B]; exact k1)), Fl.double_lp]
      rw [Fl.qv_shift m (e := 0) (b := -1074 + ((L + 1022 : Nat) : Int)) (by omega), show (0 - (-1074 + ((L + 1022 : Nat) : Int))).toNat = 52 - L by omega]
theorem intC_bc {n : Int} (h : n.natAbs < 2 ^ 53) : BC (intC n) (n : Rat) (n : Rat) := by
  obtain ⟨R, hR, hv⟩ := int_rung h
  have hw := Fl.write_exact (s := decide (n < 0)) hR hv
  have e : floatOfInt .f64 n = double.write (.number (decide (n < 0)) n.natAbs 0) := rfl
  have hval : Fl.dv (decide (n < 0)) n.natAbs 0 = (n : Rat) := by
    unfold Fl.dv Fl.qv
    rw [Rat.zpow_zero, Rat.mul_one, ← Rat.intCast_natCast]
    split
    · rename_i h0
      simp at h0
      rw [← Rat.intCast_neg]; congr 1; omega
    · rename_i h0
      simp at h0
      congr 1; omega
  refine ⟨floatOfInt .f64 n, ?_, by rw [e]; exact hw.1, by rw [e, hw.2, hval]; exact Rat.le_refl, by rw [e, hw.2, hval]; exact Rat.le_refl⟩
  unfold intC
  exact Fl.cls_some (k := .f64) (by rw [e]; exact Fl.fin_nan hw.1)

/-- A literal above zero. -/
theorem lit_bc {b : Nat} (h : b < 9218868437227405312) : BC (litC b) (Fl.rv double b) (Fl.rv double b) := by
  have hr : Fl.rg double b = b := by unfold Fl.rg; rw [Fl.double_S]; omega
  have hs : Fl.sg double b = false := by unfold Fl.sg; rw [Fl.double_S, Nat.div_eq_of_lt (by omega)]; rfl
  have hf : Fl.Fin double b := by unfold Fl.Fin; rw [hr, Fl.double_inf]; exact h
  have hv : Fl.sv double b = Fl.rv double b := by unfold Fl.sv; rw [hs, hr]; rfl
  exact ⟨b, Fl.cls_some (k := .f64) (Fl.fin_nan hf), hf, by rw [hv]; exact Rat.le_refl, by rw [hv]; exact Rat.le_refl⟩
end Go.Proofs.Ytimdlnbdnednaac
