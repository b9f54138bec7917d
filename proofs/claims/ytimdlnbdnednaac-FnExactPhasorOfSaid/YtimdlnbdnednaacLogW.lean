/- The logarithm: classes, and the program's function. -/
import Derived.Test.YtimdlnbdnednaacAngleB
namespace Go.Proofs.Ytimdlnbdnednaac
open Go.RowKit Ieee
attribute [local go_sem] run_add run_sub run_mul run_quo Fl.cls_ares Fl.ord_bits run_neg

/-- A positive double is halved until it is less than 1.5, and doubled until it is at least 0.75: j times, i times. -/
structure Steps (b j i : Nat) : Prop where
  room : j * 4503599627370496 ≤ b
  low : 4604930618986332160 ≤ b - j * 4503599627370496 + i * 4503599627370496
  high : b - j * 4503599627370496 + i * 4503599627370496 < 4609434218613702656
  leastj : j = 0 ∨ 4609434218613702656 ≤ b - (j - 1) * 4503599627370496
  leasti : i = 0 ∨ b - j * 4503599627370496 + (i - 1) * 4503599627370496 < 4604930618986332160
theorem Steps.one {b j i j' i' : Nat} (h : Steps b j i) (h' : Steps b j' i') : j = j' ∧ i = i' := by
  obtain ⟨a1, a2, a3, a4, a5⟩ := h
  obtain ⟨c1, c2, c3, c4, c5⟩ := h'
  omega
/-- Within the normal doubles, far from their ends. -/
def Mid (b : Nat) : Prop := 3000000000000000000 ≤ b ∧ b < 6000000000000000000

theorem word_facts {b : Nat} (h : b < 9218868437227405312) : Fl.rg double b = b ∧ Fl.sg double b = false ∧ Fl.Fin double b ∧ Fl.sv double b = Fl.rv double b ∧ Fl.cls .f64 b = some b := by
  have hr : Fl.rg double b = b := by unfold Fl.rg; rw [Fl.double_S]; omega
  have hs : Fl.sg double b = false := by unfold Fl.sg; rw [Fl.double_S, Nat.div_eq_of_lt (by omega)]; rfl
  have hf : Fl.Fin double b := by unfold Fl.Fin; rw [hr, Fl.double_inf]; exact h
  exact ⟨hr, hs, hf, by unfold Fl.sv; rw [hs, hr]; rfl, Fl.cls_some (k := .f64) (Fl.fin_nan hf)⟩
theorem order_word {a b : Nat} (ha : a < 9218868437227405312) (hb : b < 9218868437227405312) : (double.order a b = some .lt ↔ a < b) ∧ (double.order a b = some .eq ↔ a = b) ∧ (double.order a b = some .gt ↔ b < a) := by
  obtain ⟨_, _, fa, va, _⟩ := word_facts ha
  obtain ⟨_, _, fb, vb, _⟩ := word_facts hb
  have o := Fl.order_fin fa fb
  rw [va, vb] at o
  have ia : a ≤ double.infRung := by rw [Fl.double_inf]; omega
  have ib : b ≤ double.infRung := by rw [Fl.double_inf]; omega
  refine ⟨o.1.trans ⟨fun h => ?_, fun h => Fl.rv_lt_inf _ h ib⟩, o.2.1.trans ⟨fun h => ?_, fun h => by rw [h]⟩, o.2.2.trans ⟨fun h => ?_, fun h => Fl.rv_lt_inf _ h ia⟩⟩
  · rcases Nat.lt_or_ge a b with h1 | h1
    · exact h1
    · exact absurd h (Rat.not_lt.2 (Fl.rv_le_of _ h1 ia))
  · have h1 := (Fl.rv_le_iff double ia ib).1 (by rw [h]; exact Rat.le_refl)
    have h2 := (Fl.rv_le_iff double ib ia).1 (by rw [h]; exact Rat.le_refl)
    omega
  · rcases Nat.lt_or_ge b a with h1 | h1
    · exact h1
    · exact absurd h (Rat.not_lt.2 (Fl.rv_le_of _ h1 ib))
theorem ge_word {a b : Nat} (ha : a < 9218868437227405312) (hb : b < 9218868437227405312) : (Fl.ordC .f64 (Fl.cls .f64 a) (Fl.cls .f64 b) == some Ordering.gt || Fl.ordC .f64 (Fl.cls .f64 a) (Fl.cls .f64 b) == some Ordering.eq) = decide (b ≤ a) := by
  rw [← Fl.ord_bits]
  show (double.order a b == some .gt || double.order a b == some .eq) = _
  have o := order_word ha hb
  rcases Nat.lt_trichotomy a b with h | h | h
  · rw [o.1.2 h]; simp; omega
  · rw [o.2.1.2 h]; simp; omega
  · rw [o.2.2.2 h]; simp; omega
theorem lt_word {a b : Nat} (ha : a < 9218868437227405312) (hb : b < 9218868437227405312) : (Fl.ordC .f64 (Fl.cls .f64 a) (Fl.cls .f64 b) == some Ordering.lt) = decide (a < b) := by
  rw [← Fl.ord_bits]
  show (double.order a b == some .lt) = _
  have o := order_word ha hb
  rcases Nat.lt_trichotomy a b with h | h | h
  · rw [o.1.2 h]; simp; omega
  · rw [o.2.1.2 h]; simp; omega
  · rw [o.2.2.2 h]; simp; omega

/-- A normal word's significand and place. -/
theorem word_split {b : Nat} (h1 : 4503599627370496 ≤ b) : ∃ q k, b = q * 4503599627370496 + k ∧ 4503599627370496 ≤ k ∧ k < 9007199254740992 ∧ Fl.rk double b = k ∧ Fl.rq double b = q := by
  have hs := Fl.rung_split double b
  have hk := Fl.rk_lt double b
  rw [Fl.double_B] at hs hk
  refine ⟨_, _, hs, ?_, by omega, rfl, rfl⟩
  unfold Fl.rk
  rw [Fl.double_B, if_neg (by omega)]
  omega
theorem two_read : ∃ N : Nat, N = 4503599627370496 ∧ double.read 4611686018427387904 = .number false N (-51) ∧ N.log2 = 52 := ⟨_, rfl, by decide +kernel, by decide +kernel⟩
theorem two_cls : Fl.cls .f64 4611686018427387904 = some 4611686018427387904 := by decide

theorem halve {b : Nat} (h1 : 9007199254740992 ≤ b) (h2 : b < 9218868437227405312) : Fl.arC .quo .f64 (Fl.cls .f64 b) (Fl.cls .f64 4611686018427387904) = some (b - 4503599627370496) := by
  obtain ⟨hr, hs, hf, hv, hc⟩ := word_facts h2
  obtain ⟨q, k, e, k1, k2, ek, eq⟩ := word_split (b := b) (by omega)
  obtain ⟨N, hN, tr, tl⟩ := two_read
  have hq : 1 ≤ q := by omega
  have hread := Fl.read_fin hf
  rw [hs, hr, ek, eq, Fl.double_lp] at hread
  have hlog : k.log2 = 52 := (Nat.log2_eq_iff (by omega)).2 ⟨by omega, by omega⟩
  obtain ⟨R, hRd⟩ : ∃ R, R = b - 4503599627370496 := ⟨_, rfl⟩
  rw [hc, two_cls, ← hRd]
  obtain ⟨M, hM⟩ : ∃ M, M = k * 2 ^ 54 := ⟨_, rfl⟩
  have e0 : M = N * (k * 4) := by rw [hM, hN]; omega
  have hN0 : 0 < N := by omega
  have e1 : M / N = k * 4 := by rw [e0]; exact Nat.mul_div_cancel_left _ hN0
  have e2 : M % N = 0 := by rw [e0]; exact Nat.mul_mod_right _ _
  have hR : Fl.qv (2 * (k * 4)) (-1074 + (q : Int) - -51 - 54 - 1) = Fl.rv double R := by
    have e3 : R = (q - 1) * double.binade + k := by rw [Fl.double_B]; omega
    rw [e3, Fl.rv_of double (by rw [Fl.double_B]; omega) (Or.inr (by rw [Fl.double_B]; omega)), Fl.double_lp]
    rw [Fl.qv_shift k (e := -1074 + ((q - 1 : Nat) : Int)) (b := -1074 + (q : Int) - -51 - 54 - 1) (by omega), show (-1074 + ((q - 1 : Nat) : Int) - (-1074 + (q : Int) - -51 - 54 - 1)).toNat = 3 by omega]
    rw [show 2 * (k * 4) = k * 2 ^ 3 by omega]
  have hw := Fl.nrung_exact double false (R := R) (by rw [Fl.double_inf]; omega) hR
  show double.div b 4611686018427387904 = _
  unfold Format.div
  rw [hread, tr]
  show Option.map double.write (Datum.quotient 54 _ _) = _
  have hn0 : ¬ N = 0 := by omega
  have hqv : Datum.quotient 54 (.number false k (-1074 + (q : Int))) (.number false N (-51)) = some (.number false (2 * (k * 4)) (-1074 + (q : Int) - -51 - 54 - 1)) := by
    simp only [Datum.quotient, if_neg hn0, hlog, tl, Nat.shiftLeft_eq]
    rw [show k * 2 ^ (54 + 52 - 52) = M from hM.symm, e1, e2]
    rfl
  rw [hqv]
  show some (double.nearest _ _ _) = _
  rw [Fl.nearest_nrung, hw]
  rfl
theorem double_word {b : Nat} (h1 : 9007199254740992 ≤ b) (h2 : b < 9000000000000000000) : Fl.arC .mul .f64 (Fl.cls .f64 b) (Fl.cls .f64 4611686018427387904) = some (b + 4503599627370496) := by
  obtain ⟨hr, hs, hf, hv, hc⟩ := word_facts (b := b) (by omega)
  obtain ⟨q, k, e, k1, k2, ek, eq⟩ := word_split (b := b) (by omega)
  obtain ⟨N, hN, tr, tl⟩ := two_read
  have hread := Fl.read_fin hf
  rw [hs, hr, ek, eq, Fl.double_lp] at hread
  obtain ⟨R, hRd⟩ : ∃ R, R = b + 4503599627370496 := ⟨_, rfl⟩
  rw [hc, two_cls, ← hRd]
  have hR : Fl.qv (k * N) (-1074 + (q : Int) + -51) = Fl.rv double R := by
    have e3 : R = (q + 1) * double.binade + k := by rw [Fl.double_B]; omega
    rw [e3, Fl.rv_of double (by rw [Fl.double_B]; omega) (Or.inr (by rw [Fl.double_B]; omega)), Fl.double_lp]
    rw [Fl.qv_shift k (e := -1074 + ((q + 1 : Nat) : Int)) (b := -1074 + (q : Int) + -51) (by omega)]
    rw [show (-1074 + ((q + 1 : Nat) : Int) - (-1074 + (q : Int) + -51)).toNat = 52 by omega]
    rw [show k * N = k * 2 ^ 52 by rw [hN]]
  have hw := Fl.nrung_exact double false (R := R) (by rw [Fl.double_inf]; omega) hR
  show double.mul b 4611686018427387904 = _
  unfold Format.mul
  rw [hread, tr]
  show some (double.nearest _ _ _) = _
  show some (double.nearest false _ _) = _
  rw [Fl.nearest_nrung, hw]
  rfl
end Go.Proofs.Ytimdlnbdnednaac
