/- Sets of things, sums of sizes, the best halves (plain). -/
import Derived.Test.YtnakpfbeeekmiaaDoorMix
import Derived.Lib.TrailingZeros
namespace Go.Proofs.YtnakpfbeeekmiaaDoor

/-- The sum of the sizes of those of the first k things that are in a set. -/
def sumM (S : List Int) : Nat → Nat → Int
  | 0, _ => 0
  | k + 1, m => sumM S k m + (if m.testBit k then S.getD k 0 else 0)
/-- Those of the first k things that are in a set. -/
def memP : Nat → Nat → List Int
  | 0, _ => []
  | k + 1, m => memP k m ++ (if m.testBit k then [(k : Int)] else [])
theorem sumM_in {S : List Int} (h : ∀ i, i < S.length → 1 ≤ S.getD i 0 ∧ S.getD i 0 ≤ 1000) (m : Nat) : ∀ k, k ≤ S.length → 0 ≤ sumM S k m ∧ sumM S k m ≤ 1000 * (k : Int)
  | 0, _ => by simp [sumM]
  | k + 1, hk => by
    have ih := sumM_in h m k (by omega)
    have hs := h k (by omega)
    unfold sumM
    split <;> omega
theorem sumM_zero (S : List Int) : ∀ k, sumM S k 0 = 0
  | 0 => rfl
  | k + 1 => by unfold sumM; rw [sumM_zero S k, Nat.zero_testBit]; rfl
theorem memP_zero : ∀ k, memP k 0 = []
  | 0 => rfl
  | k + 1 => by unfold memP; rw [memP_zero k, Nat.zero_testBit]; rfl
theorem memP_len : ∀ k m, (memP k m).length ≤ k
  | 0, _ => Nat.le_refl _
  | k + 1, m => by
    have := memP_len k m
    unfold memP
    rw [List.length_append]
    split <;> simp <;> omega
/-- A set without its lowest thing. -/
theorem low_bits {m t q : Nat} (h : m = 2 ^ t * (2 * q + 1)) : m &&& (m - 1) = 2 ^ t * (2 * q) := by
  have hp : 0 < 2 ^ t := Nat.pow_pos (by omega)
  have e : m - 1 = 2 ^ t * (2 * q) + (2 ^ t - 1) := by
    rw [h, Nat.mul_add, Nat.mul_one]; omega
  rw [e, h]
  apply Nat.eq_of_testBit_eq
  intro i
  rw [Nat.testBit_and, Nat.testBit_two_pow_mul, Nat.testBit_two_pow_mul, Nat.testBit_two_pow_mul_add _ (by omega)]
  by_cases hi : i < t
  · have hd : decide (i ≥ t) = false := by simp; omega
    rw [hd]; simp
  · simp only [hi, if_false, ge_iff_le, show t ≤ i by omega, decide_true, Bool.true_and]
    cases hj : i - t with
    | zero => simp
    | succ j =>
      rw [Nat.testBit_succ, Nat.testBit_succ, show (2 * q + 1) / 2 = q by omega, show 2 * q / 2 = q by omega, Bool.and_self]
theorem low_bit {m t q i : Nat} (h : m = 2 ^ t * (2 * q + 1)) : (m &&& (m - 1)).testBit i = (m.testBit i && decide (i ≠ t)) := by
  rw [low_bits h, h, Nat.testBit_two_pow_mul, Nat.testBit_two_pow_mul]
  by_cases hi : t ≤ i
  · simp only [ge_iff_le, hi, decide_true, Bool.true_and]
    cases hj : i - t with
    | zero =>
      have : i = t := by omega
      simp [this]
    | succ j =>
      have : i ≠ t := by omega
      rw [Nat.testBit_succ, Nat.testBit_succ, show (2 * q + 1) / 2 = q by omega, show 2 * q / 2 = q by omega]
      simp [this]
  · simp [hi]
theorem has_bit {m t q : Nat} (h : m = 2 ^ t * (2 * q + 1)) : m.testBit t = true := by
  rw [h, Nat.testBit_two_pow_mul]
  simp
theorem no_bit {m t q i : Nat} (h : m = 2 ^ t * (2 * q + 1)) (hi : i < t) : m.testBit i = false := by
  rw [h, Nat.testBit_two_pow_mul]
  simp; omega
theorem sumM_same {S : List Int} {m m' t : Nat} (h : ∀ i, i < t → m.testBit i = m'.testBit i) : ∀ k, k ≤ t → sumM S k m = sumM S k m'
  | 0, _ => rfl
  | k + 1, hk => by unfold sumM; rw [sumM_same h k (by omega), h k (by omega)]
theorem sumM_low {S : List Int} {m t q : Nat} (h : m = 2 ^ t * (2 * q + 1)) : ∀ k, t < k → sumM S k m = sumM S k (m &&& (m - 1)) + S.getD t 0
  | 0, hk => by omega
  | k + 1, hk => by
    by_cases e : k = t
    · subst e
      unfold sumM
      rw [sumM_same (S := S) (t := k) (m := m) (m' := m &&& (m - 1)) (fun i hi => by rw [low_bit h]; simp; omega) k (Nat.le_refl _), has_bit h, low_bit h]
      simp
    · have ih := sumM_low (S := S) h k (by omega)
      unfold sumM
      rw [ih, low_bit h]
      have : decide (k ≠ t) = true := by simpa using e
      rw [this, Bool.and_true]
      omega
theorem memP_none {m t : Nat} (h : ∀ i, i < t → m.testBit i = false) : ∀ k, k ≤ t → memP k m = []
  | 0, _ => rfl
  | k + 1, hk => by unfold memP; rw [memP_none h k (by omega), h k (by omega)]; rfl
theorem memP_low {m t q : Nat} (h : m = 2 ^ t * (2 * q + 1)) : ∀ k, t < k → memP k m = (t : Int) :: memP k (m &&& (m - 1))
  | 0, hk => by omega
  | k + 1, hk => by
    by_cases e : k = t
    · subst e
      unfold memP
      rw [memP_none (fun i hi => no_bit h hi) k (Nat.le_refl _), memP_none (m := m &&& (m - 1)) (t := k) (fun i hi => by rw [low_bit h, no_bit h hi]; rfl) k (Nat.le_refl _), has_bit h, low_bit h]
      simp
    · have ih := memP_low h k (by omega)
      unfold memP
      rw [ih, low_bit h]
      have : decide (k ≠ t) = true := by simpa using e
      rw [this, Bool.and_true]
      rfl
/-- The sums of all sets. -/
def sumsL (S : List Int) : List Int := allF (sumM S S.length) (2 ^ S.length)
/-- How far a set is from a half. -/
def diffM (S : List Int) (a : Int) (m : Nat) : Int := max (a - 2 * sumM S S.length m) (2 * sumM S S.length m - a)
/-- The best set of the even ones up to 2 j, and how far it is. -/
def hv (S : List Int) (a : Int) : Nat → Nat × Int
  | 0 => (0, a)
  | j + 1 => if diffM S a (2 * (j + 1)) < (hv S a j).2 then (2 * (j + 1), diffM S a (2 * (j + 1))) else hv S a j
theorem hv_yes {S : List Int} {a : Int} {j : Nat} (h : diffM S a (2 * (j + 1)) < (hv S a j).2) : hv S a (j + 1) = (2 * (j + 1), diffM S a (2 * (j + 1))) := by rw [hv, if_pos h]
theorem hv_no {S : List Int} {a : Int} {j : Nat} (h : ¬ diffM S a (2 * (j + 1)) < (hv S a j).2) : hv S a (j + 1) = hv S a j := by rw [hv, if_neg h]
theorem diff0 {S : List Int} {a : Int} (h : 0 ≤ a) : diffM S a 0 = a := by unfold diffM; rw [sumM_zero]; omega
theorem hw_yes {S : List Int} {a : Int} {i : Nat} (ha : 0 ≤ a) (h : diffM S a (2 * i) < (hv S a (i - 1)).2) : hv S a i = (2 * i, diffM S a (2 * i)) := by
  cases i with
  | zero =>
    rw [Nat.mul_zero, diff0 ha] at h
    exact absurd h (Int.lt_irrefl a)
  | succ j => exact hv_yes h
theorem hw_no {S : List Int} {a : Int} {i : Nat} (h : ¬ diffM S a (2 * i) < (hv S a (i - 1)).2) : hv S a i = hv S a (i - 1) := by
  cases i with
  | zero => rfl
  | succ j => exact hv_no h
theorem hv_le (S : List Int) (a : Int) : ∀ j, (hv S a j).1 ≤ 2 * j
  | 0 => Nat.le_refl _
  | j + 1 => by
    have := hv_le S a j
    unfold hv
    split
    · exact Nat.le_refl _
    · omega
def allM (S : List Int) : Int := sumM S S.length (2 ^ S.length - 1)
def hvJ (S : List Int) : Nat := 2 ^ (S.length - 1) - 1
def halfL (S : List Int) : List Int := if sizesB S then memP S.length (hv S (allM S) (hvJ S)).1 else []
def halfI (S : List Int) : Int := if sizesB S then (hv S (allM S) (hvJ S)).2 else 0
theorem pow_half {n : Nat} (h : 1 ≤ n) : 2 ^ n = 2 * 2 ^ (n - 1) := by
  obtain ⟨k, rfl⟩ : ∃ k, n = k + 1 := ⟨n - 1, by omega⟩
  rw [Nat.pow_succ, Nat.add_sub_cancel]; omega
theorem pow16 {n : Nat} (h : n ≤ 16) : 1 ≤ 2 ^ n ∧ 2 ^ n ≤ 65536 := by
  have h1 : 2 ^ n ≤ 2 ^ 16 := Nat.pow_le_pow_right (by omega) h
  have h2 : 0 < 2 ^ n := Nat.pow_pos (by omega)
  omega
theorem allM_in {S : List Int} (h : SizesOk S) : 0 ≤ allM S ∧ allM S ≤ 16000 := by
  have h1 := sumM_in h.a (2 ^ S.length - 1) S.length (Nat.le_refl _)
  have := h.l2
  unfold allM; omega
theorem hvJ_half {S : List Int} {M : Nat} (h : 1 ≤ S.length) (hM : 2 * M = 2 ^ S.length) : hvJ S = M - 1 := by
  have := pow_half h
  unfold hvJ; omega
theorem halfL_len (S : List Int) : (halfL S).length ≤ 1048576 := by
  unfold halfL
  split
  · rename_i h
    have := (sizesB_ok h).l2
    have := memP_len S.length (hv S (allM S) (hvJ S)).1
    omega
  · simp
end Go.Proofs.YtnakpfbeeekmiaaDoor
