/- The least cover (plain). -/
import Derived.Test.YtolbkepbcoipcaaDoorHv0
import Derived.Test.YtolbkepbcoipcaaDoorGc0
namespace Go.Proofs.YtolbkepbcoipcaaDoor

/-- What those of the first k sets hold that are in a set of sets. -/
def orM (L : List Int) : Nat → Nat → Nat
  | 0, _ => 0
  | k + 1, m => orM L k m ||| (if m.testBit k then setN L k else 0)
theorem orM_lt {n : Nat} {L : List Int} (h : SetsOk n L) (m : Nat) : ∀ k, k ≤ L.length → orM L k m < 65536
  | 0, _ => by simp [orM]
  | k + 1, hk => by
    have ih := orM_lt h m k (by omega)
    have hs := set_lt h (i := k) (by omega)
    unfold orM
    have e : (65536 : Nat) = 2 ^ 16 := rfl
    rw [e] at ih hs ⊢
    split
    · exact Nat.or_lt_two_pow ih hs
    · rw [Nat.or_zero]; exact ih
theorem orM_zero (L : List Int) : ∀ k, orM L k 0 = 0
  | 0 => rfl
  | k + 1 => by unfold orM; rw [orM_zero L k, Nat.zero_testBit]; simp
theorem orM_same {L : List Int} {m m' t : Nat} (h : ∀ i, i < t → m.testBit i = m'.testBit i) : ∀ k, k ≤ t → orM L k m = orM L k m'
  | 0, _ => rfl
  | k + 1, hk => by unfold orM; rw [orM_same h k (by omega), h k (by omega)]
theorem orM_low {L : List Int} {m t q : Nat} (h : m = 2 ^ t * (2 * q + 1)) : ∀ k, t < k → orM L k m = orM L k (m &&& (m - 1)) ||| setN L t
  | 0, hk => by omega
  | k + 1, hk => by
    by_cases e : k = t
    · subst e
      unfold orM
      rw [orM_same (L := L) (t := k) (m := m) (m' := m &&& (m - 1)) (fun i hi => by rw [low_bit h]; simp; omega) k (Nat.le_refl _), has_bit h, low_bit h]
      simp
    · have ih := orM_low (L := L) h k (by omega)
      unfold orM
      rw [ih, low_bit h]
      have : decide (k ≠ t) = true := by simpa using e
      rw [this, Bool.and_true, Nat.or_assoc, Nat.or_assoc, Nat.or_comm (setN L t)]
theorem or_yes {L : List Int} {j k : Nat} (h : k.testBit j = true) : orM L (j + 1) k = orM L j k ||| setN L j := by rw [orM, if_pos h]
theorem or_no {L : List Int} {j k : Nat} (h : k.testBit j = false) : orM L (j + 1) k = orM L j k := by rw [orM, h]; simp
/-- The least cover among the first j sets of sets; none: 0. -/
def lcB (n : Nat) (L : List Int) : Nat → Nat
  | 0 => 0
  | j + 1 => if orM L L.length j = allS n ∧ (lcB n L j = 0 ∨ pop j < pop (lcB n L j)) then j else lcB n L j
theorem lc_le (n : Nat) (L : List Int) : ∀ j, lcB n L j ≤ j
  | 0 => Nat.le_refl _
  | j + 1 => by
    have := lc_le n L j
    unfold lcB
    split <;> omega
theorem lc_lt (n : Nat) (L : List Int) {j : Nat} (h : 0 < j) : lcB n L j < j := by
  obtain ⟨k, rfl⟩ : ∃ k, j = k + 1 := ⟨j - 1, by omega⟩
  have := lc_le n L k
  unfold lcB
  split <;> omega
theorem lc_yes1 {n : Nat} {L : List Int} {j : Nat} (h : orM L L.length j = allS n) (h2 : lcB n L j = 0) : lcB n L (j + 1) = j := by rw [lcB, if_pos ⟨h, Or.inl h2⟩]
theorem lc_yes2 {n : Nat} {L : List Int} {j : Nat} (h : orM L L.length j = allS n) (h2 : pop j < pop (lcB n L j)) : lcB n L (j + 1) = j := by rw [lcB, if_pos ⟨h, Or.inr h2⟩]
theorem lc_no1 {n : Nat} {L : List Int} {j : Nat} (h : ¬ orM L L.length j = allS n) : lcB n L (j + 1) = lcB n L j := by rw [lcB, if_neg (fun h1 => h h1.1)]
theorem lc_no2 {n : Nat} {L : List Int} {j : Nat} (h0 : ¬ lcB n L j = 0) (h : ¬ pop j < pop (lcB n L j)) : lcB n L (j + 1) = lcB n L j := by rw [lcB, if_neg (fun h1 => h1.2.elim h0 h)]
theorem all_some {n : Nat} {L : List Int} {j : Nat} (h : SetsOk n L) (h1 : orM L L.length j = allS n) : j ≠ 0 := by
  rintro rfl
  rw [orM_zero] at h1
  have h2 : 2 ^ 1 ≤ 2 ^ n := Nat.pow_le_pow_right (by omega) h.n1
  unfold allS at h1
  omega
/-- The model's word for a cover. -/
def spB (b : Nat) : Int := if b = 0 then -1 else b
theorem spB_no {b : Nat} (h : b = 0) : spB b = -1 := if_pos h
theorem spB_yes {b : Nat} (h : b ≠ 0) : spB b = b := if_neg h
/-- The program's count of a cover. -/
def imM (b : Nat) : Int := if b = 0 then 9223372036854775807 else pop b
theorem imM_no {b : Nat} (h : b = 0) : imM b = 9223372036854775807 := if_pos h
theorem imM_yes {b : Nat} (h : b ≠ 0) : imM b = pop b := if_neg h
/-- All of what a set of sets holds. -/
def orsL (L : List Int) : List Int := allF (fun m => (orM L L.length m : Int)) (2 ^ L.length)
def lcX (n : Int) (L : List Int) : Nat := lcB n.toNat L (2 ^ L.length)
def lcL (n : Int) (L : List Int) : List Int := if setsB n L then memP L.length (lcX n L) else []
def lcO (n : Int) (L : List Int) : Bool := setsB n L && decide (lcX n L ≠ 0)
theorem lcL_len {n : Int} {L : List Int} : (lcL n L).length ≤ 1048576 := by
  unfold lcL
  split
  · rename_i h
    obtain ⟨m, rfl, hm⟩ := setsB_ok h
    have := memP_len L.length (lcX m L)
    have := hm.l2
    omega
  · simp
end Go.Proofs.YtolbkepbcoipcaaDoor
