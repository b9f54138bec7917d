/- The least number of bins (plain). -/
import Derived.Test.YtolbkepbcoipcaaDoorHv0
namespace Go.Proofs.YtolbkepbcoipcaaDoor

/-- What is left of a round over the parts of a set: p is the part, v the least so far. -/
def fin (S : List Int) (r : Int) (m : Nat) (T : Nat → Int) : Nat → Nat → Int → Int
  | 0, _, v => v
  | g + 1, p, v => if p = 0 then v else fin S r m T g ((p - 1) &&& m) (if sumM S S.length p ≤ r then min v (T (m ^^^ p) + 1) else v)
theorem fin_zero (S : List Int) (r : Int) (m : Nat) (T : Nat → Int) (g : Nat) (v : Int) : fin S r m T g 0 v = v := by cases g <;> simp [fin]
theorem fin_yes {S : List Int} {r : Int} {m : Nat} {T : Nat → Int} {g p : Nat} {v : Int} (h0 : p ≠ 0) (h : sumM S S.length p ≤ r) : fin S r m T (g + 1) p v = fin S r m T g ((p - 1) &&& m) (min v (T (m ^^^ p) + 1)) := by rw [fin, if_neg h0, if_pos h]
theorem fin_no {S : List Int} {r : Int} {m : Nat} {T : Nat → Int} {g p : Nat} {v : Int} (h0 : p ≠ 0) (h : ¬ sumM S S.length p ≤ r) : fin S r m T (g + 1) p v = fin S r m T g ((p - 1) &&& m) v := by rw [fin, if_neg h0, if_neg h]
theorem fin_in {S : List Int} {r : Int} {m : Nat} {T : Nat → Int} (hT : ∀ j, 0 ≤ T j) : ∀ g p v, 0 ≤ v → 0 ≤ fin S r m T g p v ∧ fin S r m T g p v ≤ v
  | 0, p, v, hv => ⟨hv, Int.le_refl _⟩
  | g + 1, p, v, hv => by
    unfold fin
    split
    · exact ⟨hv, Int.le_refl _⟩
    · split
      · have := hT (m ^^^ p)
        have ih := fin_in (S := S) (r := r) (m := m) hT g ((p - 1) &&& m) (min v (T (m ^^^ p) + 1)) (by omega)
        omega
      · exact fin_in hT g _ v hv
/-- A part that is still to come fits, and leads to at most B. -/
def reach (S : List Int) (r : Int) (m : Nat) (T : Nat → Int) (B : Int) : Nat → Nat → Prop
  | 0, _ => False
  | g + 1, p => p ≠ 0 ∧ ((sumM S S.length p ≤ r ∧ T (m ^^^ p) + 1 ≤ B) ∨ reach S r m T B g ((p - 1) &&& m))
theorem fin_down {S : List Int} {r : Int} {m : Nat} {T : Nat → Int} : ∀ g p v, fin S r m T g p v ≤ v
  | 0, p, v => Int.le_refl _
  | g + 1, p, v => by
    unfold fin
    split
    · exact Int.le_refl _
    · split
      · have ih := fin_down (S := S) (r := r) (m := m) (T := T) g ((p - 1) &&& m) (min v (T (m ^^^ p) + 1))
        omega
      · exact fin_down g _ v
theorem fin_le {S : List Int} {r : Int} {m : Nat} {T : Nat → Int} {B : Int} : ∀ g p v, reach S r m T B g p → fin S r m T g p v ≤ B
  | 0, _, _, h => h.elim
  | g + 1, p, v, ⟨h0, h⟩ => by
    unfold fin
    rw [if_neg h0]
    rcases h with ⟨h1, h2⟩ | h
    · rw [if_pos h1]
      have := fin_down (S := S) (r := r) (m := m) (T := T) g ((p - 1) &&& m) (min v (T (m ^^^ p) + 1))
      omega
    · exact fin_le g _ _ h
theorem fin_eq {S : List Int} {r : Int} {m : Nat} {T : Nat → Int} {B : Int} : ∀ g p v u, reach S r m T B g p → B ≤ v → B ≤ u → fin S r m T g p v = fin S r m T g p u
  | 0, _, _, _, h, _, _ => h.elim
  | g + 1, p, v, u, ⟨h0, h⟩, hv, hu => by
    unfold fin
    rw [if_neg h0, if_neg h0]
    by_cases h1 : sumM S S.length p ≤ r
    · rw [if_pos h1, if_pos h1]
      by_cases h2 : T (m ^^^ p) + 1 ≤ B
      · rw [Int.min_eq_right (by omega), Int.min_eq_right (by omega)]
      · rcases h with ⟨_, h3⟩ | h
        · exact absurd h3 h2
        · exact fin_eq g _ _ _ h (by omega) (by omega)
    · rw [if_neg h1, if_neg h1]
      rcases h with ⟨h3, _⟩ | h
      · exact absurd h3 h1
      · exact fin_eq g _ _ _ h hv hu
theorem and_self_low {p m : Nat} (h : p &&& m = p) : p &&& ((p - 1) &&& m) = p &&& (p - 1) := by
  rw [Nat.and_comm (p - 1) m, ← Nat.and_assoc, h]
theorem next_sub (p m : Nat) : ((p - 1) &&& m) &&& m = (p - 1) &&& m := by rw [Nat.and_assoc, Nat.and_self]
theorem lower_bit {p u x t : Nat} (h : p = 2 ^ u * (2 * x + 1)) (ht : t < u) : (p - 1).testBit t = true := by
  have hp : 0 < 2 ^ u := Nat.pow_pos (by omega)
  have e : p - 1 = 2 ^ u * (2 * x) + (2 ^ u - 1) := by rw [h, Nat.mul_add, Nat.mul_one]; omega
  rw [e, Nat.testBit_two_pow_mul_add _ (by omega), if_pos ht, Nat.testBit_two_pow_sub_one]
  simpa using ht
theorem odd_form {p : Nat} (h0 : p ≠ 0) : ∃ u x, p = 2 ^ u * (2 * x + 1) := by
  induction p using Nat.strongRecOn with
  | _ p ih =>
    rcases Nat.mod_two_eq_zero_or_one p with h | h
    · obtain ⟨u, x, hx⟩ := ih (p / 2) (by omega) (by omega)
      exact ⟨u + 1, x, by rw [Nat.pow_succ, Nat.mul_assoc, Nat.mul_comm 2, ← Nat.mul_assoc, ← hx]; omega⟩
    · exact ⟨0, p / 2, by simp; omega⟩
theorem next_pos {p m t q : Nat} (hm : m = 2 ^ t * (2 * q + 1)) (hp : p &&& m = p) (h0 : p ≠ 0) (h1 : p ≠ 2 ^ t) : (p - 1) &&& m ≠ 0 := by
  obtain ⟨u, x, hx⟩ := odd_form h0
  have hu : m.testBit u = true := by
    have h2 := has_bit hx
    rw [← hp, Nat.testBit_and, Bool.and_eq_true] at h2
    exact h2.2
  have htu : t ≤ u := by
    rcases Nat.lt_or_ge u t with h | h
    · rw [no_bit hm h] at hu; exact absurd hu (by simp)
    · exact h
  rcases Nat.lt_or_ge t u with h | h
  · intro he
    have h2 : ((p - 1) &&& m).testBit t = true := by rw [Nat.testBit_and, lower_bit hx h, has_bit hm]; rfl
    rw [he] at h2
    simp at h2
  · obtain rfl : t = u := by omega
    intro he
    have h2 := and_self_low hp
    rw [he, Nat.and_zero, low_bits hx] at h2
    have hp2 : 0 < 2 ^ t := Nat.pow_pos (by omega)
    have hx0 : x ≠ 0 := by
      rintro rfl
      apply h1
      rw [hx]; simp
    have : 0 < 2 ^ t * (2 * x) := Nat.mul_pos hp2 (by omega)
    omega
theorem reach_low {S : List Int} {r : Int} {m t q : Nat} {T : Nat → Int} {B : Int} (hm : m = 2 ^ t * (2 * q + 1)) (h1 : sumM S S.length (2 ^ t) ≤ r) (h2 : T (m ^^^ 2 ^ t) + 1 ≤ B) : ∀ g p, p &&& m = p → p ≠ 0 → p ≤ g → reach S r m T B g p
  | 0, p, _, h0, hg => absurd (Nat.le_zero.1 hg) h0
  | g + 1, p, hp, h0, hg => by
    refine ⟨h0, ?_⟩
    by_cases e : p = 2 ^ t
    · subst e
      exact Or.inl ⟨h1, h2⟩
    · refine Or.inr (reach_low hm h1 h2 g _ (next_sub p m) (next_pos hm hp h0 e) ?_)
      have := Nat.and_le_left (n := p - 1) (m := m)
      omega
theorem xor_low {m t q : Nat} (hm : m = 2 ^ t * (2 * q + 1)) : m ^^^ 2 ^ t = m &&& (m - 1) := by
  apply Nat.eq_of_testBit_eq
  intro i
  rw [Nat.testBit_xor, low_bit hm, Nat.testBit_two_pow]
  by_cases h : i = t
  · subst h; rw [has_bit hm]; simp
  · have h2 : t ≠ i := fun e => h e.symm
    simp [h, h2]
theorem sum_one {S : List Int} {t : Nat} (ht : t < S.length) : sumM S S.length (2 ^ t) = S.getD t 0 := by
  have h : 2 ^ t = 2 ^ t * (2 * 0 + 1) := by simp
  rw [sumM_low h S.length ht, low_bits h, Nat.mul_zero, sumM_zero]; omega
/-- The table of the sets below k. -/
def tabB (S : List Int) (r c : Int) : Nat → Nat → Int
  | 0, _ => 0
  | k + 1, j => if j = k then (if k = 0 then 0 else fin S r k (tabB S r c k) k k c) else tabB S r c k j
theorem tab_new {S : List Int} {r c : Int} {k : Nat} (h : k ≠ 0) : tabB S r c (k + 1) k = fin S r k (tabB S r c k) k k c := by rw [tabB, if_pos rfl, if_neg h]
theorem tab_old {S : List Int} {r c : Int} {k j : Nat} (h : j ≠ k) : tabB S r c (k + 1) j = tabB S r c k j := by rw [tabB, if_neg h]
theorem tab_in {S : List Int} {r c : Int} (hc : 0 ≤ c) : ∀ k j, 0 ≤ tabB S r c k j ∧ tabB S r c k j ≤ c
  | 0, _ => ⟨Int.le_refl _, hc⟩
  | k + 1, j => by
    unfold tabB
    split
    · split
      · exact ⟨Int.le_refl _, hc⟩
      · exact fin_in (fun j => (tab_in hc k j).1) _ _ _ hc
    · exact tab_in hc k j
def cntB (S : List Int) (m : Nat) : Int := ((memP S.length m).length : Int)
theorem tab_reach {S : List Int} {r c : Int} {k : Nat} (hr : ∀ i, i < S.length → S.getD i 0 ≤ r) (hk : k < 2 ^ S.length) (h0 : k ≠ 0) (ih : ∀ j, j < k → tabB S r c k j ≤ cntB S j) : reach S r k (tabB S r c k) (cntB S k) k k := by
  obtain ⟨t, q, hq⟩ := odd_form h0
  have ht : t < S.length := by
    rcases Nat.lt_or_ge t S.length with h | h
    · exact h
    · have h1 := Nat.pow_le_pow_right (n := 2) (by omega) h
      have h2 : 2 ^ t * 1 ≤ 2 ^ t * (2 * q + 1) := Nat.mul_le_mul_left _ (by omega)
      omega
  refine reach_low hq (by rw [sum_one ht]; exact hr t ht) ?_ k k (Nat.and_self k) h0 (Nat.le_refl _)
  rw [xor_low hq]
  have hl : k &&& (k - 1) < k := by have := Nat.and_le_right (n := k) (m := k - 1); omega
  have := ih _ hl
  have e : cntB S k = cntB S (k &&& (k - 1)) + 1 := by
    unfold cntB
    rw [memP_low hq S.length ht]; simp
  omega
theorem tab_cnt {S : List Int} {r c : Int} (hr : ∀ i, i < S.length → S.getD i 0 ≤ r) : ∀ k, k ≤ 2 ^ S.length → ∀ j, j < k → tabB S r c k j ≤ cntB S j
  | 0, _, j, hj => by omega
  | k + 1, hk, j, hj => by
    have ih := tab_cnt (c := c) hr k (by omega)
    by_cases e : j = k
    · subst e
      by_cases h0 : j = 0
      · subst h0
        unfold tabB
        simp [cntB]
      · rw [tab_new h0]
        exact fin_le _ _ _ (tab_reach hr (by omega) h0 ih)
    · rw [tab_old e]
      exact ih j (by omega)
theorem tab_same {S : List Int} {r c d : Int} (hr : ∀ i, i < S.length → S.getD i 0 ≤ r) (hc : (S.length : Int) ≤ c) (hd : (S.length : Int) ≤ d) : ∀ k, k ≤ 2 ^ S.length → tabB S r c k = tabB S r d k
  | 0, _ => by funext j; rfl
  | k + 1, hk => by
    have ih := tab_same hr hc hd k (by omega)
    funext j
    by_cases e : j = k
    · subst e
      by_cases h0 : j = 0
      · subst h0; rfl
      · rw [tab_new h0, tab_new h0, ← ih]
        have hl := memP_len S.length j
        have hb : cntB S j ≤ (S.length : Int) := by unfold cntB; omega
        exact fin_eq _ _ _ _ (tab_reach hr (by omega) h0 (tab_cnt hr j (by omega))) (by omega) (by omega)
    · rw [tab_old e, tab_old e, ih]
end Go.Proofs.YtolbkepbcoipcaaDoor
