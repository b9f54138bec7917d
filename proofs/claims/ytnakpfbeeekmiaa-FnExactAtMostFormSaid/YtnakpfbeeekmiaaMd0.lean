/- Models of forms (plain). -/
import Derived.Test.YtnakpfbeeekmiaaCl0
import Derived.Test.YtnakpfbeeekmiaaMix
namespace Go.Proofs.Ytnakpfbeeekmiaa

/-- Is a literal true by the values with the number n? -/
def litT (L n : Nat) (x : Int) : Bool := n.testBit (L - (ltr x).toNat) == decide (0 < x)
def holdsC (L n : Nat) (c : List Int) : Bool := (List.range c.length).any fun i => litT L n (c.getD i 0)
/-- How many of the first k clauses hold; the set of those that do not. -/
def howK (L : Nat) (C : List (List Int)) (n : Nat) : Nat → Nat
  | 0 => 0
  | k + 1 => howK L C n k + (if holdsC L n (C.getD k []) then 1 else 0)
def failK (L : Nat) (C : List (List Int)) (n : Nat) : Nat → Nat
  | 0 => 0
  | k + 1 => failK L C n k + (if holdsC L n (C.getD k []) then 0 else 2 ^ k)
def modelB (L : Nat) (C : List (List Int)) (n : Nat) : Bool := decide (howK L C n C.length = C.length)
theorem howK_le (L : Nat) (C : List (List Int)) (n : Nat) : ∀ k, howK L C n k ≤ k
  | 0 => Nat.le_refl _
  | k + 1 => by
    have := howK_le L C n k
    unfold howK
    split <;> omega
theorem failK_lt (L : Nat) (C : List (List Int)) (n : Nat) : ∀ k, failK L C n k < 2 ^ k
  | 0 => by simp [failK]
  | k + 1 => by
    have := failK_lt L C n k
    unfold failK
    rw [Nat.pow_succ]
    split <;> omega
theorem fail_how (L : Nat) (C : List (List Int)) (n : Nat) : ∀ k, failK L C n k = 0 ↔ howK L C n k = k
  | 0 => by simp [failK, howK]
  | k + 1 => by
    have ih := fail_how L C n k
    have h1 := howK_le L C n k
    have hp : 0 < 2 ^ k := Nat.two_pow_pos k
    unfold failK howK
    split
    · rw [Nat.add_zero, ih]; omega
    · omega
theorem model_fail {L : Nat} {C : List (List Int)} {n : Nat} : modelB L C n = decide (failK L C n C.length = 0) := by
  unfold modelB
  exact decide_eq_decide.2 (fail_how L C n C.length).symm
theorem or_pow {a k : Nat} (h : a < 2 ^ k) : a ||| 2 ^ k = a + 2 ^ k := by
  have := Nat.two_pow_add_eq_or_of_lt h 1
  rw [Nat.mul_one] at this
  rw [Nat.or_comm, ← this, Nat.add_comm]
theorem fail_up {L : Nat} {C : List (List Int)} {n k : Nat} (h : holdsC L n (C.getD k []) = false) : failK L C n (k + 1) = failK L C n k ||| 2 ^ k := by
  rw [or_pow (failK_lt L C n k)]
  show failK L C n k + _ = _
  rw [h]; rfl
theorem fail_same {L : Nat} {C : List (List Int)} {n k : Nat} (h : holdsC L n (C.getD k []) = true) : failK L C n (k + 1) = failK L C n k := by
  show failK L C n k + _ = _
  rw [h]; rfl
/-- The digits of the literals that are letters, and of those that are opposites. -/
def plainK (L : Nat) (c : List Int) : Nat → Nat
  | 0 => 0
  | k + 1 => if 0 < c.getD k 0 then plainK L c k ||| 2 ^ (L - (ltr (c.getD k 0)).toNat) else plainK L c k
def turnK (L : Nat) (c : List Int) : Nat → Nat
  | 0 => 0
  | k + 1 => if 0 < c.getD k 0 then turnK L c k else turnK L c k ||| 2 ^ (L - (ltr (c.getD k 0)).toNat)
theorem plain_bit (L : Nat) (c : List Int) (i : Nat) : ∀ k, (plainK L c k).testBit i = true ↔ ∃ j, j < k ∧ 0 < c.getD j 0 ∧ L - (ltr (c.getD j 0)).toNat = i
  | 0 => by simp [plainK]
  | k + 1 => by
    have ih := plain_bit L c i k
    unfold plainK
    split
    · rename_i h
      rw [Nat.testBit_or, Bool.or_eq_true, ih, Nat.testBit_two_pow, decide_eq_true_eq]
      constructor
      · rintro (⟨j, h1, h2⟩ | h1)
        · exact ⟨j, by omega, h2⟩
        · exact ⟨k, by omega, h, h1⟩
      · rintro ⟨j, h1, h2, h3⟩
        by_cases e : j = k
        · subst e; exact Or.inr h3
        · exact Or.inl ⟨j, by omega, h2, h3⟩
    · rename_i h
      rw [ih]
      constructor
      · rintro ⟨j, h1, h2⟩
        exact ⟨j, by omega, h2⟩
      · rintro ⟨j, h1, h2, h3⟩
        by_cases e : j = k
        · subst e; exact absurd h2 h
        · exact ⟨j, by omega, h2, h3⟩
theorem turn_bit (L : Nat) (c : List Int) (i : Nat) : ∀ k, (turnK L c k).testBit i = true ↔ ∃ j, j < k ∧ ¬ 0 < c.getD j 0 ∧ L - (ltr (c.getD j 0)).toNat = i
  | 0 => by simp [turnK]
  | k + 1 => by
    have ih := turn_bit L c i k
    unfold turnK
    split
    · rename_i h
      rw [ih]
      constructor
      · rintro ⟨j, h1, h2⟩
        exact ⟨j, by omega, h2⟩
      · rintro ⟨j, h1, h2, h3⟩
        by_cases e : j = k
        · subst e; exact absurd h h2
        · exact ⟨j, by omega, h2, h3⟩
    · rename_i h
      rw [Nat.testBit_or, Bool.or_eq_true, ih, Nat.testBit_two_pow, decide_eq_true_eq]
      constructor
      · rintro (⟨j, h1, h2⟩ | h1)
        · exact ⟨j, by omega, h2⟩
        · exact ⟨k, by omega, h, h1⟩
      · rintro ⟨j, h1, h2, h3⟩
        by_cases e : j = k
        · subst e; exact Or.inr h3
        · exact Or.inl ⟨j, by omega, h2, h3⟩
theorem pow_lt_pow {L a : Nat} (h1 : 1 ≤ a) (h2 : a ≤ L) : 2 ^ (L - a) < 2 ^ L := Nat.pow_lt_pow_right (by omega) (by omega)
theorem plain_lt {L : Nat} {c : List Int} (h : ∀ i, i < c.length → 1 ≤ (ltr (c.getD i 0)).toNat ∧ (ltr (c.getD i 0)).toNat ≤ L) : ∀ k, k ≤ c.length → plainK L c k < 2 ^ L
  | 0, _ => Nat.two_pow_pos L
  | k + 1, hk => by
    have ih := plain_lt h k (by omega)
    unfold plainK
    split
    · exact Nat.or_lt_two_pow ih (pow_lt_pow (h k (by omega)).1 (h k (by omega)).2)
    · exact ih
theorem turn_lt {L : Nat} {c : List Int} (h : ∀ i, i < c.length → 1 ≤ (ltr (c.getD i 0)).toNat ∧ (ltr (c.getD i 0)).toNat ≤ L) : ∀ k, k ≤ c.length → turnK L c k < 2 ^ L
  | 0, _ => Nat.two_pow_pos L
  | k + 1, hk => by
    have ih := turn_lt h k (by omega)
    unfold turnK
    split
    · exact ih
    · exact Nat.or_lt_two_pow ih (pow_lt_pow (h k (by omega)).1 (h k (by omega)).2)
theorem ClOk.nat {n : Int} {c : List Int} (h : ClOk n c) {i : Nat} (hi : i < c.length) : 1 ≤ (ltr (c.getD i 0)).toNat ∧ (ltr (c.getD i 0)).toNat ≤ n.toNat := by
  have := h.a i hi
  omega
/-- The test of the program says whether a clause does not hold. -/
theorem test_holds {n : Int} {c : List Int} (h : ClOk n c) (m : Nat) : decide (m &&& (plainK n.toNat c c.length ||| turnK n.toNat c c.length) = turnK n.toNat c c.length) = !holdsC n.toNat m c := by
  obtain ⟨L, hL⟩ : ∃ L, L = n.toNat := ⟨_, rfl⟩
  rw [← hL]
  have hdis : ∀ i j, i < c.length → j < c.length → L - (ltr (c.getD i 0)).toNat = L - (ltr (c.getD j 0)).toNat → i = j := by
    intro i j hi hj e
    have h1 := h.nat hi
    have h2 := h.nat hj
    rw [← hL] at h1 h2
    rcases Nat.lt_trichotomy i j with q | q | q
    · have h3 := h.up i j q hj
      have h4 := h.a i hi
      have h5 := h.a j hj
      omega
    · exact q
    · have h3 := h.up j i q hi
      have h4 := h.a i hi
      have h5 := h.a j hj
      omega
  cases hh : holdsC L m c with
  | true =>
    simp only [Bool.not_true, decide_eq_false_iff_not]
    intro he
    unfold holdsC at hh
    rw [List.any_eq_true] at hh
    obtain ⟨k, hk, ht⟩ := hh
    have hk := List.mem_range.1 hk
    unfold litT at ht
    rw [beq_iff_eq] at ht
    have hb := congrArg (fun x => x.testBit (L - (ltr (c.getD k 0)).toNat)) he
    simp only [Nat.testBit_and, Nat.testBit_or, ht] at hb
    by_cases hp : 0 < c.getD k 0
    · rw [decide_eq_true hp, (plain_bit L c _ c.length).2 ⟨k, hk, hp, rfl⟩, Bool.true_or, Bool.true_and] at hb
      obtain ⟨j, h1, h2, h3⟩ := (turn_bit L c _ c.length).1 hb.symm
      have := hdis j k h1 hk h3
      subst this
      exact h2 hp
    · rw [decide_eq_false hp, Bool.false_and] at hb
      have := (turn_bit L c _ c.length).2 ⟨k, hk, hp, rfl⟩
      rw [← hb] at this
      cases this
  | false =>
    simp only [Bool.not_false, decide_eq_true_eq]
    have hn : ∀ k, k < c.length → m.testBit (L - (ltr (c.getD k 0)).toNat) = !decide (0 < c.getD k 0) := by
      intro k hk
      have : litT L m (c.getD k 0) = false := by
        rw [Bool.eq_false_iff]
        intro hc
        have : holdsC L m c = true := by
          unfold holdsC
          rw [List.any_eq_true]
          exact ⟨k, List.mem_range.2 hk, hc⟩
        rw [hh] at this; cases this
      unfold litT at this
      rw [beq_eq_false_iff_ne] at this
      revert this
      cases m.testBit (L - (ltr (c.getD k 0)).toNat) <;> cases decide (0 < c.getD k 0) <;> simp
    apply Nat.eq_of_testBit_eq
    intro i
    rw [Nat.testBit_and, Nat.testBit_or]
    cases ht : (turnK L c c.length).testBit i with
    | true =>
      obtain ⟨j, h1, h2, h3⟩ := (turn_bit L c i c.length).1 ht
      have := hn j h1
      rw [h3, decide_eq_false h2] at this
      rw [this]; simp
    | false =>
      cases hp : (plainK L c c.length).testBit i with
      | true =>
        obtain ⟨j, h1, h2, h3⟩ := (plain_bit L c i c.length).1 hp
        have := hn j h1
        rw [h3, decide_eq_true h2] at this
        rw [this]; rfl
      | false => simp
/-- The row of sets of clauses that do not hold. -/
def failL (L : Nat) (C : List (List Int)) (k : Nat) : List Int := allF (fun n => (failK L C n k : Int)) (2 ^ L)
theorem failL_len (L : Nat) (C : List (List Int)) (k : Nat) : (failL L C k).length = 2 ^ L := allF_len _ _
theorem failL_at {L : Nat} {C : List (List Int)} {k n : Nat} (h : n < 2 ^ L) : (failL L C k).getD n 0 = (failK L C n k : Int) := allF_at h
theorem mix_same {f g : Nat → Int} {n r : Nat} (h : f r = g r) : mix f g n r = mix f g n (r + 1) := by
  unfold mix
  refine List.map_congr_left fun x _ => ?_
  by_cases e : x = r
  · subst e; rw [if_pos (Nat.le_refl _), if_neg (by omega), h]
  · by_cases e2 : r ≤ x
    · rw [if_pos e2, if_pos (by omega)]
    · rw [if_neg e2, if_neg (by omega)]
theorem mix_zero (f g : Nat → Int) (n : Nat) : mix f g n 0 = allF f n := by
  unfold mix allF
  refine List.map_congr_left fun x _ => ?_
  rw [if_pos (Nat.zero_le _)]
end Go.Proofs.Ytnakpfbeeekmiaa
