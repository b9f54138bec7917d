/- How many clauses hold at most (plain). -/
import Derived.Test.YtleaaigjnniglaaHo0
import Derived.Test.YtleaaigjnniglaaPop48
namespace Go.Proofs.Ytleaaigjnniglaa

theorem pop_fail (L : Nat) (C : List (List Int)) (n : Nat) : ∀ k, k ≤ 48 → popN 48 (failK L C n k) + howK L C n k = k
  | 0, _ => by
    show popN 48 0 + 0 = 0
    decide
  | k + 1, h => by
    have ih := pop_fail L C n k (by omega)
    cases q : holdsC L n (C.getD k []) with
    | true =>
      rw [fail_same q]
      show popN 48 (failK L C n k) + (howK L C n k + (if holdsC L n (C.getD k []) = true then 1 else 0)) = k + 1
      rw [q, if_pos rfl]
      omega
    | false =>
      rw [fail_up q, popN_or 48 k _ (by omega) (Nat.testBit_lt_two_pow (failK_lt L C n k))]
      show popN 48 (failK L C n k) + 1 + (howK L C n k + (if holdsC L n (C.getD k []) = true then 1 else 0)) = k + 1
      rw [q, if_neg (by simp)]
      omega
/-- How many clauses fail by n. -/
def cntF (L : Nat) (C : List (List Int)) (n : Nat) : Nat := popN 48 (failK L C n C.length)
theorem cntF_how {L : Nat} {C : List (List Int)} {n : Nat} (h : C.length ≤ 48) : cntF L C n + howK L C n C.length = C.length := pop_fail L C n C.length h
/-- The least number that fails by the numbers below k, and the first number with it. -/
def leastK (L : Nat) (C : List (List Int)) : Nat → Nat
  | 0 => C.length
  | k + 1 => if cntF L C k < leastK L C k then cntF L C k else leastK L C k
def bestK (L : Nat) (C : List (List Int)) : Nat → Nat
  | 0 => 0
  | k + 1 => if cntF L C k < leastK L C k then k else bestK L C k
theorem leastK_le (L : Nat) (C : List (List Int)) : ∀ k, leastK L C k ≤ C.length
  | 0 => Nat.le_refl _
  | k + 1 => by
    have ih := leastK_le L C k
    unfold leastK
    split <;> omega
theorem bestK_lt (L : Nat) (C : List (List Int)) : ∀ k, bestK L C k ≤ k
  | 0 => Nat.le_refl _
  | k + 1 => by
    have ih := bestK_lt L C k
    unfold bestK
    split <;> omega
theorem bestK_top (L : Nat) (C : List (List Int)) {k n : Nat} (h1 : 1 ≤ k) (h2 : k ≤ n) : bestK L C k < n := by
  cases k with
  | zero => omega
  | succ k =>
    have := bestK_lt L C k
    show (if _ then _ else _) < n
    split <;> omega
theorem least_yes {L : Nat} {C : List (List Int)} {k : Nat} (h : cntF L C k < leastK L C k) : leastK L C (k + 1) = cntF L C k ∧ bestK L C (k + 1) = k := by
  constructor
  · show (if _ then _ else _) = _
    rw [if_pos h]
  · show (if _ then _ else _) = _
    rw [if_pos h]
theorem least_no {L : Nat} {C : List (List Int)} {k : Nat} (h : ¬ cntF L C k < leastK L C k) : leastK L C (k + 1) = leastK L C k ∧ bestK L C (k + 1) = bestK L C k := by
  constructor
  · show (if _ then _ else _) = _
    rw [if_neg h]
  · show (if _ then _ else _) = _
    rw [if_neg h]
/-- The model's way: the most that hold, -1 at first. -/
def mostK (L : Nat) (C : List (List Int)) : Nat → Int
  | 0 => -1
  | k + 1 => (C.length : Int) - leastK L C (k + 1)
theorem most_up {L : Nat} {C : List (List Int)} {k : Nat} (h : C.length ≤ 48) (q : mostK L C k < (howK L C k C.length : Int)) : mostK L C (k + 1) = (howK L C k C.length : Int) ∧ bestK L C (k + 1) = k := by
  have hc := cntF_how (L := L) (n := k) h
  have hle := leastK_le L C k
  cases k with
  | zero =>
    show (C.length : Int) - leastK L C 1 = _ ∧ bestK L C 1 = 0
    by_cases h1 : cntF L C 0 < leastK L C 0
    · have := least_yes h1
      rw [this.1, this.2]
      omega
    · have := least_no h1
      rw [this.1, this.2]
      have h0 : leastK L C 0 = C.length := rfl
      have h2 : bestK L C 0 = 0 := rfl
      omega
  | succ k =>
    have hm : mostK L C (k + 1) = (C.length : Int) - leastK L C (k + 1) := rfl
    have h1 : cntF L C (k + 1) < leastK L C (k + 1) := by omega
    have := least_yes h1
    show (C.length : Int) - leastK L C (k + 1 + 1) = _ ∧ _
    rw [this.1, this.2]
    omega
theorem most_same {L : Nat} {C : List (List Int)} {k : Nat} (h : C.length ≤ 48) (q : ¬ mostK L C k < (howK L C k C.length : Int)) : mostK L C (k + 1) = mostK L C k ∧ bestK L C (k + 1) = bestK L C k := by
  have hc := cntF_how (L := L) (n := k) h
  cases k with
  | zero =>
    have : mostK L C 0 = -1 := rfl
    omega
  | succ k =>
    have hm : mostK L C (k + 1) = (C.length : Int) - leastK L C (k + 1) := rfl
    have h1 : ¬ cntF L C (k + 1) < leastK L C (k + 1) := by
      have := leastK_le L C (k + 1)
      omega
    have := least_no h1
    show (C.length : Int) - leastK L C (k + 1 + 1) = (C.length : Int) - leastK L C (k + 1) ∧ _
    rw [this.1, this.2]
    exact ⟨rfl, rfl⟩
theorem mostK_in (L : Nat) (C : List (List Int)) (h : C.length ≤ 48) : ∀ k, -1 ≤ mostK L C k ∧ mostK L C k ≤ 48
  | 0 => by show -1 ≤ (-1 : Int) ∧ (-1 : Int) ≤ 48; omega
  | k + 1 => by
    have := leastK_le L C (k + 1)
    show -1 ≤ (C.length : Int) - leastK L C (k + 1) ∧ (C.length : Int) - leastK L C (k + 1) ≤ 48
    omega
end Go.Proofs.Ytleaaigjnniglaa
