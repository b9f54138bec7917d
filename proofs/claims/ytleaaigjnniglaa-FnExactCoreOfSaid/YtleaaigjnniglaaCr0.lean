/- Clauses that have no model together (plain). -/
import Derived.Test.YtleaaigjnniglaaHo0
namespace Go.Proofs.Ytleaaigjnniglaa

def anyI (p : Int → Bool) (Z : List Int) : Bool := (List.range Z.length).any fun i => p (Z.getD i 0)
theorem anyI_yes {p : Int → Bool} {Z : List Int} {k : Nat} (hk : k < Z.length) (h : p (Z.getD k 0) = true) : anyI p Z = true := by
  unfold anyI
  rw [List.any_eq_true]
  exact ⟨k, List.mem_range.2 hk, h⟩
theorem anyI_no {p : Int → Bool} {Z : List Int} (h : ∀ k, k < Z.length → p (Z.getD k 0) = false) : anyI p Z = false := by
  rw [Bool.eq_false_iff]
  intro hc
  unfold anyI at hc
  rw [List.any_eq_true] at hc
  obtain ⟨k, hk, e⟩ := hc
  rw [h k (List.mem_range.1 hk)] at e
  cases e
/-- Do all clauses of the set s hold where those of x fail? -/
def clearP (s : Nat) (x : Int) : Bool := decide (x.toNat &&& s = 0)
/-- Is there a number by which all clauses of the set s hold? -/
def freeB (L : Nat) (C : List (List Int)) (s : Nat) : Bool := anyI (clearP s) (failL L C C.length)
/-- A set without the digit k. -/
def outK (s k : Nat) : Nat := s ^^^ (s &&& 2 ^ k)
/-- The clauses that are left, and those that had to stay, after the first k were looked at. -/
def leftK (L : Nat) (C : List (List Int)) : Nat → Nat
  | 0 => 2 ^ C.length - 1
  | k + 1 => if freeB L C (outK (leftK L C k) k) then leftK L C k else outK (leftK L C k) k
def coreK (L : Nat) (C : List (List Int)) : Nat → List Int
  | 0 => []
  | k + 1 => if freeB L C (outK (leftK L C k) k) then coreK L C k ++ [(k : Int)] else coreK L C k
theorem core_yes {L : Nat} {C : List (List Int)} {k : Nat} (h : freeB L C (outK (leftK L C k) k) = true) : leftK L C (k + 1) = leftK L C k ∧ coreK L C (k + 1) = coreK L C k ++ [(k : Int)] := by
  constructor
  · show (if _ then _ else _) = _
    rw [if_pos h]
  · show (if _ then _ else _) = _
    rw [if_pos h]
theorem core_no {L : Nat} {C : List (List Int)} {k : Nat} (h : freeB L C (outK (leftK L C k) k) = false) : leftK L C (k + 1) = outK (leftK L C k) k ∧ coreK L C (k + 1) = coreK L C k := by
  constructor
  · show (if _ then _ else _) = _
    rw [if_neg (by rw [h]; simp)]
  · show (if _ then _ else _) = _
    rw [if_neg (by rw [h]; simp)]
theorem outK_lt {s k n : Nat} (h : s < 2 ^ n) : outK s k < 2 ^ n := by
  unfold outK
  exact Nat.xor_lt_two_pow h (Nat.lt_of_le_of_lt Nat.and_le_left h)
theorem leftK_lt (L : Nat) (C : List (List Int)) : ∀ k, leftK L C k < 2 ^ C.length
  | 0 => by
    show 2 ^ C.length - 1 < _
    have : 0 < 2 ^ C.length := Nat.two_pow_pos _
    omega
  | k + 1 => by
    have ih := leftK_lt L C k
    show (if _ then _ else _) < _
    split
    · exact ih
    · exact outK_lt ih
theorem coreK_len (L : Nat) (C : List (List Int)) : ∀ k, (coreK L C k).length ≤ k
  | 0 => Nat.le_refl _
  | k + 1 => by
    have ih := coreK_len L C k
    show (if _ then _ else _ : List Int).length ≤ _
    split
    · rw [List.length_append]; simp; omega
    · omega
theorem pow48' {k : Nat} (h : k ≤ 48) : 1 ≤ 2 ^ k ∧ 2 ^ k ≤ 281474976710656 := by
  have h1 : 2 ^ k ≤ 2 ^ 48 := Nat.pow_le_pow_right (by omega) h
  have h2 : (2 : Nat) ^ 48 = 281474976710656 := by decide
  exact ⟨Nat.two_pow_pos k, by omega⟩
theorem left48 {L : Nat} {C : List (List Int)} (h : C.length ≤ 48) (k : Nat) : leftK L C k < 281474976710656 ∧ ∀ j, outK (leftK L C k) j < 281474976710656 := by
  have h1 := leftK_lt L C k
  have h2 := (pow48' h).2
  refine ⟨by omega, fun j => ?_⟩
  have := outK_lt (k := j) h1
  omega
end Go.Proofs.Ytleaaigjnniglaa
