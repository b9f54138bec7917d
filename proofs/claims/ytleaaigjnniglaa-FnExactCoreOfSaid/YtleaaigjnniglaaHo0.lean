/- Clauses with at most one letter that is not an opposite; what is true in all models (plain). -/
import Derived.Test.YtleaaigjnniglaaMd0
import Derived.Test.YtleaaigjnniglaaPop
namespace Go.Proofs.Ytleaaigjnniglaa

theorem popN_step (k y : Nat) : popN (k + 1) y = y % 2 + popN k (y / 2) := rfl
theorem popN_or : ∀ (k d y : Nat), d < k → y.testBit d = false → popN k (y ||| 2 ^ d) = popN k y + 1
  | 0, d, y, h, _ => by omega
  | k + 1, 0, y, _, h => by
    have h0 : y % 2 = 0 := by
      rw [Nat.testBit_zero] at h
      have : ¬ y % 2 = 1 := by simpa using h
      omega
    have h1 : (y ||| 2 ^ 0) = y + 1 := by
      have h2 : y = 2 * (y / 2) := by omega
      rw [h2]
      have := Nat.two_pow_add_eq_or_of_lt (i := 1) (b := 1) (by omega) (y / 2)
      rw [Nat.pow_one] at this
      rw [Nat.pow_zero, ← this]
    rw [h1, popN_step, popN_step]
    have h3 : (y + 1) / 2 = y / 2 := by omega
    rw [h3]
    omega
  | k + 1, d + 1, y, hd, h => by
    rw [popN_step, popN_step]
    have h1 : (y ||| 2 ^ (d + 1)) % 2 = y % 2 := by
      have := Nat.or_mod_two_pow (a := y) (b := 2 ^ (d + 1)) (n := 1)
      rw [Nat.pow_one] at this
      rw [this, show 2 ^ (d + 1) % 2 = 0 by rw [Nat.pow_succ]; omega, Nat.or_zero]
    have h2 : (y ||| 2 ^ (d + 1)) / 2 = y / 2 ||| 2 ^ d := by
      rw [Nat.or_div_two, Nat.pow_succ, Nat.mul_div_cancel _ (by omega)]
    rw [h1, h2, popN_or k d (y / 2) (by omega) (by rw [← Nat.testBit_succ]; exact h)]
    omega
theorem pop_or (d y : Nat) (h : d < 16) (k : y.testBit d = false) : pop (y ||| 2 ^ d) = pop y + 1 := popN_or 16 d y h k
theorem pop_zero : pop 0 = 0 := by decide
attribute [local irreducible] pop popN
/-- How many of the first k literals are letters. -/
def upsK (c : List Int) : Nat → Nat
  | 0 => 0
  | k + 1 => upsK c k + (if 0 < c.getD k 0 then 1 else 0)
theorem upsK_le (c : List Int) : ∀ k, upsK c k ≤ k
  | 0 => Nat.le_refl _
  | k + 1 => by
    have := upsK_le c k
    unfold upsK
    split <;> omega
theorem pop_plain {n : Int} {c : List Int} (h : ClOk n c) : ∀ k, k ≤ c.length → pop (plainK n.toNat c k) = upsK c k
  | 0, _ => pop_zero
  | k + 1, hk => by
    have ih := pop_plain h k (by omega)
    unfold plainK upsK
    split
    · rename_i hp
      have hn1 := h.n1
      have hn2 := h.n2
      have hb := h.nat (i := k) (by omega)
      rw [pop_or _ _ (by omega) ?_, ih]
      rw [Bool.eq_false_iff]
      intro hc
      obtain ⟨j, h1, h2, h3⟩ := (plain_bit n.toNat c _ k).1 hc
      have h4 := h.up j k h1 (by omega)
      have h5 := h.nat (i := j) (by omega)
      have h6 := h.a j (by omega)
      have h7 := h.a k (by omega)
      omega
    · exact ih
/-- What is true in all models of the numbers below k. -/
def andK (L : Nat) (C : List (List Int)) : Nat → Nat
  | 0 => 2 ^ L - 1
  | k + 1 => if modelB L C k then andK L C k &&& k else andK L C k
theorem andK_lt (L : Nat) (C : List (List Int)) : ∀ k, andK L C k < 2 ^ L
  | 0 => by have := Nat.two_pow_pos L; unfold andK; omega
  | k + 1 => by
    have ih := andK_lt L C k
    unfold andK
    split
    · exact Nat.lt_of_le_of_lt Nat.and_le_left ih
    · exact ih
/-- .. of the first j of a list. -/
def andL (L : Nat) (Z : List Int) : Nat → Nat
  | 0 => 2 ^ L - 1
  | j + 1 => andL L Z j &&& (Z.getD j 0).toNat
theorem andL_lt (L : Nat) (Z : List Int) : ∀ j, andL L Z j < 2 ^ L
  | 0 => by have := Nat.two_pow_pos L; unfold andL; omega
  | j + 1 => Nat.lt_of_le_of_lt Nat.and_le_left (andL_lt L Z j)
theorem andL_app (L : Nat) (Z Y : List Int) : ∀ j, j ≤ Z.length → andL L (Z ++ Y) j = andL L Z j
  | 0, _ => rfl
  | j + 1, h => by
    show andL L (Z ++ Y) j &&& _ = andL L Z j &&& _
    rw [andL_app L Z Y j (by omega)]
    congr 2
    simp only [List.getD]
    rw [List.getElem?_append_left (by omega)]
end Go.Proofs.Ytleaaigjnniglaa
