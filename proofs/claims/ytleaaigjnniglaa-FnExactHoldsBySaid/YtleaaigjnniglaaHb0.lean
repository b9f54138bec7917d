/- Values and their numbers (plain). -/
import Derived.Test.YtleaaigjnniglaaMd0
namespace Go.Proofs.Ytleaaigjnniglaa

/-- The number of the first k values: the first one is its greatest digit. -/
def numK (V : List Bool) : Nat → Nat
  | 0 => 0
  | k + 1 => 2 * numK V k + (if V.getD k false then 1 else 0)
theorem numK_lt (V : List Bool) : ∀ k, numK V k < 2 ^ k
  | 0 => by simp [numK]
  | k + 1 => by
    have := numK_lt V k
    unfold numK
    rw [Nat.pow_succ]
    split <;> omega
theorem numK_bit (V : List Bool) : ∀ k t, t < k → (numK V k).testBit t = V.getD (k - 1 - t) false
  | 0, t, h => by omega
  | k + 1, 0, _ => by
    unfold numK
    rw [Nat.testBit_zero, show k + 1 - 1 - 0 = k by omega]
    cases V.getD k false <;> simp <;> omega
  | k + 1, t + 1, h => by
    have ih := numK_bit V k t (by omega)
    unfold numK
    rw [Nat.testBit_succ]
    have h2 : (2 * numK V k + (if V.getD k false = true then 1 else 0)) / 2 = numK V k := by split <;> omega
    rw [h2, ih]
    congr 1
    omega
/-- The places of those of the first k values that are true. -/
def plcK (V : List Bool) (k : Nat) : List Int := ((List.range k).filter fun i => V.getD i false).map fun i : Nat => (i : Int)
theorem plcK_yes {V : List Bool} {k : Nat} (h : V.getD k false = true) : plcK V (k + 1) = plcK V k ++ [(k : Int)] := by
  unfold plcK
  rw [List.range_succ, List.filter_append, List.map_append]
  simp only [List.filter_cons, h, if_true, List.filter_nil, List.map_cons, List.map_nil]
theorem plcK_no {V : List Bool} {k : Nat} (h : V.getD k false = false) : plcK V (k + 1) = plcK V k := by
  unfold plcK
  rw [List.range_succ, List.filter_append, List.map_append]
  simp only [List.filter_cons, h, Bool.false_eq_true, if_false, List.filter_nil, List.map_nil, List.append_nil]
theorem plcK_len (V : List Bool) : ∀ k, (plcK V k).length ≤ k
  | 0 => by simp [plcK]
  | k + 1 => by
    have ih := plcK_len V k
    cases h : V.getD k false with
    | true => rw [plcK_yes h, List.length_append]; simp; omega
    | false => rw [plcK_no h]; omega
theorem plcK_mem {V : List Bool} {k : Nat} {x : Int} : x ∈ plcK V k ↔ ∃ i : Nat, i < k ∧ V.getD i false = true ∧ x = (i : Int) := by
  unfold plcK
  rw [List.mem_map]
  constructor
  · rintro ⟨i, hi, rfl⟩
    rw [List.mem_filter, List.mem_range] at hi
    exact ⟨i, hi.1, hi.2, rfl⟩
  · rintro ⟨i, h1, h2, rfl⟩
    exact ⟨i, List.mem_filter.2 ⟨List.mem_range.2 h1, h2⟩, rfl⟩
/-- The digits of the first j places of a list. -/
def orL (L : Nat) (T : List Int) : Nat → Nat
  | 0 => 0
  | j + 1 => orL L T j ||| 2 ^ (L - ((T.getD j 0).toNat + 1))
theorem orL_bit (L : Nat) (T : List Int) (t : Nat) : ∀ j, (orL L T j).testBit t = true ↔ ∃ i, i < j ∧ L - ((T.getD i 0).toNat + 1) = t
  | 0 => by simp [orL]
  | j + 1 => by
    unfold orL
    rw [Nat.testBit_or, Bool.or_eq_true, orL_bit L T t j, Nat.testBit_two_pow, decide_eq_true_eq]
    constructor
    · rintro (⟨i, h1, h2⟩ | h)
      · exact ⟨i, by omega, h2⟩
      · exact ⟨j, by omega, h⟩
    · rintro ⟨i, h1, h2⟩
      by_cases e : i = j
      · subst e; exact Or.inr h2
      · exact Or.inl ⟨i, by omega, h2⟩
theorem orL_lt {L : Nat} {T : List Int} (h1 : 1 ≤ L) : ∀ j, orL L T j < 2 ^ L
  | 0 => Nat.two_pow_pos L
  | j + 1 => Nat.or_lt_two_pow (orL_lt h1 j) (Nat.pow_lt_pow_right (by omega) (by omega))
theorem orL_num {L : Nat} {V : List Bool} (h1 : 1 ≤ L) : orL L (plcK V L) (plcK V L).length = numK V L := by
  apply Nat.eq_of_testBit_eq
  intro t
  by_cases ht : t < L
  · rw [numK_bit V L t ht]
    rw [Bool.eq_iff_iff, orL_bit]
    constructor
    · rintro ⟨i, hi, e⟩
      obtain ⟨q, h2, h3, h4⟩ := (plcK_mem (V := V) (k := L) (x := (plcK V L).getD i 0)).1 (by simp only [List.getD, List.getElem?_eq_getElem hi]; exact List.getElem_mem hi)
      rw [h4, Int.toNat_natCast] at e
      rw [show L - 1 - t = q by omega]
      exact h3
    · intro hv
      have hm := (plcK_mem (V := V) (k := L) (x := ((L - 1 - t : Nat) : Int))).2 ⟨L - 1 - t, by omega, hv, rfl⟩
      obtain ⟨i, hi, e⟩ := List.getElem_of_mem hm
      refine ⟨i, hi, ?_⟩
      rw [show (plcK V L).getD i 0 = ((L - 1 - t : Nat) : Int) by simp only [List.getD, List.getElem?_eq_getElem hi, Option.getD_some]; exact e, Int.toNat_natCast]
      omega
  · have hp : 2 ^ L ≤ 2 ^ t := Nat.pow_le_pow_right (by omega) (by omega)
    rw [Nat.testBit_lt_two_pow (Nat.lt_of_lt_of_le (orL_lt h1 _) hp), Nat.testBit_lt_two_pow (Nat.lt_of_lt_of_le (numK_lt V L) hp)]
end Go.Proofs.Ytleaaigjnniglaa
