/- The letters that a number tells (plain). -/
import Derived.RowKit
namespace Go.Proofs.Ytnakpfbeeekmiaa

/-- The letters up to k that are true. -/
def trueK (L n k : Nat) : List Int := ((List.range k).filter fun i => n.testBit (L - (i + 1))).map fun i : Nat => (i : Int) + 1
theorem trueK_yes {L n k : Nat} (h : n.testBit (L - (k + 1)) = true) : trueK L n (k + 1) = trueK L n k ++ [(k : Int) + 1] := by
  unfold trueK
  rw [List.range_succ, List.filter_append, List.map_append]
  simp [h]
theorem trueK_no {L n k : Nat} (h : n.testBit (L - (k + 1)) = false) : trueK L n (k + 1) = trueK L n k := by
  unfold trueK
  rw [List.range_succ, List.filter_append, List.map_append]
  simp [h]
theorem trueK_len (L n : Nat) : ∀ k, (trueK L n k).length ≤ k
  | 0 => by simp [trueK]
  | k + 1 => by
    have ih := trueK_len L n k
    cases h : n.testBit (L - (k + 1)) with
    | true => rw [trueK_yes h, List.length_append]; simp; omega
    | false => rw [trueK_no h]; omega
theorem trueK_mem {L n k : Nat} {x : Int} : x ∈ trueK L n k ↔ ∃ i : Nat, i < k ∧ n.testBit (L - (i + 1)) = true ∧ x = (i : Int) + 1 := by
  unfold trueK
  rw [List.mem_map]
  constructor
  · rintro ⟨i, hi, rfl⟩
    rw [List.mem_filter, List.mem_range] at hi
    exact ⟨i, hi.1, hi.2, rfl⟩
  · rintro ⟨i, h1, h2, rfl⟩
    exact ⟨i, List.mem_filter.2 ⟨List.mem_range.2 h1, h2⟩, rfl⟩
end Go.Proofs.Ytnakpfbeeekmiaa
