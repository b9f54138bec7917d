/- Is there one of a list's lists? (plain) -/
import Derived.Test.YtnakpfbeeekmiaaDoorSz
namespace Go.Proofs.YtnakpfbeeekmiaaDoor

def anyP (p : List Int → Bool) (C : List (List Int)) : Bool := (List.range C.length).any fun i => p (C.getD i [])
theorem anyP_yes {p : List Int → Bool} {C : List (List Int)} {k : Nat} (hk : k < C.length) (h : p (C.getD k []) = true) : anyP p C = true := by
  unfold anyP
  rw [List.any_eq_true]
  exact ⟨k, List.mem_range.2 hk, h⟩
theorem anyP_no {p : List Int → Bool} {C : List (List Int)} (h : ∀ k, k < C.length → p (C.getD k []) = false) : anyP p C = false := by
  rw [Bool.eq_false_iff]
  intro hc
  unfold anyP at hc
  rw [List.any_eq_true] at hc
  obtain ⟨k, hk, e⟩ := hc
  rw [h k (List.mem_range.1 hk)] at e
  cases e
theorem anyP_not {p : List Int → Bool} {C : List (List Int)} (h : anyP p C = false) {k : Nat} (hk : k < C.length) : p (C.getD k []) = false := by
  rw [Bool.eq_false_iff]
  intro hc
  rw [anyP_yes hk hc] at h
  cases h
end Go.Proofs.YtnakpfbeeekmiaaDoor
