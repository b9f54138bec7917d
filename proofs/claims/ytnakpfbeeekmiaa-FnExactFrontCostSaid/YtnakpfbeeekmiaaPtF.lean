/- One element put into a list (plain). -/
import Derived.Test.YtnakpfbeeekmiaaVl
namespace Go.Proofs.Ytnakpfbeeekmiaa

/-- A list with one element more. -/
def putF (Z : List Int) (k : Nat) (x : Int) : List Int := Z.take k ++ x :: Z.drop k
theorem putF_len {Z : List Int} {k : Nat} {x : Int} (h : k ≤ Z.length) : (putF Z k x).length = Z.length + 1 := by simp [putF]; omega
theorem putF_at {Z : List Int} {k j : Nat} {x : Int} (hk : k ≤ Z.length) : (putF Z k x).getD j 0 = if j < k then Z.getD j 0 else if j = k then x else Z.getD (j - 1) 0 := by
  unfold putF
  by_cases h : j < k
  · rw [if_pos h, List.getD, List.getElem?_append_left (by simp; omega), List.getElem?_take_of_lt h, List.getD]
  · rw [if_neg h, List.getD, List.getElem?_append_right (by simp; omega), List.length_take, Nat.min_eq_left hk]
    by_cases e : j = k
    · subst e; simp
    · rw [if_neg e, show j - k = (j - k - 1) + 1 by omega, List.getElem?_cons_succ, List.getElem?_drop, show k + (j - k - 1) = j - 1 by omega, List.getD]
end Go.Proofs.Ytnakpfbeeekmiaa
