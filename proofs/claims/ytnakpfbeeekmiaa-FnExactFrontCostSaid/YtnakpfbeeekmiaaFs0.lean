/- The first of the greatest of a list, and a list without one of different ones (plain). -/
import Derived.RowKit
namespace Go.Proofs.Ytnakpfbeeekmiaa
open Go.RowKit

/-- The first of the greatest of k. -/
def fstN (lt : Nat → Nat → Bool) (Y : List Nat) : Nat → Nat
  | 0 => 0
  | 1 => Y.getD 0 0
  | k + 2 => if lt (Y.getD (k + 1) 0) (fstN lt Y (k + 1)) then Y.getD (k + 1) 0 else fstN lt Y (k + 1)
theorem fstN_in {lt : Nat → Nat → Bool} {Y : List Nat} {n : Nat} (h : ∀ i, i < Y.length → Y.getD i 0 < n) : ∀ k, 1 ≤ k → k ≤ Y.length → fstN lt Y k < n
  | 0, h0, _ => by omega
  | 1, _, h1 => h 0 (by omega)
  | k + 2, _, h1 => by
    have ih := fstN_in (lt := lt) h (k + 1) (by omega) (by omega)
    unfold fstN
    split
    · exact h _ (by omega)
    · exact ih
/-- The index of the first of the greatest of k. -/
def mxI (lt : Nat → Nat → Bool) (Y : List Nat) : Nat → Nat
  | 0 => 0
  | 1 => 0
  | k + 2 => if lt (Y.getD (k + 1) 0) (Y.getD (mxI lt Y (k + 1)) 0) then k + 1 else mxI lt Y (k + 1)
theorem mxI_lt (lt : Nat → Nat → Bool) (Y : List Nat) : ∀ k, mxI lt Y (k + 1) < k + 1
  | 0 => by simp [mxI]
  | k + 1 => by
    have ih := mxI_lt lt Y k
    unfold mxI
    split <;> omega
theorem mxI_fst (lt : Nat → Nat → Bool) (Y : List Nat) : ∀ k, Y.getD (mxI lt Y (k + 1)) 0 = fstN lt Y (k + 1)
  | 0 => rfl
  | k + 1 => by
    have ih := mxI_fst lt Y k
    show Y.getD (if lt (Y.getD (k + 1) 0) (Y.getD (mxI lt Y (k + 1)) 0) then k + 1 else mxI lt Y (k + 1)) 0 = (if lt (Y.getD (k + 1) 0) (fstN lt Y (k + 1)) then Y.getD (k + 1) 0 else fstN lt Y (k + 1))
    rw [ih]
    split
    · rfl
    · exact ih
/-- To strike a place of a list of different ones is to strike its number. -/
theorem erase_filter {Y : List Nat} (h : Y.Nodup) : ∀ i, i < Y.length → Y.take i ++ Y.drop (i + 1) = Y.filter fun z => !(z == Y.getD i 0) := by
  induction Y with
  | nil => intro i hi; simp at hi
  | cons y Y ih =>
    rw [List.nodup_cons] at h
    intro i hi
    cases i with
    | zero =>
      have hall : Y.filter (fun z => !(z == y)) = Y := List.filter_eq_self.2 fun z hz => by
        have : z ≠ y := fun e => h.1 (e ▸ hz)
        simpa using this
      have e0 : (y :: Y).getD 0 0 = y := rfl
      rw [e0, List.filter_cons]
      simp [hall]
    | succ i =>
      have hi' : i < Y.length := by simpa using hi
      have e0 : (y :: Y).getD (i + 1) 0 = Y.getD i 0 := by simp [List.getD]
      rw [e0, List.filter_cons]
      have hne : y ≠ Y.getD i 0 := by
        intro e
        have : Y.getD i 0 ∈ Y := by
          rw [show Y.getD i 0 = Y[i] by simp [List.getD, hi']]
          exact List.getElem_mem _
        exact h.1 (e ▸ this)
      have hb : (!(y == Y.getD i 0)) = true := by simpa using hne
      rw [if_pos hb, ← ih h.2 i hi']
      rfl
end Go.Proofs.Ytnakpfbeeekmiaa
