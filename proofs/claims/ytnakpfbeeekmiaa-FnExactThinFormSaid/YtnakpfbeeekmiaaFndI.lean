/- The first place of a list at which something holds. -/
import Derived.Test.YtnakpfbeeekmiaaIl
namespace Go.Proofs.Ytnakpfbeeekmiaa
open Go.RowKit Go.ChangeShapes Go.WideShapes

structure FirstAt (p : Int → Bool) (Z : List Int) (k : Nat) : Prop where
  lt : k < Z.length
  yes : p (Z.getD k 0) = true
  no : ∀ j, j < k → p (Z.getD j 0) = false
def NoneAt (p : Int → Bool) (Z : List Int) : Prop := ∀ j, j < Z.length → p (Z.getD j 0) = false
def anyZ (p : Int → Bool) (Z : List Int) : Bool := (List.range Z.length).any fun i => p (Z.getD i 0)
theorem FirstAt.any {p : Int → Bool} {Z : List Int} {k : Nat} (h : FirstAt p Z k) : anyZ p Z = true := by
  unfold anyZ
  rw [List.any_eq_true]
  exact ⟨k, List.mem_range.2 h.lt, h.yes⟩
theorem anyZ_none {p : Int → Bool} {Z : List Int} (h : NoneAt p Z) : anyZ p Z = false := by
  unfold anyZ
  rw [List.any_eq_false]
  exact fun i hi => by rw [h i (List.mem_range.1 hi)]; simp
/-- The first place, or -1. -/
def FirstI (p : Int → Bool) (Z : List Int) (w : World) (e : Ending) (w' : World) : Prop := ((∃ k : Nat, FirstAt p Z k ∧ e = .returned (.int .i64 k)) ∨ (NoneAt p Z ∧ e = .returned (.int .i64 (-1)))) ∧ Below w.heap.size w w'
end Go.Proofs.Ytnakpfbeeekmiaa
