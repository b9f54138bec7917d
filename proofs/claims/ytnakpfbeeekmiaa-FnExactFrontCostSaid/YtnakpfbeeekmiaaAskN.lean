/- Lists of asks: as numbers. -/
import Derived.Test.YtnakpfbeeekmiaaAsk
import Derived.Test.YtnakpfbeeekmiaaIns0
namespace Go.Proofs.Ytnakpfbeeekmiaa
open Go.RowKit Go.ChangeShapes Go.WideShapes

theorem asks_nat {A : List Int} {m : Int} (h : asksB A m = true) : A = intsN (A.map Int.toNat) ∧ ∀ x ∈ A.map Int.toNat, (x : Int) ≤ m := by
  have hA : allIn A 0 m = true := by unfold asksB at h; simp only [Bool.and_eq_true] at h; exact h.1
  have each : ∀ x ∈ A, 0 ≤ x ∧ x ≤ m := fun x hx => by
    obtain ⟨i, hi, rfl⟩ := List.getElem_of_mem hx
    have := allIn_at hA hi
    rw [show A.getD i 0 = A[i] by simp [List.getD, hi]] at this
    exact this
  refine ⟨?_, fun x hx => ?_⟩
  · unfold intsN
    rw [List.map_map]
    conv => lhs; rw [← List.map_id A]
    refine List.map_congr_left fun x hx => ?_
    have := each x hx
    show x = ((x.toNat : Nat) : Int)
    omega
  · obtain ⟨y, hy, rfl⟩ := List.mem_map.1 hx
    have := each y hy
    omega
end Go.Proofs.Ytnakpfbeeekmiaa
