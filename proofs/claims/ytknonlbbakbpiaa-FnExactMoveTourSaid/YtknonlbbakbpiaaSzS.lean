/- Sizes: the model. -/
import Derived.Test.YtknonlbbakbpiaaArF
import Derived.Test.YtknonlbbakbpiaaMix
import Derived.Test.YtknonlbbakbpiaaIl
import Derived.Deep.QuietTactic
import Derived.BigQuiet
namespace Go.Proofs.Ytknonlbbakbpiaa
open Go.RowKit Go.ChangeShapes Go.WideShapes

theorem fewB_cases {n : Nat} : (fewB n = true ∧ 1 ≤ (n : Int) ∧ (n : Int) ≤ 16) ∨ (fewB n = false ∧ (n : Int) < 1) ∨ (fewB n = false ∧ 1 ≤ (n : Int) ∧ 16 < (n : Int)) := by
  unfold fewB
  by_cases h1 : 1 ≤ (n : Int)
  · by_cases h2 : (n : Int) ≤ 16
    · exact Or.inl ⟨by simp [h1, h2], h1, h2⟩
    · exact Or.inr (Or.inr ⟨by simp; omega, h1, by omega⟩)
  · exact Or.inr (Or.inl ⟨by simp; omega, by omega⟩)
end Go.Proofs.Ytknonlbbakbpiaa
