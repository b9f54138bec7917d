/- What is true in all models: the two ways (plain). -/
import Derived.Test.YtleaaigjnniglaaHo0
import Derived.Test.YtleaaigjnniglaaFsV
namespace Go.Proofs.Ytleaaigjnniglaa

theorem andL_modK (L : Nat) (C : List (List Int)) : ∀ k, andL L (modK L C k) (modK L C k).length = andK L C k
  | 0 => rfl
  | k + 1 => by
    have ih := andL_modK L C k
    unfold andK
    cases h : modelB L C k with
    | true =>
      rw [modK_yes h, List.length_append]
      show andL L (modK L C k ++ [(k : Int)]) (modK L C k).length &&& _ = _
      rw [andL_app L _ _ _ (Nat.le_refl _), ih]
      simp [List.getD]
    | false => rw [modK_no h]; exact ih
end Go.Proofs.Ytleaaigjnniglaa
