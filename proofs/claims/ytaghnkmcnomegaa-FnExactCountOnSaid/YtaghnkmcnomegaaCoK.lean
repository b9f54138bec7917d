/- Different values of some letters: the two ways (plain). -/
import Derived.Test.YtaghnkmcnomegaaCo0
import Derived.Test.YtaghnkmcnomegaaMdM
namespace Go.Proofs.Ytaghnkmcnomegaa

theorem seen_two (L : Nat) (C : List (List Int)) (M a : Nat) : ∀ k, seenJ (modK L C k) M (modK L C k).length a = seenN L C M k a
  | 0 => rfl
  | k + 1 => by
    have ih := seen_two L C M a k
    rw [seenN_up]
    cases h : modelB L C k with
    | true =>
      rw [modK_yes h, List.length_append]
      show seenJ (modK L C k ++ [(k : Int)]) M ((modK L C k).length + 1) a = _
      rw [seenJ_up, seenJ_app _ _ _ _ _ (Nat.le_refl _), ih]
      simp [List.getD]
    | false => rw [modK_no h, ih]; simp
theorem cnt_two (L : Nat) (C : List (List Int)) (M : Nat) : ∀ k, cntJ (modK L C k) M (modK L C k).length = cntN L C M k
  | 0 => rfl
  | k + 1 => by
    have ih := cnt_two L C M k
    cases h : modelB L C k with
    | true =>
      rw [modK_yes h, List.length_append]
      show cntJ (modK L C k ++ [(k : Int)]) M (modK L C k).length + (if seenJ (modK L C k ++ [(k : Int)]) M (modK L C k).length (((modK L C k ++ [(k : Int)]).getD (modK L C k).length 0).toNat &&& M) then 0 else 1) = cntN L C M k + (if modelB L C k && !seenN L C M k (k &&& M) then 1 else 0)
      have e : ((modK L C k ++ [(k : Int)]).getD (modK L C k).length 0).toNat = k := by simp [List.getD]
      rw [e, cntJ_app _ _ _ _ (Nat.le_refl _), ih, seenJ_app _ _ _ _ _ (Nat.le_refl _), seen_two, h]
      cases seenN L C M k (k &&& M) <;> rfl
    | false =>
      rw [modK_no h, ih]
      show _ = cntN L C M k + (if modelB L C k && !seenN L C M k (k &&& M) then 1 else 0)
      rw [h]; rfl
end Go.Proofs.Ytaghnkmcnomegaa
