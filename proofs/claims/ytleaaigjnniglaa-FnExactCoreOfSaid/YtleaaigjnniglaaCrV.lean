/- Clauses that have no model together: both sides. -/
import Derived.Test.YtleaaigjnniglaaCrP
import Derived.Test.YtleaaigjnniglaaCrS
namespace Go.Proofs.Ytleaaigjnniglaa

theorem crL_short (F : Fm) : (crL F).length ≤ 1048576 := by
  cases h : noneB F with
  | false => rw [cr_no h]; simp
  | true =>
    rw [cr_yes h]
    have h1 := (formB_ok (noneB_form h)).few
    have h2 := coreK_len F.letters.toNat F.cs F.cs.length
    omega
end Go.Proofs.Ytleaaigjnniglaa
