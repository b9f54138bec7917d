/- Choices of different numbers: what they are (plain). -/
import Derived.Test.YtiobbclciboggaaEx0
import Derived.Test.YtiobbclciboggaaDm0
import Derived.Test.YtiobbclciboggaaInS
namespace Go.Proofs.Ytiobbclciboggaa
open Go.RowKit

theorem extsL_many {g : List Int → List (List Int)} {fits : List Int → Int → Bool} {c : Nat} {P : List Int} (h : ∀ Q, Q.length = P.length + 1 → (g Q).length ≤ c) : ∀ D : List Int, (extsL g fits P D).length ≤ D.length * c
  | [] => by simp [extsL]
  | x :: D => by
    have ih := extsL_many (fits := fits) h D
    have e : extsL g fits P (x :: D) = (if fits P x then g (P ++ [x]) else []) ++ extsL g fits P D := rfl
    rw [e, List.length_append, List.length_cons, Nat.add_mul, Nat.one_mul]
    have h1 := h (P ++ [x]) (by simp)
    split
    · omega
    · simp only [List.length_nil]; omega
theorem exts_many {fits : List Int → Int → Bool} {Ls : List (List Int)} (h : ∀ i, (Ls.getD i []).length ≤ 8) : ∀ (f : Nat) (P : List Int), (exts fits Ls f P).length ≤ 8 ^ f
  | 0, P => by simp [exts]
  | f + 1, P => by
    have e : exts fits Ls (f + 1) P = extsL (exts fits Ls f) fits P (Ls.getD P.length []) := rfl
    rw [e, Nat.pow_succ, Nat.mul_comm]
    exact Nat.le_trans (extsL_many (fun Q _ => exts_many h f Q) _) (Nat.mul_le_mul_right _ (h _))
theorem cntW_few {X : List (List Int)} (h : X.length ≤ 1000000000) : cntW X = (X.length : Int) := by unfold cntW wrap64; omega
end Go.Proofs.Ytiobbclciboggaa
