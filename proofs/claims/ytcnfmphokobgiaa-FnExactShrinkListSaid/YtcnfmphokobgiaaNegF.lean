/- Opposites of singles. -/
import Derived.Test.YtcnfmphokobgiaaFin
import Derived.ChangeAlike
namespace Go.Proofs.Ytcnfmphokobgiaa
open Go.RowKit Go.ChangeShapes Go.WideShapes

def negF (x : Nat) : Nat := Op.negFloat .f32 x
theorem run_negF {P : Program} (w : World) (x : Nat) : (Op.unary .neg (.float .f32 x)).run P w = .ok (.float .f32 (negF x)) w := by simp [Op.unary, negF]
theorem neg_rg32 (x : Nat) : Fl.rg Ieee.single (negF x) = Fl.rg Ieee.single x := by
  have e : negF x = x ^^^ 2 ^ 31 := rfl
  rw [e]
  show (x ^^^ 2 ^ 31) % 2 ^ 31 = x % 2 ^ 31
  rw [Nat.xor_mod_two_pow]
  simp
theorem fin_neg {x : Nat} (h : fin32 x = true) : fin32 (negF x) = true := by
  unfold fin32 at h ⊢
  rw [neg_rg32]; exact h
end Go.Proofs.Ytcnfmphokobgiaa
