/- The entries of package math that the model stands in for, and arithmetic on floats, as rules of the walk. -/
import Derived.Test.YtajekehidofkiaaRows
import Derived.Test.YtajekehidofkiaaFl
import Derived.WalkKit
import Derived.WalkSpells
import Derived.WalkLawsBesides
import Derived.Lib.Hide
namespace Go.Proofs.Ytajekehidofkiaa
open Go.RowKit

theorem call_f64bits (x : Nat) (w : World) : (callFunc 116 #[.float .f64 x]).run Try.prog w = .ok (.value (.int .u64 x)) w := by rw [run_callFunc_extern (e := Extern.MathFloatBits.float64bits) Try.func116 (by kernel_rfl) (by kernel_rfl) (by kernel_rfl) (by kernel_rfl)]; rfl
theorem call_f64from (n : Int) (w : World) : (callFunc 115 #[.int .u64 n]).run Try.prog w = .ok (.value (.float .f64 n.toNat)) w := by rw [run_callFunc_extern (e := Extern.MathFloatBits.float64frombits) Try.func115 (by kernel_rfl) (by kernel_rfl) (by kernel_rfl) (by kernel_rfl)]; rfl

theorem run_add {P : Program} (w : World) (t : TypeId) (k : FloatKind) (x y : Nat) : (binOp .add t (.float k x) (.float k y)).run P w = .ok (.float k (Fl.ares w .add k x y)) (w.drewN (Fl.adr .add k x y)) := Fl.run_arith w .add t k x y (by simp)
theorem run_sub {P : Program} (w : World) (t : TypeId) (k : FloatKind) (x y : Nat) : (binOp .sub t (.float k x) (.float k y)).run P w = .ok (.float k (Fl.ares w .sub k x y)) (w.drewN (Fl.adr .sub k x y)) := Fl.run_arith w .sub t k x y (by simp)
theorem run_mul {P : Program} (w : World) (t : TypeId) (k : FloatKind) (x y : Nat) : (binOp .mul t (.float k x) (.float k y)).run P w = .ok (.float k (Fl.ares w .mul k x y)) (w.drewN (Fl.adr .mul k x y)) := Fl.run_arith w .mul t k x y (by simp)
theorem run_quo {P : Program} (w : World) (t : TypeId) (k : FloatKind) (x y : Nat) : (binOp .quo t (.float k x) (.float k y)).run P w = .ok (.float k (Fl.ares w .quo k x y)) (w.drewN (Fl.adr .quo k x y)) := Fl.run_arith w .quo t k x y (by simp)
end Go.Proofs.Ytajekehidofkiaa
