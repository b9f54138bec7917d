/- The sine of some turns, on classes of doubles. -/
import Derived.Test.YtimdlnbdnednaacExt
namespace Go.Proofs.Ytimdlnbdnednaac
open Go.RowKit

/-- The integer of a double that is in range. -/
def toI (x : Nat) : Int := (floatToIntVal .f64 x .i64).getD 0
def litC (b : Nat) : Option Nat := Fl.cls .f64 b
def intC (n : Int) : Option Nat := Fl.cls .f64 (floatOfInt .f64 n)
def addC := Fl.arC .add .f64
def subC := Fl.arC .sub .f64
def mulC := Fl.arC .mul .f64
def quoC := Fl.arC .quo .f64
def ltC (a b : Option Nat) : Bool := Fl.ordC .f64 a b == some Ordering.lt
def gtC (a b : Option Nat) : Bool := Fl.ordC .f64 a b == some Ordering.gt
def geC (a b : Option Nat) : Bool := Fl.ordC .f64 a b == some Ordering.gt || Fl.ordC .f64 a b == some Ordering.eq
def negC : Option Nat → Option Nat
  | some x => some (Op.negFloat .f64 x)
  | none => none
def part0 (x : Nat) : Option Nat := subC (Fl.cls .f64 x) (intC (toI x))
def partC (x : Nat) : Option Nat := bif ltC (part0 x) (litC 0) then addC (part0 x) (litC 4607182418800017408) else part0 x
def half (f : Option Nat) : Option Nat := bif geC f (litC 4602678819172646912) then subC f (litC 4602678819172646912) else f
def fold (f : Option Nat) : Option Nat := bif gtC f (litC 4598175219545276416) then subC (litC 4602678819172646912) f else f
/-- The series' p behind j rounds. -/
def sumC (u : Option Nat) : Nat → Option Nat
  | 0 => litC 4607182418800017408
  | j + 1 => subC (litC 4607182418800017408) (quoC (mulC u (sumC u j)) (intC (2 * (8 - (j : Int)) * (2 * (8 - (j : Int)) + 1))))
def zC (x : Nat) : Option Nat := mulC (fold (half (partC x))) (litC 4618760256179416344)
def sineC (x : Nat) : Option Nat :=
  bif geC (partC x) (litC 4602678819172646912) then negC (mulC (zC x) (sumC (mulC (zC x) (zC x)) 8)) else mulC (zC x) (sumC (mulC (zC x) (zC x)) 8)

theorem neg_rg (x : Nat) : Fl.rg Ieee.double (Op.negFloat .f64 x) = Fl.rg Ieee.double x := by
  have e : Op.negFloat .f64 x = x ^^^ 2 ^ 63 := rfl
  unfold Fl.rg
  rw [e, Fl.double_S]
  show (x ^^^ 2 ^ 63) % 2 ^ 63 = x % 2 ^ 63
  rw [Nat.xor_mod_two_pow]
  simp
theorem nan_of_rg {x y : Nat} (h : Fl.rg Ieee.double x = Fl.rg Ieee.double y) : (Ieee.double.read x).isNaN = (Ieee.double.read y).isNaN := by
  unfold Fl.rg at h
  unfold Ieee.Format.read
  simp only [h]
  split
  · rfl
  · split
    · rfl
    · split <;> rfl
theorem cls_neg (x : Nat) : Fl.cls .f64 (Op.negFloat .f64 x) = negC (Fl.cls .f64 x) := by
  have h := nan_of_rg (neg_rg x)
  cases hn : (Ieee.double.read x).isNaN with
  | true => rw [Fl.cls_none (k := .f64) hn, Fl.cls_none (k := .f64) (h.trans hn)]; rfl
  | false => rw [Fl.cls_some (k := .f64) hn, Fl.cls_some (k := .f64) (h.trans hn)]; rfl

theorem run_neg {P : Program} (w : World) (k : FloatKind) (x : Nat) : (Op.unary .neg (.float k x)).run P w = .ok (.float k (Op.negFloat k x)) w := rfl
end Go.Proofs.Ytimdlnbdnednaac
