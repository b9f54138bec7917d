/- Sums of products of two lists of singles, on both sides. -/
import Derived.Test.YtajekehidofkiaaF32s
import Derived.Deep.QuietTactic
import Derived.BigQuiet
import Derived.BigRegion
import Derived.Deep.RegionWith
namespace Go.Proofs.Ytajekehidofkiaa
open Go.RowKit
attribute [local go_sem] run_add run_mul

def Ans32 (C : Option Nat) (w : World) (e : Ending) (w' : World) : Prop := ∃ r n, e = .returned (.float .f32 r) ∧ w' = w.drewN n ∧ Fl.cls .f32 r = C
theorem cls_zero : Fl.cls .f32 0 = some 0 := by decide
def Ans32b (C : Option Nat) (w : World) (e : Ending) (w' : World) : Prop := ∃ r n, e = .returned (.tuple #[.float .f32 r, .bool true]) ∧ w' = w.drewN n ∧ Fl.cls .f32 r = C
def dotC (Y Z : List Nat) : Nat → Option Nat
  | 0 => some 0
  | k + 1 => Fl.arC .add .f32 (dotC Y Z k) (Fl.arC .mul .f32 (Fl.cls .f32 (Y.getD k 0)) (Fl.cls .f32 (Z.getD k 0)))
def DotAt (Y Z : List Nat) (k : Nat) (s : Value) : Prop := ∃ r, s = .float .f32 r ∧ Fl.cls .f32 r = dotC Y Z k
theorem dot_step {Y Z : List Nat} {k r : Nat} (w w' : World) (h : Fl.cls .f32 r = dotC Y Z k) : DotAt Y Z (k + 1) (.float .f32 (Fl.ares w .add .f32 r (Fl.ares w' .mul .f32 (Y.getD k 0) (Z.getD k 0)))) :=
  ⟨_, rfl, by rw [Fl.cls_ares, Fl.cls_ares, h]; rfl⟩


end Go.Proofs.Ytajekehidofkiaa
