/- Lists of singles that come in. -/
import Derived.Test.YtajekehidofkiaaF2
import Derived.Lib.SmallJoins
namespace Go.Proofs.Ytajekehidofkiaa
open Go.ChangeShapes Go.WideShapes Go.ChangeAt Go.RowKit Go.ChangeMaps Go.Joins

def FitF (Z : List Nat) : Prop := Z.length ≤ maxLen ∧ ∀ x ∈ Z, x < 4294967296
set_option maxRecDepth 100000 in
theorem open_f32s {H : Type} {enc : TypeId × Value → H} {w : World} {v : Value} {d : DataW H} {ps : List MemPlace} {b0 : Nat}
    (hval : Value.okWide Try.prog w .any b0 44 v) (hd : DataW.Trod enc Try.prog w 0 (fun _ => true) true 44 v d ps) : ∃ Z : List Nat, SL w v Z ∧ FitF Z := by
  have hc : Try.prog.cellsOf 47 = 1 := by kernel_rfl
  obtain ⟨a0, len, cap, rfl⟩ := okWide_slice Try.underlying44 hval
  obtain ⟨fuel, hf⟩ := hd
  obtain ⟨Z, hZ, lZ, fZ⟩ := open_vl (d := (0 : Nat)) Try.underlying44 hc _ (one_f32 Try.underlying47) hf
  exact ⟨Z, hZ, lZ, fZ⟩
end Go.Proofs.Ytajekehidofkiaa
