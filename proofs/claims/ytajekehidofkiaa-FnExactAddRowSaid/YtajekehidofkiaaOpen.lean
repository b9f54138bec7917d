/- Arguments that are rows or lists: how they read. -/
import Derived.Test.YtajekehidofkiaaOpF
import Derived.Test.YtajekehidofkiaaRws
import Derived.Lib.SmallJoins
namespace Go.Proofs.Ytajekehidofkiaa
open Go.ChangeShapes Go.WideShapes Go.ChangeAt Go.RowKit Go.ChangeMaps Go.Joins

/-- Rows as they come in: not too long, and each number has 32 bits. -/
def FitR (R : Rw) : Prop := R.N.length ≤ maxLen ∧ R.B.length ≤ maxLen ∧ R.G.length ≤ maxLen ∧ (∀ x ∈ R.N, x < 4294967296) ∧ (∀ x ∈ R.B, x < 4294967296) ∧ (∀ x ∈ R.G, x < 4294967296)
set_option maxRecDepth 100000 in
theorem open_rows {H : Type} {enc : TypeId × Value → H} {w : World} {v : Value} {d : DataW H} {ps : List MemPlace} {b0 : Nat}
    (hval : Value.okWide Try.prog w .any b0 46 v) (hd : DataW.Trod enc Try.prog w 0 (fun _ => true) true 46 v d ps) : ∃ R : Rw, RV w v R ∧ FitR R := by
  obtain ⟨v0, v1, v2, v3, y0, y1, y2, y3, n, rfl, -, -, t0, t1, t2, t3⟩ := open_agg4 Try.underlying46 (by kernel_rfl) (by kernel_rfl) hval hd
  obtain ⟨a, e0, -, -⟩ := DataW.trod_int Try.underlying2 t0
  simp only [List.cons.injEq, and_true] at e0
  subst e0
  have hc : Try.prog.cellsOf 47 = 1 := by kernel_rfl
  obtain ⟨N, hN, lN, fN⟩ := open_vl (d := (0 : Nat)) Try.underlying44 hc _ (one_f32 Try.underlying47) t1
  obtain ⟨B, hB, lB, fB⟩ := open_vl (d := (0 : Nat)) Try.underlying44 hc _ (one_f32 Try.underlying47) t2
  obtain ⟨G, hG, lG, fG⟩ := open_vl (d := (0 : Nat)) Try.underlying44 hc _ (one_f32 Try.underlying47) t3
  exact ⟨⟨a, N, B, G⟩, ⟨_, _, _, rfl, hN, hB, hG⟩, lN, lB, lG, fN, fB, fG⟩
end Go.Proofs.Ytajekehidofkiaa
