/- How lists read, empty ones among them: one form. -/
import Derived.Test.YtaghnkmcnomegaaBs
import Derived.Test.YtaghnkmcnomegaaLs
namespace Go.Proofs.Ytaghnkmcnomegaa
open Go.RowKit Go.ChangeShapes Go.WideShapes

theorem IL.any {w : World} {v : Value} {Z : List Int} (h : IL w v Z) : ∃ ao cap, v = .slice ao Z.length cap ∧ ∀ i, i < Z.length → ∃ b off, ao = some ⟨b, off, none⟩ ∧ b < w.heap.size ∧ w.cell? ⟨b, off + i, none⟩ = some (.int .i64 (Z.getD i 0)) := by
  rcases h with ⟨rfl, ao, cap, rfl⟩ | ⟨b, off, cap, rfl, h2, h3, h4⟩
  · exact ⟨ao, cap, rfl, fun i hi => by simp at hi⟩
  · exact ⟨_, _, rfl, fun i hi => ⟨b, off, rfl, h3, h4 i hi⟩⟩
theorem LV.any {w : World} {v : Value} {C : List (List Int)} (h : LV w v C) : ∃ ao cap, v = .slice ao C.length cap ∧ ∀ i, i < C.length → ∃ b off u, ao = some ⟨b, off, none⟩ ∧ b < w.heap.size ∧ w.cell? ⟨b, off + i, none⟩ = some u ∧ IL w u (C.getD i []) := by
  rcases h with ⟨rfl, ao, cap, rfl⟩ | ⟨b, off, cap, U, rfl, h2, h3, h4⟩
  · exact ⟨ao, cap, rfl, fun i hi => by simp at hi⟩
  · exact ⟨_, _, rfl, fun i hi => ⟨b, off, U i, rfl, h3, (h4 i hi).1, (h4 i hi).2⟩⟩
theorem BL.any {w : World} {v : Value} {Z : List Bool} (h : BL w v Z) : ∃ ao cap, v = .slice ao Z.length cap ∧ ∀ i, i < Z.length → ∃ b off, ao = some ⟨b, off, none⟩ ∧ b < w.heap.size ∧ w.cell? ⟨b, off + i, none⟩ = some (.bool (Z.getD i false)) := by
  rcases h with ⟨rfl, ao, cap, rfl⟩ | ⟨b, off, cap, rfl, h2, h3, h4⟩
  · exact ⟨ao, cap, rfl, fun i hi => by simp at hi⟩
  · exact ⟨_, _, rfl, fun i hi => ⟨b, off, rfl, h3, h4 i hi⟩⟩
/-- A list of bools and a bool. -/
def SaysBB (Z : List Bool) (b : Bool) (w : World) (e : Ending) (w' : World) : Prop := ∃ v, e = .returned (.tuple #[v, .bool b]) ∧ BI w.heap.size w'.heap.size w' v Z ∧ Below w.heap.size w w'
theorem saysBB {Y Z : List Bool} {a b : Bool} {v : Value} {w w' : World} (h : Y = Z) (h2 : a = b) (hb : BI w.heap.size w'.heap.size w' v Y) (k : Below w.heap.size w w') : SaysBB Z b w (.returned (.tuple #[v, .bool a])) w' := ⟨v, by rw [h2], h ▸ hb, k⟩
theorem bi_nil {w w' : World} : BI w.heap.size w'.heap.size w' (.slice none 0 0) [] := SI.nil _ (Nat.le_refl _) _ _
end Go.Proofs.Ytaghnkmcnomegaa
