/- Where lists of integers lie. -/
import Derived.Test.YtknonlbbakbpiaaGrw
import Derived.Test.YtknonlbbakbpiaaIl
import Derived.WalkSpells
namespace Go.Proofs.Ytknonlbbakbpiaa
open Go.RowKit Go.ChangeShapes Go.WideShapes

/-- Where a list of numbers lies, also an empty one, but nil. -/
def LiesI (w : World) (ad : Addr) (Z : List Int) : Prop := ∀ (o : Obj) j u, (Z.map (Value.int .i64))[j]? = some u → (w.alloc o).cell? (ad.add j) = some u
theorem IL.lies {w : World} {v : Value} {Z : List Int} (h : IL w v Z) : (Z = [] ∧ ∃ cap, v = .slice none 0 cap) ∨ ∃ ad cap, v = .slice (some ad) Z.length cap ∧ LiesI w ad Z := by
  rcases h with ⟨rfl, ao, cap, rfl⟩ | ⟨b, off, cap, rfl, hpos, hbl, hcell⟩
  · cases ao with
    | none => exact Or.inl ⟨rfl, cap, rfl⟩
    | some ad => exact Or.inr ⟨ad, cap, rfl, fun o j u hu => by simp at hu⟩
  · refine Or.inr ⟨_, _, rfl, fun o j u hu => ?_⟩
    have hj : j < Z.length := by
      have := (List.getElem?_eq_some_iff.1 hu).1
      simpa using this
    rw [Go.WideShapes.add_plain, (below_alloc w o).cell (p := ⟨b, off + j, none⟩) hbl, hcell j hj]
    rw [← hu]
    simp [List.getD, hj]
theorem map_oneI (Z : List Int) : ∀ u ∈ Z.map (Value.int .i64), u.oneCell' = true := by
  intro u hu
  obtain ⟨x, -, rfl⟩ := List.mem_map.1 hu
  rfl
end Go.Proofs.Ytknonlbbakbpiaa
