/- Lists that grow, kept over calls. -/
import Derived.Test.YtfingpllakbpnaaDoorOwn
namespace Go.Proofs.YtfingpllakbpnaaDoor
open Go.RowKit Go.ChangeShapes Go.WideShapes

theorem Grows.below {α : Type} {mk : α → Value} {E B C : Nat} {v : Value} {Z : List α} {w w' : World} (h : Grows mk E B v Z w) (hb : Below C w w') (hC : w.heap.size ≤ C) : Grows mk E B v Z w' := by
  obtain ⟨h1, h2⟩ := h
  refine ⟨h1, ?_⟩
  rcases h2 with h2 | ⟨g, cap, cur, e, hB, hg, hr⟩
  · exact Or.inl h2
  · refine Or.inr ⟨g, cap, cur, e, hB, (hb.block g ?_).trans hg, hr⟩
    have := (Array.getElem?_eq_some_iff.1 hg).1
    omega
/-- A literal of one element that may be appended to. -/
theorem Grows.one {α : Type} (mk : α → Value) (E B : Nat) (w : World) (x : α) (h : B ≤ w.heap.size) : Grows mk E B (.slice (some ⟨w.heap.size, 0, none⟩) 1 1) [x] (w.alloc (.cells #[mk x] E)) :=
  ⟨by simp, Or.inr ⟨w.heap.size, 1, #[mk x], rfl, h, heap_alloc_new w _, Nat.le_refl _, by decide, rfl, by simp⟩⟩
end Go.Proofs.YtfingpllakbpnaaDoor
