/- Rows of strings that the call has made, beside rows of another type. -/
import Derived.Test.YtcgdkjbbdpmmhaaDoorCut
namespace Go.Proofs.YtcgdkjbbdpmmhaaDoor
open Go.RowKit Go.ChangeShapes Go.WideShapes

theorem Grows.strs2 {E B : Nat} {v : Value} {Z : List ByteArray} {w : World} (h : Grows Value.string E B v Z w) (hp : 0 < Z.length) :
    ∃ g cap, v = .slice (some ⟨g, 0, none⟩) Z.length cap ∧ B ≤ g ∧ ∀ i, i < Z.length → w.cell? ⟨g, i, none⟩ = some (.string (Z.getD i (bsOf []))) := by
  have hc := fun g hg => World.ownsRow.cells (g := g) h hg
  obtain ⟨-, ⟨-, h0⟩ | ⟨g, cap, cur, rfl, hB, hg, hn, hm, -, -⟩⟩ := h
  · omega
  · refine ⟨g, cap, rfl, hB, fun i hi => ?_⟩
    have h1 := hc g rfl i (.string (Z.getD i (bsOf []))) (by simp [List.getD, hi])
    rw [Addr.add_lit, Nat.zero_add] at h1
    exact h1
/-- A row stays where one of another type grows. -/
theorem Grows.other {α β : Type} {mk : α → Value} {mk2 : β → Value} {E1 E2 B1 B2 : Nat} {v1 v2 : Value} {Z1 : List α} {Z2 : List β} {w w' : World} (h1 : Grows mk E1 B1 v1 Z1 w) (h2 : Grows mk2 E2 B2 v2 Z2 w) (hE : E1 ≠ E2) (hg : w.grownBy w' v2.ownBlock) : Grows mk E1 B1 v1 Z1 w' := by
  refine ⟨h1.1, ?_⟩
  rcases h1.2 with h | ⟨g, cap, cur, rfl, hB, hgc, hr⟩
  · exact Or.inl h
  · refine Or.inr ⟨g, cap, cur, rfl, hB, (hg.block g (Array.getElem?_eq_some_iff.1 hgc).1 (fun e => ?_)).trans hgc, hr⟩
    rcases h2.2 with ⟨rfl, -⟩ | ⟨g2, cap2, cur2, rfl, hB2, hgc2, hr2⟩
    · cases e
    · cases e
      rw [hgc] at hgc2
      injection hgc2 with e2
      injection e2 with e3 e4 e5
      exact hE e4
end Go.Proofs.YtcgdkjbbdpmmhaaDoor
