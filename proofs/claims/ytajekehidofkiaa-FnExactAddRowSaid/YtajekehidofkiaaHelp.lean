/- What keeps boxes and growing lists over an append. -/
import Derived.Test.YtajekehidofkiaaOwnR
import Derived.Test.YtajekehidofkiaaMarkR
namespace Go.Proofs.Ytajekehidofkiaa
open Go.RowKit Go.ChangeShapes Go.WideShapes

theorem RP.below {w w' : World} {g : Nat} {s1 s2 s3 : Value} {R : Rw} (h : RP w g s1 s2 s3 R) (hb : Below w.heap.size w w') : RP w' g s1 s2 s3 R :=
  ⟨keep_cell h.c0 hb (cell_block h.c0), keep_cell h.c1 hb (cell_block h.c1), keep_cell h.c2 hb (cell_block h.c2), keep_cell h.c3 hb (cell_block h.c3), h.r1.below hb (Nat.le_refl _), h.r2.below hb (Nat.le_refl _), h.r3.below hb (Nat.le_refl _)⟩
theorem Box4.grown {w w' : World} {g : Nat} {a b c d : Value} {row : Option Nat} (h : Box4 w g a b c d) (hg : w.grownBy w' row) (hn : row ≠ some g) : Box4 w' g a b c d := by
  have hl : g < w.heap.size := h.lt
  have hb := hg.block g hl (fun e => hn e.symm)
  have hc : ∀ i, w'.cell? ⟨g, i, none⟩ = w.cell? ⟨g, i, none⟩ := fun i => World.cell?_of_block (w := w) (a := ⟨g, i, none⟩) hb
  exact ⟨by rw [hc]; exact h.c0, by rw [hc]; exact h.c1, by rw [hc]; exact h.c2, by rw [hc]; exact h.c3⟩
theorem free_grown {w w' : World} {g : Nat} {row : Option Nat} (h : ∀ i, w.frozen? ⟨g, i, none⟩ = false) (hl : g < w.heap.size) (hg : w.grownBy w' row) (hn : row ≠ some g) : ∀ i, w'.frozen? ⟨g, i, none⟩ = false := fun i => by
  have hb := hg.block g hl (fun e => hn e.symm)
  rw [World.frozen?_of_block (w := w) (a := ⟨g, i, none⟩) hb]
  exact h i
/-- A list that grows lies in its one block. -/
theorem Grows.one {E B gg n c : Nat} {Z : List Nat} {w : World} (h : Grows (Value.float .f32) E B (.slice (some ⟨gg, 0, none⟩) n c) Z w) : FI gg (gg + 1) w (.slice (some ⟨gg, 0, none⟩) n c) Z := by
  have hat := h.at
  have h0 : Grows (Value.float .f32) E gg (.slice (some ⟨gg, 0, none⟩) n c) Z w := by
    refine ⟨h.1, ?_⟩
    rcases h.2 with ⟨hv, _⟩ | ⟨g, cap, cur, e, _, hr⟩
    · cases hv
    · cases e
      exact Or.inr ⟨_, _, cur, rfl, Nat.le_refl _, hr⟩
  obtain ⟨_, hs | ⟨b, off, cap, e, h2, h3, h4, h5, h6⟩⟩ := h0.si (d := (0 : Nat))
  · exact ⟨hat.2, Or.inl hs⟩
  · cases e
    exact ⟨hat.2, Or.inr ⟨_, _, cap, rfl, h2, Nat.le_refl _, Nat.lt_succ_self _, h5, h6⟩⟩
end Go.Proofs.Ytajekehidofkiaa
