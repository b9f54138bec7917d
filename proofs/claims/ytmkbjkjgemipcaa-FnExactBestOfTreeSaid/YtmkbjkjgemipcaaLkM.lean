/- What one looks at in a tree: the counter's memory. -/
import Derived.Test.YtmkbjkjgemipcaaLk0
import Derived.Test.YtmkbjkjgemipcaaChS
import Derived.Test.YtmkbjkjgemipcaaMax
namespace Go.Proofs.Ytmkbjkjgemipcaa
open Go.RowKit Go.ChangeShapes Go.WideShapes

structure LkAt (X : World) (g : Nat) (z : Int) (wr : World) : Prop where
  turned : Turned g (g + 1) X wr
  cell : wr.cell? ⟨g, 0, none⟩ = some (.int .i64 z)
  free : wr.frozen? ⟨g, 0, none⟩ = false
theorem LkAt.trans {X wr w' : World} {g : Nat} {z z' : Int} (h : LkAt X g z wr) (k : LkAt wr g z' w') : LkAt X g z' w' := ⟨h.turned.trans k.turned, k.cell, k.free⟩
theorem LkAt.self {X wr : World} {g : Nat} {z : Int} (h : LkAt X g z wr) : LkAt wr g z wr := ⟨Turned.refl _ _ _, h.cell, h.free⟩
theorem LkAt.below {X wr w' : World} {g : Nat} {z : Int} (h : LkAt X g z wr) (b : Below wr.heap.size wr w') : LkAt X g z w' := by
  have hl := cell_block h.cell
  exact ⟨h.turned.trans (Turned.of_below b (Nat.le_refl _)), keep_cell h.cell b hl, by rw [b.frozen (p := ⟨g, 0, none⟩) hl]; exact h.free⟩
theorem LkAt.set {X wr : World} {g : Nat} {z : Int} (h : LkAt X g z wr) (y : Int) : LkAt X g y (wr.setCell ⟨g, 0, none⟩ (.int .i64 y)) :=
  ⟨h.turned.setCell (Nat.le_refl _) (Nat.lt_succ_self _) _, World.cell?_setCell_same _ _ _ h.cell, by rw [World.frozen?_setCell]; exact h.free⟩
/-- The tree in a box, its lists, all outside block g. -/
structure TrN (X : World) (gt g b1 o1 c1 b2 o2 c2 : Nat) (P V : List Int) : Prop where
  box : Box2 X gt (.slice (some ⟨b1, o1, none⟩) P.length (P.length + c1)) (.slice (some ⟨b2, o2, none⟩) V.length (V.length + c2))
  cs1 : ∀ i, i < P.length → X.cell? ⟨b1, o1 + i, none⟩ = some (.int .i64 (P.getD i 0))
  cs2 : ∀ i, i < V.length → X.cell? ⟨b2, o2 + i, none⟩ = some (.int .i64 (V.getD i 0))
  p1 : 0 < P.length
  p2 : 0 < V.length
  n1 : gt ≠ g
  n2 : b1 ≠ g
  n3 : b2 ≠ g
theorem TrN.kept {X w' : World} {gt g b1 o1 c1 b2 o2 c2 : Nat} {P V : List Int} (h : TrN X gt g b1 o1 c1 b2 o2 c2 P V) (t : Turned g (g + 1) X w') : TrN w' gt g b1 o1 c1 b2 o2 c2 P V :=
  ⟨h.box.kept t (by have := h.n1; omega), fun i hi => keep_cell' (h.cs1 i hi) t (by have := h.n2; omega), fun i hi => keep_cell' (h.cs2 i hi) t (by have := h.n3; omega), h.p1, h.p2, h.n1, h.n2, h.n3⟩
theorem TrN.tr {X : World} {gt g b1 o1 c1 b2 o2 c2 : Nat} {P V : List Int} (h : TrN X gt g b1 o1 c1 b2 o2 c2 P V) : TrAt X gt ⟨P, V⟩ :=
  ⟨_, _, h.box, Or.inr ⟨b1, o1, c1, rfl, h.p1, cell_block (h.cs1 0 h.p1), h.cs1⟩, Or.inr ⟨b2, o2, c2, rfl, h.p2, cell_block (h.cs2 0 h.p2), h.cs2⟩⟩
end Go.Proofs.Ytmkbjkjgemipcaa
