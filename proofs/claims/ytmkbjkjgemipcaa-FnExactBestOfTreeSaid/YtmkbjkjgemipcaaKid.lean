/- The children of all indices of a tree, and which are even: the memory. -/
import Derived.Test.YtmkbjkjgemipcaaGrd
import Derived.Test.YtmkbjkjgemipcaaCh0
import Derived.Laws.MakeOwn
namespace Go.Proofs.Ytmkbjkjgemipcaa
open Go.RowKit Go.ChangeShapes Go.WideShapes

structure KidsAt (w : World) (B E lo n : Nat) (U : Nat → Value) (L : Nat → List Int) (f : Nat → Bool) (wr : World) : Prop where
  grid : GridU w B lo n U L wr
  ege : w.heap.size ≤ E
  elo : E < lo
  ne : E ≠ B
  ev : ∀ j, j < n → wr.cell? ⟨E, j, none⟩ = some (.bool (f j))
  efree : ∀ j, wr.frozen? ⟨E, j, none⟩ = false
theorem KidsAt.to {w wr : World} {B E lo n : Nat} {U : Nat → Value} {L L' : Nat → List Int} {f f' : Nat → Bool} (h : KidsAt w B E lo n U L f wr) (e : ∀ k, k < n → L k = L' k) (ef : ∀ k, k < n → f k = f' k) : KidsAt w B E lo n U L' f' wr :=
  ⟨h.grid.to e, h.ege, h.elo, h.ne, fun j hj => by rw [← ef j hj]; exact h.ev j hj, h.efree⟩
theorem KidsAt.drew {w wr : World} {B E lo n : Nat} {U : Nat → Value} {L : Nat → List Int} {f : Nat → Bool} (h : KidsAt w B E lo n U L f wr) (m : Nat) : KidsAt w B E lo n U L f (wr.drewN m) :=
  ⟨h.grid.drew m, h.ege, h.elo, h.ne, h.ev, h.efree⟩
/-- What leaves the blocks from w on that are there as they are keeps it. -/
theorem KidsAt.keep {w wr w' : World} {B E lo n : Nat} {U : Nat → Value} {L : Nat → List Int} {f : Nat → Bool} (h : KidsAt w B E lo n U L f wr) (b : Below wr.heap.size wr w') : KidsAt w B E lo n U L f w' := by
  have hs := b.size
  have h1 := h.grid.lt
  have h2 := h.grid.blo
  have h3 := h.elo
  refine ⟨h.grid.kept (h.grid.below.trans (b.mono h.grid.below.size)) hs (b.block _ (by omega)) (fun q _ hq => b.block _ hq), h.ege, h.elo, h.ne, fun j hj => ?_, fun j => ?_⟩
  · rw [b.cell (p := ⟨E, j, none⟩) (by show E < _; omega)]; exact h.ev j hj
  · rw [b.frozen (p := ⟨E, j, none⟩) (by show E < _; omega)]; exact h.efree j
theorem KidsAt.low {w wr w' : World} {B E lo n p : Nat} {U : Nat → Value} {L : Nat → List Int} {f : Nat → Bool} {o : Obj} (h : KidsAt w B E lo n U L f wr) (hp : p < n) (hg : (wr.alloc o).grownBy w' (U p).ownBlock) : Below lo wr w' :=
  (Below.refl lo wr |>.alloc h.grid.lt o).grown hg (by have := h.grid.lt; simp; omega) (fun g e => (h.grid.row p hp).block g e)
theorem KidsAt.more {w wr w' : World} {B E lo n p : Nat} {U : Nat → Value} {L : Nat → List Int} {f : Nat → Bool} {v' : Value} {x : Int} {o : Obj} (h : KidsAt w B E lo n U L f wr) (hp : p < n)
    (hown : w'.ownsRow lo 2 1 v' ((L p).length + 1) ((L p).map (Value.int .i64) ++ [.int .i64 x])) (hg : (wr.alloc o).grownBy w' (U p).ownBlock)
    (hat : v'.ownBlock = (U p).ownBlock ∨ v'.ownBlock = some (wr.alloc o).heap.size) :
    KidsAt w B E lo n (fun k => if k = p then v' else U k) (fun k => if k = p then L p ++ [x] else L k) f (w'.setCell ⟨B, p, none⟩ v') := by
  have hl := h.low hp hg
  refine ⟨h.grid.more hp hown hg hat, h.ege, h.elo, h.ne, fun j hj => ?_, fun j => ?_⟩
  · rw [World.cell?_setCell_other _ _ _ _ (by intro q; injection q with q1 _ _; exact h.ne q1.symm), hl.cell (p := ⟨E, j, none⟩) h.elo]; exact h.ev j hj
  · rw [World.frozen?_setCell, hl.frozen (p := ⟨E, j, none⟩) h.elo]; exact h.efree j
theorem KidsAt.set {w wr : World} {B E lo n k : Nat} {U : Nat → Value} {L : Nat → List Int} {f : Nat → Bool} (h : KidsAt w B E lo n U L f wr) (hk : k < n) (b : Bool) :
    KidsAt w B E lo n U L (fun j => if j = k then b else f j) (wr.setCell ⟨E, k, none⟩ (.bool b)) := by
  have h3 := h.elo
  refine ⟨h.grid.kept (h.grid.below.setCell h.ege _) (by simp) (Below.heap_setCell _ _ _ _ (fun q => h.ne q.symm)) (fun q hq _ => Below.heap_setCell _ _ _ _ (by show q ≠ E; omega)), h.ege, h.elo, h.ne, fun j hj => ?_, fun j => by rw [World.frozen?_setCell]; exact h.efree j⟩
  by_cases e : j = k
  · subst e
    rw [if_pos rfl]
    exact World.cell?_setCell_same _ _ _ (h.ev j hj)
  · rw [if_neg e, World.cell?_setCell_other _ _ _ _ (by intro q; injection q with _ q2 _; exact e q2.symm)]
    exact h.ev j hj
theorem KidsAt.back {w W wr : World} {B E lo n : Nat} {U : Nat → Value} {L : Nat → List Int} {f : Nat → Bool} (h : KidsAt W B E lo n U L f wr) (hb : Below w.heap.size w W) : KidsAt w B E lo n U L f wr :=
  ⟨⟨hb.trans (h.grid.below.mono hb.size), Nat.le_trans hb.size h.grid.ge, h.grid.blo, h.grid.lt, h.grid.free, h.grid.cell, h.grid.row, h.grid.apart⟩, Nat.le_trans hb.size h.ege, h.elo, h.ne, h.ev, h.efree⟩
theorem made_at (z : Value) (n : Nat) {i : Nat} (hi : i < n) : (madeCells #[z] n)[i]? = some z := by
  simp [madeCells, hi, Nat.mod_one]
theorem alloc_cell {W : World} {z : Value} {n i : Nat} {T : TypeId} (hi : i < n) : (W.alloc (.cells (madeCells #[z] n) T)).cell? ⟨W.heap.size, i, none⟩ = some z := by
  rw [World.cell?_alloc_new]; exact made_at z n hi
theorem kids_start1 {w X : World} (hb : Below w.heap.size w X) (n : Nat) (t1 t2 : TypeId) :
    KidsAt w X.heap.size (X.heap.size + 1) (X.heap.size + 2) n (fun _ => .slice none 0 0) (fun _ => []) (fun _ => false) ((X.alloc (.cells (madeCells #[.slice none 0 0] n) t1)).alloc (.cells (madeCells #[.bool false] n) t2)) := by
  have s1 : (X.alloc (.cells (madeCells #[.slice none 0 0] n) t1)).heap.size = X.heap.size + 1 := by simp
  have hs := hb.size
  have b1 : Below (X.heap.size + 1) (X.alloc (.cells (madeCells #[.slice none 0 0] n) t1)) ((X.alloc (.cells (madeCells #[.slice none 0 0] n) t1)).alloc (.cells (madeCells #[.bool false] n) t2)) := by rw [← s1]; exact below_alloc _ _
  refine ⟨⟨(hb.alloc hs _).alloc (by simp; omega) _, hs, by omega, by simp, fun i => ?_, fun k hk => ?_, fun k hk => Grows.nil _ _ _ _, fun j k hj hk hjk g e1 => by simp [Value.ownBlock] at e1⟩, by omega, by omega, by omega, fun j hj => ?_, fun j => ?_⟩
  · rw [b1.frozen (p := ⟨X.heap.size, i, none⟩) (by show X.heap.size < _; omega)]; exact World.frozen?_alloc_new _ _ _ _
  · rw [b1.cell (p := ⟨X.heap.size, k, none⟩) (by show X.heap.size < _; omega)]; exact alloc_cell hk
  · have := alloc_cell (W := X.alloc (.cells (madeCells #[.slice none 0 0] n) t1)) (z := .bool false) (T := t2) hj
    rw [s1] at this; exact this
  · have := World.frozen?_alloc_new (X.alloc (.cells (madeCells #[.slice none 0 0] n) t1)) (madeCells #[.bool false] n) t2 j
    rw [s1] at this; exact this
theorem kids_start2 {w X : World} (hb : Below w.heap.size w X) (n : Nat) (t1 t2 : TypeId) :
    KidsAt w (X.heap.size + 1) X.heap.size (X.heap.size + 2) n (fun _ => .slice none 0 0) (fun _ => []) (fun _ => false) ((X.alloc (.cells (madeCells #[.bool false] n) t2)).alloc (.cells (madeCells #[.slice none 0 0] n) t1)) := by
  have s1 : (X.alloc (.cells (madeCells #[.bool false] n) t2)).heap.size = X.heap.size + 1 := by simp
  have hs := hb.size
  have b1 : Below (X.heap.size + 1) (X.alloc (.cells (madeCells #[.bool false] n) t2)) ((X.alloc (.cells (madeCells #[.bool false] n) t2)).alloc (.cells (madeCells #[.slice none 0 0] n) t1)) := by rw [← s1]; exact below_alloc _ _
  refine ⟨⟨(hb.alloc hs _).alloc (by simp; omega) _, by omega, by omega, by simp, fun i => ?_, fun k hk => ?_, fun k hk => Grows.nil _ _ _ _, fun j k hj hk hjk g e1 => by simp [Value.ownBlock] at e1⟩, hs, by omega, by omega, fun j hj => ?_, fun j => ?_⟩
  · have := World.frozen?_alloc_new (X.alloc (.cells (madeCells #[.bool false] n) t2)) (madeCells #[.slice none 0 0] n) t1 i
    rw [s1] at this; exact this
  · have := alloc_cell (W := X.alloc (.cells (madeCells #[.bool false] n) t2)) (z := .slice none 0 0) (T := t1) hk
    rw [s1] at this; exact this
  · rw [b1.cell (p := ⟨X.heap.size, j, none⟩) (by show X.heap.size < _; omega)]; exact alloc_cell hj
  · rw [b1.frozen (p := ⟨X.heap.size, j, none⟩) (by show X.heap.size < _; omega)]; exact World.frozen?_alloc_new _ _ _ _
end Go.Proofs.Ytmkbjkjgemipcaa
