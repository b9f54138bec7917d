/- A row of marks of the call's own. -/
import Derived.Test.YtbaaocgdpgoggaaIl
import Derived.Deep.OwnRows
import Derived.Laws.MakeOwn
namespace Go.Proofs.Ytbaaocgdpgoggaa
open Go.RowKit Go.ChangeShapes Go.WideShapes

theorem Try.infoBo : (Try.prog.info? 4).map (fun i => (i.zero, i.size, i.bytes)) = some (some (.bool false), 1, 1) := by kernel_rfl
structure TakeAt (W : World) (B n : Nat) (f : Nat → Bool) (wr : World) : Prop where
  turned : Turned B (B + 1) W wr
  lt : B < W.heap.size
  ev : ∀ j, j < n → wr.cell? ⟨B, j, none⟩ = some (.bool (f j))
  free : ∀ j, wr.frozen? ⟨B, j, none⟩ = false
theorem TakeAt.to {W wr : World} {B n : Nat} {f f' : Nat → Bool} (h : TakeAt W B n f wr) (e : ∀ j, f j = f' j) : TakeAt W B n f' wr := ⟨h.turned, h.lt, fun j hj => by rw [← e j]; exact h.ev j hj, h.free⟩
theorem TakeAt.set {W wr : World} {B n k : Nat} {f : Nat → Bool} (h : TakeAt W B n f wr) (hk : k < n) : TakeAt W B n (fun j => if j = k then true else f j) (wr.setCell ⟨B, k, none⟩ (.bool true)) := by
  refine ⟨h.turned.setCell (Nat.le_refl _) (Nat.lt_succ_self _) _, h.lt, fun j hj => ?_, fun j => by rw [World.frozen?_setCell]; exact h.free j⟩
  by_cases e : j = k
  · subst e
    rw [if_pos rfl]
    exact World.cell?_setCell_same _ _ _ (h.ev j hj)
  · rw [if_neg e, World.cell?_setCell_other _ _ _ _ (by intro q; injection q with _ q2 _; exact e q2.symm)]
    exact h.ev j hj
theorem TakeAt.over {W w2 : World} {B n : Nat} {f : Nat → Bool} (h : TakeAt W B n f W) (b : Below W.heap.size W w2) : TakeAt w2 B n f w2 :=
  ⟨Turned.refl _ _ _, Nat.lt_of_lt_of_le h.lt b.size, fun j hj => by rw [b.cell (p := ⟨B, j, none⟩) h.lt]; exact h.ev j hj, fun j => by rw [b.frozen (p := ⟨B, j, none⟩) h.lt]; exact h.free j⟩
theorem take_start (W : World) (n : Nat) (t : TypeId) : TakeAt (W.alloc (.cells (madeCells #[.bool false] n) t)) W.heap.size n (fun _ => false) (W.alloc (.cells (madeCells #[.bool false] n) t)) :=
  ⟨Turned.refl _ _ _, by simp, fun j hj => by rw [World.cell?_alloc_new]; simp [madeCells, hj, Nat.mod_one], fun j => World.frozen?_alloc_new _ _ _ _⟩
end Go.Proofs.Ytbaaocgdpgoggaa
