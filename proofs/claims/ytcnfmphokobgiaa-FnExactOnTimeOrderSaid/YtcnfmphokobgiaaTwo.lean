/- Two lists of integers that grow beside each other. -/
import Derived.Test.YtcnfmphokobgiaaGrw
import Derived.Maps.AppendAt
namespace Go.Proofs.Ytcnfmphokobgiaa
open Go.RowKit Go.ChangeShapes Go.WideShapes

structure TwoAt (w : World) (v1 v2 : Value) (Y1 Y2 : List Int) (wr : World) : Prop where
  below : Below w.heap.size w wr
  one : Grows (Value.int .i64) 2 w.heap.size v1 Y1 wr
  two : Grows (Value.int .i64) 2 w.heap.size v2 Y2 wr
  apart : ∀ g, v1.ownBlock = some g → v2.ownBlock ≠ some g
theorem TwoAt.drew {w wr : World} {v1 v2 : Value} {Y1 Y2 : List Int} (h : TwoAt w v1 v2 Y1 Y2 wr) (n : Nat) : TwoAt w v1 v2 Y1 Y2 (wr.drewN n) := ⟨below_drewN h.below n, h.one, h.two, h.apart⟩
theorem TwoAt.swap {w wr : World} {v1 v2 : Value} {Y1 Y2 : List Int} (h : TwoAt w v1 v2 Y1 Y2 wr) : TwoAt w v2 v1 Y2 Y1 wr := ⟨h.below, h.two, h.one, fun g h2 h1 => h.apart g h1 h2⟩
theorem TwoAt.more {w wr w' : World} {v1 v1' v2 : Value} {Y1 Y2 : List Int} {x : Int} {o : Obj} (h : TwoAt w v1 v2 Y1 Y2 wr)
    (hown : w'.ownsRow w.heap.size 2 1 v1' (Y1.length + 1) (Y1.map (Value.int .i64) ++ [.int .i64 x])) (hg : (wr.alloc o).grownBy w' v1.ownBlock)
    (hat : v1'.ownBlock = v1.ownBlock ∨ v1'.ownBlock = some (wr.alloc o).heap.size) : TwoAt w v1' v2 (Y1 ++ [x]) Y2 w' := by
  have hs := h.below.size
  refine ⟨(h.below.alloc hs o).grown hg (by simp; omega) (fun g e => h.one.block g e), Grows.more (news := [x]) rfl hown, ?_, fun g e e2 => ?_⟩
  · refine World.ownsRow.kept (h.two.alloc o) hg ?_
    cases hv : v2.ownBlock with
    | none => exact Or.inl rfl
    | some g => exact Or.inr fun e => h.apart g e.symm hv
  · rcases hat with e1 | e1
    · exact h.apart g (by rw [← e1]; exact e) e2
    · have h2 := (World.ownsRow.lt h.two g e2).2
      rw [e1] at e
      injection e with e
      simp at e
      omega
theorem TwoAt.start (w : World) : TwoAt w (.slice (some ⟨w.heap.size, 0, none⟩) 0 0) (.slice (some ⟨w.heap.size + 1, 0, none⟩) 0 0) [] [] ((w.alloc (.cells #[] 2)).alloc (.cells #[] 2)) := by
  refine ⟨(below_alloc w _).alloc (by simp) _, (Grows.empty (Value.int .i64) 2 w.heap.size w (Nat.le_refl _)).alloc _, ?_, fun g e e2 => ?_⟩
  · have h := Grows.empty (Value.int .i64) 2 w.heap.size (w.alloc (.cells #[] 2)) (by simp)
    simpa using h
  · simp [Value.ownBlock] at e e2
    omega
end Go.Proofs.Ytcnfmphokobgiaa
