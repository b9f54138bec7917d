/- A row of integers of the call's own. -/
import Derived.Test.YtnakpfbeeekmiaaIl
import Derived.Test.YtnakpfbeeekmiaaArr
namespace Go.Proofs.Ytnakpfbeeekmiaa
open Go.RowKit Go.ChangeShapes Go.WideShapes

theorem saysIB {n m : Int} {b : Bool} {w w' : World} (h : n = m) (k : Below w.heap.size w w') : SaysIB m b w (.returned (.tuple #[.int .i64 n, .bool b])) w' := ⟨by rw [h], k⟩
/-- A row of the call's own in block B. -/
structure RowAt (w : World) (B : Nat) (Z : List Int) (wr : World) : Prop where
  below : Below w.heap.size w wr
  lt : B < wr.heap.size
  ge : w.heap.size ≤ B
  arr : Arr (Value.int .i64) 0 wr B 0 Z
theorem RowAt.drew {w wr : World} {B : Nat} {Z : List Int} (h : RowAt w B Z wr) (n : Nat) : RowAt w B Z (wr.drewN n) := ⟨below_drewN h.below n, h.lt, h.ge, h.arr.drewN n⟩
theorem RowAt.set {w wr : World} {B : Nat} {Z : List Int} (h : RowAt w B Z wr) {i : Nat} (hi : i < Z.length) (x : Int) : RowAt w B (Z.set i x) (wr.setCell ⟨B, i, none⟩ (.int .i64 x)) :=
  ⟨h.below.setCell h.ge _, by simpa using h.lt, h.ge, h.arr.set0 hi x⟩
theorem RowAt.to {w wr : World} {B : Nat} {Z Y : List Int} (h : RowAt w B Z wr) (e : Z = Y) : RowAt w B Y wr := e ▸ h
theorem RowAt.cell {w wr : World} {B : Nat} {Z : List Int} (h : RowAt w B Z wr) {i : Nat} (hi : i < Z.length) : wr.cell? ⟨B, i, none⟩ = some (.int .i64 (Z.getD i 0)) := h.arr.cell0 hi
end Go.Proofs.Ytnakpfbeeekmiaa
