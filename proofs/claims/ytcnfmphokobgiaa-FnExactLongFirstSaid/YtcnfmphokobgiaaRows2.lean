/- Two rows of integers of the call's own. -/
import Derived.Test.YtcnfmphokobgiaaRowA
namespace Go.Proofs.Ytcnfmphokobgiaa
open Go.RowKit Go.ChangeShapes Go.WideShapes

/-- Two rows of the call's own. -/
structure RowsAt (w : World) (B1 B2 : Nat) (F P : List Int) (wr : World) : Prop where
  below : Below w.heap.size w wr
  one : Arr (Value.int .i64) 0 wr B1 0 F
  two : Arr (Value.int .i64) 0 wr B2 0 P
  ge1 : w.heap.size ≤ B1
  ge2 : w.heap.size ≤ B2
  lt1 : B1 < wr.heap.size
  lt2 : B2 < wr.heap.size
  ne : B1 ≠ B2
theorem Arr.other {w : World} {g B off : Nat} {Z : List Int} (h : Arr (Value.int .i64) 0 w g 0 Z) (hne : g ≠ B) (u : Value) : Arr (Value.int .i64) 0 (w.setCell ⟨B, off, none⟩ u) g 0 Z :=
  ⟨fun i hi => by rw [World.cell?_setCell_other _ _ _ _ (by intro e; injection e with e1 _ _; exact hne e1.symm)]; exact h.cells i hi, fun i => by rw [World.frozen?_setCell]; exact h.free i⟩
theorem RowsAt.drew {w wr : World} {B1 B2 : Nat} {F P : List Int} (h : RowsAt w B1 B2 F P wr) (n : Nat) : RowsAt w B1 B2 F P (wr.drewN n) := ⟨below_drewN h.below n, h.one.drewN n, h.two.drewN n, h.ge1, h.ge2, h.lt1, h.lt2, h.ne⟩
theorem RowsAt.set1 {w wr : World} {B1 B2 : Nat} {F P : List Int} (h : RowsAt w B1 B2 F P wr) {i : Nat} (hi : i < F.length) (x : Int) : RowsAt w B1 B2 (F.set i x) P (wr.setCell ⟨B1, i, none⟩ (.int .i64 x)) :=
  ⟨h.below.setCell h.ge1 _, h.one.set0 hi x, h.two.other (fun e => h.ne e.symm) _, h.ge1, h.ge2, by simpa using h.lt1, by simpa using h.lt2, h.ne⟩
theorem RowsAt.set2 {w wr : World} {B1 B2 : Nat} {F P : List Int} (h : RowsAt w B1 B2 F P wr) {i : Nat} (hi : i < P.length) (x : Int) : RowsAt w B1 B2 F (P.set i x) (wr.setCell ⟨B2, i, none⟩ (.int .i64 x)) :=
  ⟨h.below.setCell h.ge2 _, h.one.other h.ne _, h.two.set0 hi x, h.ge1, h.ge2, by simpa using h.lt1, by simpa using h.lt2, h.ne⟩
/-- A list and a number. -/
def SaysJI (Z : List Int) (n : Int) (w : World) (e : Ending) (w' : World) : Prop := ∃ v, e = .returned (.tuple #[v, .int .i64 n]) ∧ II w.heap.size w'.heap.size w' v Z ∧ Below w.heap.size w w'
end Go.Proofs.Ytcnfmphokobgiaa
