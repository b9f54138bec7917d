/- Arrays of the call's own, of one-cell elements: what their cells hold; made, written, kept. -/
import Derived.Test.YtfingpllakbpnaaDoorVl
import Derived.Test.YtfingpllakbpnaaDoorI64
namespace Go.Proofs.YtfingpllakbpnaaDoor
open Go.RowKit Go.ChangeShapes Go.WideShapes

section
variable {α : Type} {mk : α → Value} {d : α}
/-- Block g holds, from off on, the list Z, and may be written. -/
structure Arr (mk : α → Value) (d : α) (w : World) (g off : Nat) (Z : List α) : Prop where
  cells : ∀ i, i < Z.length → w.cell? ⟨g, off + i, none⟩ = some (mk (Z.getD i d))
  free : ∀ i, w.frozen? ⟨g, i, none⟩ = false
theorem Arr.cell {w : World} {g off : Nat} {Z : List α} (h : Arr mk d w g off Z) {i : Nat} (hi : i < Z.length) : ∃ v, w.cell? ⟨g, off + i, none⟩ = some v := ⟨_, h.cells i hi⟩
theorem Arr.set {w : World} {g off : Nat} {Z : List α} (h : Arr mk d w g off Z) {i : Nat} (hi : i < Z.length) (x : α) : Arr mk d (w.setCell ⟨g, off + i, none⟩ (mk x)) g off (Z.set i x) := by
  refine ⟨fun j hj => ?_, fun j => by rw [World.frozen?_setCell]; exact h.free j⟩
  rw [List.length_set] at hj
  by_cases e : j = i
  · subst e
    rw [World.cell?_setCell_same _ _ _ (h.cells j hj)]
    simp [List.getD, hj]
  · rw [World.cell?_setCell_other _ _ _ _ (by intro hh; injection hh with _ h2 _; omega), h.cells j hj]
    rw [List.getD, List.getD, List.getElem?_set, if_neg (fun hh => e hh.symm)]
theorem Arr.set0 {w : World} {g : Nat} {Z : List α} (h : Arr mk d w g 0 Z) {i : Nat} (hi : i < Z.length) (x : α) : Arr mk d (w.setCell ⟨g, i, none⟩ (mk x)) g 0 (Z.set i x) := by
  have := h.set hi x
  rwa [Nat.zero_add] at this
theorem Arr.cell0 {w : World} {g : Nat} {Z : List α} (h : Arr mk d w g 0 Z) {i : Nat} (hi : i < Z.length) : w.cell? ⟨g, i, none⟩ = some (mk (Z.getD i d)) := by
  have := h.cells i hi
  rwa [Nat.zero_add] at this
theorem Arr.below {w w' : World} {g off B : Nat} {Z : List α} (h : Arr mk d w g off Z) (hb : Below B w w') (hg : g < B) : Arr mk d w' g off Z :=
  ⟨fun i hi => by rw [hb.cell (p := ⟨g, off + i, none⟩) hg]; exact h.cells i hi, fun i => by rw [hb.frozen (p := ⟨g, i, none⟩) hg]; exact h.free i⟩
theorem Arr.drewN {w : World} {g off : Nat} {Z : List α} (h : Arr mk d w g off Z) (n : Nat) : Arr mk d (w.drewN n) g off Z := ⟨h.cells, h.free⟩
theorem Arr.si {w : World} {g lo : Nat} {Z : List α} (h : Arr mk d w g 0 Z) (hl : lo ≤ g) (hg : g < w.heap.size) : SI mk d lo w.heap.size w (.slice (some ⟨g, 0, none⟩) Z.length Z.length) Z := by
  by_cases h0 : Z.length = 0
  · have : Z = [] := List.eq_nil_of_length_eq_zero h0
    subst this
    exact ⟨Nat.le_refl _, Or.inl ⟨rfl, _, _, rfl⟩⟩
  · exact ⟨Nat.le_refl _, Or.inr ⟨g, 0, 0, rfl, by omega, hl, hg, h.free, h.cells⟩⟩
end
theorem made_one (v : Value) (n : Nat) {j : Nat} (hj : j < n) : (madeCells v.cells (n * 1)).toList[j]? = some (v.cells.getD 0 undef) ∨ v.cells.size ≠ 1 := by
  by_cases h : v.cells.size = 1
  · left
    rw [Array.getElem?_toList]
    simp [madeCells, hj, h, Nat.mod_one]
  · exact Or.inr h
theorem Arr.made_f {w : World} {n B e : Nat} (h : w.ownsRow B e 1 (.slice (some ⟨B, 0, none⟩) n n) n (madeCells (Value.float .f32 0).cells (n * 1)).toList) : Arr (Value.float .f32) 0 w B 0 (List.replicate n 0) := by
  refine ⟨fun i hi => ?_, h.frozenAt⟩
  rw [List.length_replicate] at hi
  rw [Nat.zero_add, h.cellAt i (by omega)]
  rcases made_one (.float .f32 0) n hi with h1 | h1
  · rw [h1]; simp [Value.cells, List.getD, hi]
  · exact absurd rfl h1
theorem Arr.made_i {w : World} {n B e : Nat} (h : w.ownsRow B e 1 (.slice (some ⟨B, 0, none⟩) n n) n (madeCells (Value.int .i64 0).cells (n * 1)).toList) : Arr (Value.int .i64) 0 w B 0 (List.replicate n 0) := by
  refine ⟨fun i hi => ?_, h.frozenAt⟩
  rw [List.length_replicate] at hi
  rw [Nat.zero_add, h.cellAt i (by omega)]
  rcases made_one (.int .i64 0) n hi with h1 | h1
  · rw [h1]; simp [Value.cells, List.getD, hi]
  · exact absurd rfl h1
end Go.Proofs.YtfingpllakbpnaaDoor
