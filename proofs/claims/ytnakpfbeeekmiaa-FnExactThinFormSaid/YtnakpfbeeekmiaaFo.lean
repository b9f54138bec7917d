/- A form of the call's own that grows: its letters, and clauses that are put behind one another. -/
import Derived.Test.YtnakpfbeeekmiaaNrU
import Derived.Test.YtnakpfbeeekmiaaFm
import Derived.Lib.Builder
namespace Go.Proofs.Ytnakpfbeeekmiaa
open Go.RowKit Go.ChangeShapes Go.WideShapes

def SaysFB (N : Fm) (b : Bool) (w : World) (e : Ending) (w' : World) : Prop := ∃ v, e = .returned (.tuple #[v, .bool b]) ∧ FmD w.heap.size w'.heap.size w' v N ∧ Below w.heap.size w w'
/-- A box of two cells that may be written. -/
structure Res2 (w : World) (g : Nat) : Prop where
  c0 : ∃ u, w.cell? ⟨g, 0, none⟩ = some u
  c1 : ∃ u, w.cell? ⟨g, 1, none⟩ = some u
  free : ∀ i, w.frozen? ⟨g, i, none⟩ = false
theorem Res2.keep {B : Nat} {w w' : World} {g : Nat} (h : Res2 w g) (hb : Below B w w') (hg : g < B) : Res2 w' g := by
  obtain ⟨⟨u, h0⟩, ⟨v, h1⟩, hf⟩ := h
  exact ⟨⟨u, by rw [hb.cell (p := ⟨g, 0, none⟩) hg]; exact h0⟩, ⟨v, by rw [hb.cell (p := ⟨g, 1, none⟩) hg]; exact h1⟩, fun i => by rw [hb.frozen (p := ⟨g, i, none⟩) hg]; exact hf i⟩
theorem Res2.lt {w : World} {g : Nat} (h : Res2 w g) : g < w.heap.size := by
  obtain ⟨u, h0⟩ := h.c0
  exact cell_block h0
/-- The form in block g has the letters L and the clauses C. -/
structure FoUp (L : Int) (C : List (List Int)) (g : Nat) (s : Value) (w wr : World) (U : Nat → Value) : Prop where
  box : wr.heap[g]? = some (.cells #[.int .i64 L, s] 29 (0, 0))
  out : OutUp w.heap.size C s w wr U
  ne : s.ownBlock ≠ some g
  nu : ∀ j, j < C.length → (U j).ownBlock ≠ some g
  ge : w.heap.size ≤ g
theorem FoUp.lt {L : Int} {C : List (List Int)} {g : Nat} {s : Value} {w wr : World} {U : Nat → Value} (h : FoUp L C g s w wr U) : g < wr.heap.size := (Array.getElem?_eq_some_iff.1 h.box).1
theorem FoUp.keep {L : Int} {C : List (List Int)} {g : Nat} {s : Value} {w wr w2 : World} {U : Nat → Value} (h : FoUp L C g s w wr U) (b : Below wr.heap.size wr w2) : FoUp L C g s w w2 U :=
  ⟨by rw [b.block g h.lt]; exact h.box, h.out.keep b, h.ne, h.nu, h.ge⟩
theorem FoUp.cells {L : Int} {C : List (List Int)} {g : Nat} {s : Value} {w wr : World} {U : Nat → Value} (h : FoUp L C g s w wr U) :
    wr.cell? ⟨g, 0, none⟩ = some (.int .i64 L) ∧ wr.cell? ⟨g, 1, none⟩ = some s ∧ wr.frozen? ⟨g, 1, none⟩ = false :=
  ⟨by rw [Lib.cell_of_heap h.box]; rfl, by rw [Lib.cell_of_heap h.box]; rfl, Lib.frozen_of_heap h.box 1⟩
theorem FoUp.start (L : Int) {w w1 : World} (hb : Below w.heap.size w w1) : FoUp L [] w1.heap.size (.slice none 0 0) w (w1.alloc (.cells #[.int .i64 L, .slice none 0 0] 29)) (fun _ => vnil) :=
  ⟨heap_alloc_new w1 _, ⟨World.ownsRow_nil _ _ _ _, fun j h => by simp at h, fun j h => by simp at h, fun i j h => by simp at h, hb.alloc hb.size _⟩, by simp [Value.ownBlock], fun j h => by simp at h, hb.size⟩
/-- One more clause: d was made behind wr, then the row of clauses has grown, and lies in its field. -/
theorem FoUp.next {L : Int} {C : List (List Int)} {Z : List Int} {g gg cap : Nat} {s d : Value} {w wr w0 w1 : World} {U : Nat → Value} (h : FoUp L C g s w wr U) (h0 : Below wr.heap.size wr w0)
    (hd : Grows (Value.int .i64) 2 wr.heap.size d Z w0)
    (hown : w1.ownsRow w.heap.size 25 1 (.slice (some ⟨gg, 0, none⟩) (C.length + 1) cap) (C.length + 1) ((List.range C.length).map U ++ [d])) (hgr : w0.grownBy w1 s.ownBlock) (hat : s.ownBlock = some gg ∨ gg = w0.heap.size) (q : Nat) :
    FoUp L (C ++ [Z]) g (.slice (some ⟨gg, 0, none⟩) (C.length + 1) cap) w ((w1.drewN q).setCell ⟨g, 1, none⟩ (.slice (some ⟨gg, 0, none⟩) (C.length + 1) cap)) (fun j => if j = C.length then d else U j) := by
  have hk := h.keep h0
  have hws := h.out.below.size
  have hfar : ∀ b, d.ownBlock = some b → wr.heap.size ≤ b := fun b e => (World.ownsRow.lt hd b e).1
  have hst := hk.out.step (d := d) (Z := Z) (g := gg) (cap := cap) (w2 := w1) (Nat.le_refl _) (hd.lower hws)
    (fun b e => ⟨fun e2 => by have h1 := hfar b e; have h2 := (World.ownsRow.lt h.out.own b e2).2; omega, fun j hj e2 => by have h1 := hfar b e; have h2 := (World.ownsRow.lt (h.out.row j hj) b e2).2; omega⟩) hown hgr hat
  have hg1 : g < w1.heap.size := Nat.lt_of_lt_of_le hk.lt hgr.size
  have hb1 : w1.heap[g]? = some (.cells #[.int .i64 L, s] 29 (0, 0)) := by rw [hgr.block g hk.lt (fun e => h.ne e.symm)]; exact hk.box
  have hne : gg ≠ g := by
    rcases hat with e | e
    · intro q; exact h.ne (by rw [e, q])
    · have := hk.lt; omega
  have hnd : d.ownBlock ≠ some g := fun e => by have := hfar g e; have := h.lt; omega
  have hgw : (w1.drewN q).grownBy ((w1.drewN q).setCell ⟨g, 1, none⟩ (.slice (some ⟨gg, 0, none⟩) (C.length + 1) cap)) (some g) := grown_set _ _ _ _
  have hl : (C ++ [Z]).length = C.length + 1 := by simp
  have nub : ∀ j, j < C.length + 1 → (if j = C.length then d else U j).ownBlock ≠ some g := fun j hj => by
    by_cases e : j = C.length
    · rw [if_pos e]; exact hnd
    · rw [if_neg e]; exact h.nu j (by omega)
  refine ⟨?_, ⟨?_, fun j hj => ?_, hst.ne, hst.inj, ?_⟩, fun e => hne (by injection e), fun j hj => nub j (by rw [hl] at hj; exact hj), h.ge⟩
  · show ((w1.drewN q).setCell _ _).heap[g]? = _
    have h3 : (w1.drewN q).heap[g]? = some (.cells #[.int .i64 L, s] 29 (0, 0)) := hb1
    rw [World.setCell]
    simp only [Array.getElem?_modify, if_true, h3]
    rfl
  · exact World.ownsRow.kept (show (w1.drewN q).ownsRow _ _ _ _ _ _ from hst.own) hgw (Or.inr fun e => hne (by injection e))
  · refine World.ownsRow.kept (show (w1.drewN q).ownsRow _ _ _ _ _ _ from hst.row j hj) hgw ?_
    rw [hl] at hj
    exact Or.inr (nub j hj)
  · exact (below_drewN hst.below q).setCell h.ge _
theorem FoUp.fmd {L : Int} {C : List (List Int)} {g : Nat} {s : Value} {w wr : World} {U : Nat → Value} (h : FoUp L C g s w wr U) : FmD w.heap.size wr.heap.size wr (.agg #[.int .i64 L, s]) ⟨L, C⟩ := by
  refine ⟨s, rfl, ?_⟩
  show LD _ _ wr s C
  by_cases h0 : C.length = 0
  · have hC : C = [] := List.eq_nil_of_length_eq_zero h0
    rcases h.out.own.2 with ⟨e, _⟩ | ⟨g2, cap, cur, e, _⟩
    · rw [e, hC]; exact LD.nil _ (Nat.le_refl _) _ _
    · rw [e, h0, hC]; exact LD.nil _ (Nat.le_refl _) _ _
  · exact h.out.ld (by omega)
theorem FoUp.slice {L : Int} {C : List (List Int)} {g : Nat} {s : Value} {w wr : World} {U : Nat → Value} (h : FoUp L C g s w wr U) : ∃ ao cap, s = .slice ao C.length cap := by
  rcases h.out.own.2 with ⟨e, h0⟩ | ⟨g2, cap, cur, e, _⟩
  · exact ⟨none, 0, by rw [e, h0]⟩
  · exact ⟨_, _, e⟩
/-- The field stands while the row of clauses grows. -/
theorem FoUp.kept {L : Int} {C : List (List Int)} {g : Nat} {s : Value} {w wr w0 w1 : World} {U : Nat → Value} (h : FoUp L C g s w wr U) (h0 : Below wr.heap.size wr w0) (hgr : w0.grownBy w1 s.ownBlock) :
    w1.cell? ⟨g, 1, none⟩ = some s ∧ w1.frozen? ⟨g, 1, none⟩ = false := by
  have hk := h.keep h0
  have hb : w1.heap[g]? = some (.cells #[.int .i64 L, s] 29 (0, 0)) := by rw [hgr.block g hk.lt (fun e => h.ne e.symm)]; exact hk.box
  exact ⟨by rw [Lib.cell_of_heap hb]; rfl, Lib.frozen_of_heap hb 1⟩
/-- The form as a result: what was written behind it lies ahead of its lists. -/
theorem FoUp.res {L : Int} {C : List (List Int)} {g lo hi B : Nat} {s : Value} {w wr X : World} {U : Nat → Value} (h : FoUp L C g s w wr U) (ht : Turned lo hi wr X) (hs : hi ≤ w.heap.size) (hB : B ≤ w.heap.size) :
    FmD B X.heap.size X (.agg #[.int .i64 L, s]) ⟨L, C⟩ := by
  obtain ⟨s', e, hl⟩ := h.fmd
  exact ⟨s', e, LD.wide (hl.kept' ht (Or.inr hs)) hB ht.size (Nat.le_refl _)⟩
theorem saysFB_no {w X : World} (hb : Below w.heap.size w X) : SaysFB ⟨0, []⟩ false w (.returned (.tuple #[.agg #[.int .i64 0, .slice none 0 0], .bool false])) X := ⟨_, rfl, ⟨_, rfl, LD.nil _ (Nat.le_refl _) _ _⟩, hb⟩
end Go.Proofs.Ytnakpfbeeekmiaa
