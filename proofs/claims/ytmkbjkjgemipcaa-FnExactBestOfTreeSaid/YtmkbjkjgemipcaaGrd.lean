/- Rows of integers in a row, which grow beside each other. -/
import Derived.Test.YtmkbjkjgemipcaaGrw
import Derived.Test.YtmkbjkjgemipcaaLs
import Derived.Maps.AppendAt
namespace Go.Proofs.Ytmkbjkjgemipcaa
open Go.RowKit Go.ChangeShapes Go.WideShapes

structure GridU (w : World) (B lo n : Nat) (U : Nat → Value) (L : Nat → List Int) (wr : World) : Prop where
  below : Below w.heap.size w wr
  ge : w.heap.size ≤ B
  blo : B < lo
  lt : lo ≤ wr.heap.size
  free : ∀ i, wr.frozen? ⟨B, i, none⟩ = false
  cell : ∀ k, k < n → wr.cell? ⟨B, k, none⟩ = some (U k)
  row : ∀ k, k < n → Grows (Value.int .i64) 2 lo (U k) (L k) wr
  apart : ∀ j k, j < n → k < n → j ≠ k → ∀ g, (U j).ownBlock = some g → (U k).ownBlock ≠ some g
theorem GridU.drew {w wr : World} {B lo n : Nat} {U : Nat → Value} {L : Nat → List Int} (h : GridU w B lo n U L wr) (m : Nat) : GridU w B lo n U L (wr.drewN m) :=
  ⟨below_drewN h.below m, h.ge, h.blo, h.lt, h.free, h.cell, fun k hk => (h.row k hk).drewN m, h.apart⟩
theorem GridU.to {w wr : World} {B lo n : Nat} {U : Nat → Value} {L L' : Nat → List Int} (h : GridU w B lo n U L wr) (e : ∀ k, k < n → L k = L' k) : GridU w B lo n U L' wr :=
  ⟨h.below, h.ge, h.blo, h.lt, h.free, h.cell, fun k hk => by rw [← e k hk]; exact h.row k hk, h.apart⟩
/-- What leaves its blocks as they are keeps it. -/
theorem GridU.kept {w wr w' : World} {B lo n : Nat} {U : Nat → Value} {L : Nat → List Int} (h : GridU w B lo n U L wr) (hb : Below w.heap.size w w') (hs : wr.heap.size ≤ w'.heap.size) (h0 : w'.heap[B]? = wr.heap[B]?) (h1 : ∀ b, lo ≤ b → b < wr.heap.size → w'.heap[b]? = wr.heap[b]?) : GridU w B lo n U L w' := by
  refine ⟨hb, h.ge, h.blo, Nat.le_trans h.lt hs, fun i => ?_, fun k hk => ?_, fun k hk => ?_, h.apart⟩
  · rw [World.frozen?_of_block (w := wr) (a := ⟨B, i, none⟩) h0]; exact h.free i
  · rw [World.cell?_of_block (w := wr) (a := ⟨B, k, none⟩) h0]; exact h.cell k hk
  · obtain ⟨g1, g2⟩ := h.row k hk
    refine ⟨g1, ?_⟩
    rcases g2 with g2 | ⟨g, cap, cur, e, hB, hg, hr⟩
    · exact Or.inl g2
    · have := (Array.getElem?_eq_some_iff.1 hg).1
      exact Or.inr ⟨g, cap, cur, e, hB, (h1 g hB this).trans hg, hr⟩
theorem GridU.more {w wr w' : World} {B lo n p : Nat} {U : Nat → Value} {L : Nat → List Int} {v' : Value} {x : Int} {o : Obj} (h : GridU w B lo n U L wr) (hp : p < n)
    (hown : w'.ownsRow lo 2 1 v' ((L p).length + 1) ((L p).map (Value.int .i64) ++ [.int .i64 x])) (hg : (wr.alloc o).grownBy w' (U p).ownBlock)
    (hat : v'.ownBlock = (U p).ownBlock ∨ v'.ownBlock = some (wr.alloc o).heap.size) :
    GridU w B lo n (fun k => if k = p then v' else U k) (fun k => if k = p then L p ++ [x] else L k) (w'.setCell ⟨B, p, none⟩ v') := by
  have hs := h.below.size
  have hb1 : Below w.heap.size w w' := (h.below.alloc hs o).grown hg (by simp; omega) (fun g e => by have := (h.row p hp).block g e; have := h.ge; have := h.blo; omega)
  have hlo : Below lo wr w' := (Below.refl lo wr |>.alloc h.lt o).grown hg (by have := h.lt; simp; omega) (fun g e => (h.row p hp).block g e)
  have hz : wr.heap.size ≤ w'.heap.size := hlo.size
  refine ⟨hb1.setCell h.ge _, h.ge, h.blo, by have := h.lt; simp; omega, fun i => ?_, fun k hk => ?_, fun k hk => ?_, fun j k hj hk hjk g e1 e2 => ?_⟩
  · rw [World.frozen?_setCell, hlo.frozen (p := ⟨B, i, none⟩) h.blo]; exact h.free i
  · by_cases e : k = p
    · subst e
      rw [if_pos rfl]
      exact World.cell?_setCell_same _ _ _ (by rw [hlo.cell (p := ⟨B, k, none⟩) h.blo]; exact h.cell k hk)
    · rw [if_neg e, World.cell?_setCell_other _ _ _ _ (by intro q; injection q with _ q2 _; omega), hlo.cell (p := ⟨B, k, none⟩) h.blo]
      exact h.cell k hk
  · have hne : ∀ {v : Value} {Z : List Int}, Grows (Value.int .i64) 2 lo v Z w' → Grows (Value.int .i64) 2 lo v Z (w'.setCell ⟨B, p, none⟩ v') := fun {v Z} q => by
      obtain ⟨g1, g2⟩ := q
      refine ⟨g1, ?_⟩
      rcases g2 with g2 | ⟨g, cap, cur, e, hB, hg, hr⟩
      · exact Or.inl g2
      · refine Or.inr ⟨g, cap, cur, e, hB, ?_, hr⟩
        rw [Below.heap_setCell _ _ _ _ (by have := h.blo; show g ≠ B; omega)]
        exact hg
    by_cases e : k = p
    · subst e
      rw [if_pos rfl, if_pos rfl]
      exact hne (Grows.more (news := [x]) rfl hown)
    · rw [if_neg e, if_neg e]
      refine hne (World.ownsRow.kept ((h.row k hk).alloc o) hg ?_)
      cases hv : (U k).ownBlock with
      | none => exact Or.inl rfl
      | some g => exact Or.inr fun e3 => h.apart p k hp hk (fun q => e q.symm) g e3.symm hv
  · have old : ∀ q, q < n → q ≠ p → ∀ g, v'.ownBlock = some g → (U q).ownBlock ≠ some g := fun q hq hqp g e3 e4 => by
      rcases hat with e5 | e5
      · exact h.apart p q hp hq (fun z => hqp z.symm) g (by rw [← e5]; exact e3) e4
      · have h2 := (World.ownsRow.lt (h.row q hq) g e4).2
        rw [e5] at e3
        injection e3 with e3
        simp at e3
        omega
    by_cases ej : j = p
    · rw [if_pos ej] at e1
      rw [if_neg (by omega)] at e2
      exact old k hk (by omega) g e1 e2
    · rw [if_neg ej] at e1
      by_cases ek : k = p
      · rw [if_pos ek] at e2
        exact old j hj ej g e2 e1
      · rw [if_neg ek] at e2
        exact h.apart j k hj hk hjk g e1 e2
end Go.Proofs.Ytmkbjkjgemipcaa
