/- A row and a form that grow beside each other in blocks of the call's own. -/
import Derived.Test.YtleaaigjnniglaaCr1
import Derived.Test.YtleaaigjnniglaaVf
import Derived.Lib.Builder
namespace Go.Proofs.Ytleaaigjnniglaa
open Go.RowKit Go.ChangeShapes Go.WideShapes

/-- The row holds Zl; the form in the box behind it holds the clauses of C that Zm names. -/
structure CrAt (L : Nat) (C : List (List Int)) (W : World) (Zl Zm : List Int) (lv : Value) (vs : List Value) (wr : World) : Prop where
  below : Below W.heap.size W wr
  left : Grows (Value.int .i64) 2 W.heap.size lv Zl wr
  put : Lib.BuilderAt 31 22 W.heap.size (W.heap.size + 1) (.int .i64 (L : Int)) vs wr
  len : vs.length = Zm.length
  rows : ∀ j, j < Zm.length → IL W (vs.getD j undef) (C.getD (Zm.getD j 0).toNat [])
theorem CrAt.drew {L : Nat} {C : List (List Int)} {W : World} {Zl Zm : List Int} {lv : Value} {vs : List Value} {wr : World} (h : CrAt L C W Zl Zm lv vs wr) (n : Nat) : CrAt L C W Zl Zm lv vs (wr.drewN n) :=
  ⟨below_drewN h.below n, h.left.drewN n, h.put, h.len, h.rows⟩
theorem CrAt.start (L : Nat) (C : List (List Int)) (W : World) : CrAt L C W [] [] (.slice (some ⟨W.heap.size, 0, none⟩) 0 0) [] ((W.alloc (.cells #[] 2)).alloc (.cells #[.int .i64 (L : Int), .slice none 0 0] 31)) :=
  ⟨(below_alloc W _).alloc (by simp) _, (Grows.empty (Value.int .i64) 2 W.heap.size W (Nat.le_refl _)).alloc _,
   ⟨by omega, .slice none 0 0, by
      have h := heap_alloc_new (W.alloc (.cells #[] 2)) (.cells #[.int .i64 (L : Int), .slice none 0 0] 31)
      rw [show (W.alloc (.cells #[] 2)).heap.size = W.heap.size + 1 by simp] at h
      exact h, World.ownsRow_nil _ _ _ _, by simp [Value.ownBlock]⟩, rfl, fun j hj => by simp at hj⟩
theorem CrAt.cells {L : Nat} {C : List (List Int)} {W : World} {Zl Zm : List Int} {lv : Value} {vs : List Value} {wr : World} (h : CrAt L C W Zl Zm lv vs wr) :
    ∃ rv, wr.cell? ⟨W.heap.size + 1, 0, none⟩ = some (.int .i64 (L : Int)) ∧ wr.cell? ⟨W.heap.size + 1, 1, none⟩ = some rv ∧ wr.frozen? ⟨W.heap.size + 1, 1, none⟩ = false ∧ wr.ownsRow W.heap.size 22 1 rv vs.length vs ∧ rv.ownBlock ≠ some (W.heap.size + 1) ∧ W.heap.size + 1 < wr.heap.size := by
  obtain ⟨h1, v, hb, hown, hne⟩ := h.put
  exact ⟨v, by rw [Lib.cell_of_heap hb]; rfl, by rw [Lib.cell_of_heap hb]; rfl, Lib.frozen_of_heap hb 1, hown, hne, h.put.lt⟩
/-- The row takes one more. -/
theorem CrAt.more {L : Nat} {C : List (List Int)} {W : World} {Zl Zm : List Int} {lv lv' : Value} {vs : List Value} {wr w' : World} {x : Int} {o : Obj} (h : CrAt L C W Zl Zm lv vs wr)
    (hown : w'.ownsRow W.heap.size 2 1 lv' (Zl.length + 1) (Zl.map (Value.int .i64) ++ [.int .i64 x])) (hg : (wr.alloc o).grownBy w' lv.ownBlock) : CrAt L C W (Zl ++ [x]) Zm lv' vs w' := by
  obtain ⟨h1, v, hb, hw, hne⟩ := h.put
  have hs := h.below.size
  have hlt := h.put.lt
  have hb2 : (wr.alloc o).heap[W.heap.size + 1]? = some (.cells #[.int .i64 (L : Int), v] 31 (0, 0)) := by rw [Below.heap_alloc wr o _ hlt]; exact hb
  have hl2 : (wr.alloc o).ownsRow W.heap.size 2 1 lv Zl.length (Zl.map (Value.int .i64)) := h.left.alloc o
  have n1 : lv.ownBlock ≠ some (W.heap.size + 1) := Lib.ownBlock_ne hl2 hb2 (by decide)
  have hb3 : w'.heap[W.heap.size + 1]? = some (.cells #[.int .i64 (L : Int), v] 31 (0, 0)) := by rw [hg.block _ (by simp; omega) (fun e => n1 e.symm)]; exact hb2
  have n2 : v.ownBlock = none ∨ v.ownBlock ≠ lv.ownBlock := by
    cases hv : v.ownBlock with
    | none => exact Or.inl rfl
    | some g =>
      refine Or.inr fun e => ?_
      rcases (hw.alloc o).2 with ⟨rfl, _⟩ | ⟨g2, cap, cur, rfl, _, hgg, _⟩
      · simp [Value.ownBlock] at hv
      · exact Lib.ownBlock_ne hl2 hgg (by decide) (by rw [← e, ← hv]; rfl)
  exact ⟨(h.below.alloc hs o).grown hg (by simp; omega) (fun g e => h.left.block g e), Grows.more (news := [x]) rfl hown, ⟨h1, v, hb3, (hw.alloc o).kept hg n2, hne⟩, h.len, h.rows⟩
/-- The form takes one more. -/
theorem CrAt.next {L : Nat} {C : List (List Int)} {W : World} {Zl Zm : List Int} {lv u rv rv' : Value} {vs : List Value} {wr w0 w' : World} {x : Int} (h : CrAt L C W Zl Zm lv vs wr)
    (hc : wr.cell? ⟨W.heap.size + 1, 1, none⟩ = some rv) (hu : IL W u (C.getD x.toNat []))
    (h0 : Below wr.heap.size wr w0)
    (hown : w'.ownsRow W.heap.size 22 1 rv' (vs.length + 1) (vs ++ [u])) (hg : w0.grownBy w' rv.ownBlock) (q : Nat) : CrAt L C W Zl (Zm ++ [x]) lv (vs ++ [u]) ((w'.drewN q).setCell ⟨W.heap.size + 1, 1, none⟩ rv') := by
  obtain ⟨h1, v, hb, hw, hne⟩ := h.put
  have hs := h.below.size
  have hlt := h.put.lt
  have hs0 := h0.size
  obtain rfl : v = rv := by
    rw [Lib.cell_of_heap hb] at hc
    simpa using hc
  have hb2 : w0.heap[W.heap.size + 1]? = some (.cells #[.int .i64 (L : Int), v] 31 (0, 0)) := by rw [h0.block _ hlt]; exact hb
  have hb3 : w'.heap[W.heap.size + 1]? = some (.cells #[.int .i64 (L : Int), v] 31 (0, 0)) := by rw [hg.block _ (by omega) (fun e => hne e.symm)]; exact hb2
  have hl0 : Grows (Value.int .i64) 2 W.heap.size lv Zl w0 := h.left.below h0 (Nat.le_refl _)
  have n2 : lv.ownBlock = none ∨ lv.ownBlock ≠ v.ownBlock := by
    cases hv : lv.ownBlock with
    | none => exact Or.inl rfl
    | some g =>
      refine Or.inr fun e => ?_
      rcases hw.2 with ⟨rfl, _⟩ | ⟨g2, cap, cur, rfl, _, hgg, _⟩
      · simp [Value.ownBlock] at e
      · exact Lib.ownBlock_ne h.left hgg (by decide) (by rw [hv, e]; rfl)
  have hl1 : w'.ownsRow W.heap.size 2 1 lv Zl.length (Zl.map (Value.int .i64)) := World.ownsRow.kept hl0 hg n2
  have n3 : lv.ownBlock ≠ some (W.heap.size + 1) := Lib.ownBlock_ne hl1 hb3 (by decide)
  have hp : Lib.BuilderAt 31 22 W.heap.size (W.heap.size + 1) (.int .i64 (L : Int)) (vs ++ [u]) ((w'.drewN q).setCell ⟨W.heap.size + 1, 1, none⟩ rv') :=
    Lib.BuilderAt.put (w := w'.drewN q) h1 hb3 (by rw [List.length_append]; exact hown) (by decide)
  refine ⟨(below_drewN ((h.below.trans (h0.mono hs)).grown hg (by omega) (fun g e => (hw.lt g e).1)) q).setCell (by simp) _, ownsRow_setCell_other (w := w'.drewN q) hl1 (by simpa using n3) _, hp, by rw [List.length_append, List.length_append, h.len]; rfl, fun j hj => ?_⟩
  rw [List.length_append] at hj
  by_cases e : j = Zm.length
  · subst e
    have e1 : (vs ++ [u]).getD Zm.length undef = u := by rw [← h.len]; simp [List.getD]
    have e2 : (Zm ++ [x]).getD Zm.length 0 = x := by simp [List.getD]
    rw [e1, e2]
    exact hu
  · have hj2 : j < Zm.length := by simp at hj; omega
    have e1 : (vs ++ [u]).getD j undef = vs.getD j undef := by simp [List.getD, List.getElem?_append_left (show j < vs.length by rw [h.len]; exact hj2)]
    have e2 : (Zm ++ [x]).getD j 0 = Zm.getD j 0 := by simp [List.getD, List.getElem?_append_left hj2]
    rw [e1, e2]
    exact h.rows j hj2
theorem CrAt.kept {L : Nat} {C : List (List Int)} {W : World} {Zl Zm : List Int} {lv rv : Value} {vs : List Value} {wr w0 w' : World} (h : CrAt L C W Zl Zm lv vs wr)
    (hc : wr.cell? ⟨W.heap.size + 1, 1, none⟩ = some rv) (h0 : Below wr.heap.size wr w0) (hg : w0.grownBy w' rv.ownBlock) :
    w'.cell? ⟨W.heap.size + 1, 1, none⟩ = some rv ∧ w'.frozen? ⟨W.heap.size + 1, 1, none⟩ = false := by
  obtain ⟨h1, v, hb, hw, hne⟩ := h.put
  have hlt := h.put.lt
  have hs0 := h0.size
  obtain rfl : v = rv := by
    rw [Lib.cell_of_heap hb] at hc
    simpa using hc
  have hb2 : w0.heap[W.heap.size + 1]? = some (.cells #[.int .i64 (L : Int), v] 31 (0, 0)) := by rw [h0.block _ hlt]; exact hb
  have hb3 : w'.heap[W.heap.size + 1]? = some (.cells #[.int .i64 (L : Int), v] 31 (0, 0)) := by rw [hg.block _ (by omega) (fun e => hne e.symm)]; exact hb2
  exact ⟨by rw [Lib.cell_of_heap hb3]; rfl, Lib.frozen_of_heap hb3 1⟩
theorem CrAt.fm {L : Nat} {C : List (List Int)} {W : World} {Zl Zm : List Int} {lv : Value} {vs : List Value} {wr : World} (h : CrAt L C W Zl Zm lv vs wr) : FmAt wr (W.heap.size + 1) ⟨(L : Int), partK C Zm⟩ := by
  obtain ⟨rv, c0, c1, -, hown, -⟩ := h.cells
  have hG : Grows (fun u : Value => u) 22 W.heap.size rv vs wr := by unfold Grows; rw [List.map_id']; exact hown
  have hpl : (partK C Zm).length = vs.length := by unfold partK; rw [List.length_map, h.len]
  refine ⟨rv, ⟨c0, c1⟩, ?_⟩
  rcases hG.si (d := undef) with ⟨_, ⟨he, ao, cap, rfl⟩ | ⟨b, off, cap, rfl, h2, h3, h4, h5, h6⟩⟩
  · refine Or.inl ⟨List.eq_nil_of_length_eq_zero (by rw [hpl, he]; rfl), ao, cap, rfl⟩
  · refine Or.inr ⟨b, off, cap, fun i => vs.getD i undef, by rw [hpl], by rw [hpl]; exact h2, h4, fun i hi => ⟨h6 i (by rw [← hpl]; exact hi), ?_⟩⟩
    rw [hpl, h.len] at hi
    have h7 := (h.rows i hi).below h.below (Nat.le_refl _)
    have e : (partK C Zm).getD i [] = C.getD (Zm.getD i 0).toNat [] := by unfold partK; simp [List.getD, hi]
    show IL wr _ ((partK C Zm).getD i [])
    rw [e]
    exact h7
end Go.Proofs.Ytleaaigjnniglaa
