/- The best children of all indices of a tree: the memory. -/
import Derived.Test.YtmkbjkjgemipcaaBt0
import Derived.Test.YtmkbjkjgemipcaaChP
import Derived.Test.YtmkbjkjgemipcaaLkS
import Derived.Test.YtmkbjkjgemipcaaClI
namespace Go.Proofs.Ytmkbjkjgemipcaa
open Go.RowKit Go.ChangeShapes Go.WideShapes

theorem SI.same {lo hi : Nat} {w w' : World} {v : Value} {Z : List Int} (h : SI (Value.int .i64) (0 : Int) lo hi w v Z) (hs : w.heap.size ≤ w'.heap.size) (hb : ∀ b, lo ≤ b → b < hi → w'.heap[b]? = w.heap[b]?) : SI (Value.int .i64) (0 : Int) lo hi w' v Z := by
  obtain ⟨h0, h | ⟨b, off, cap, h1, h2, h3, h4, h5, h6⟩⟩ := h
  · exact ⟨Nat.le_trans h0 hs, Or.inl h⟩
  · have hk := hb b h3 h4
    exact ⟨Nat.le_trans h0 hs, Or.inr ⟨b, off, cap, h1, h2, h3, h4, fun i => by rw [World.frozen?_of_block (w := w) (a := ⟨b, i, none⟩) hk]; exact h5 i, fun i hi => by rw [World.cell?_of_block (w := w) (a := ⟨b, off + i, none⟩) hk]; exact h6 i hi⟩⟩
structure KidR (X : World) (s1 h2 B E : Nat) (P : List Int) : Prop where
  kid : ∀ a, a < P.length → ∃ u, X.cell? ⟨B, a, none⟩ = some u ∧ SI (Value.int .i64) (0 : Int) s1 h2 X u (chL P a)
  ev : ∀ a, a < P.length → X.cell? ⟨E, a, none⟩ = some (.bool (evB P a))
  b1 : s1 ≤ B
  b2 : B < h2
  e1 : s1 ≤ E
  e2 : E < h2
  hx : h2 ≤ X.heap.size
theorem KidR.kept {X X' : World} {s1 h2 B E : Nat} {P : List Int} (h : KidR X s1 h2 B E P) (hs : X.heap.size ≤ X'.heap.size) (hb : ∀ b, s1 ≤ b → b < h2 → X'.heap[b]? = X.heap[b]?) : KidR X' s1 h2 B E P := by
  refine ⟨fun a ha => ?_, fun a ha => ?_, h.b1, h.b2, h.e1, h.e2, Nat.le_trans h.hx hs⟩
  · obtain ⟨u, k1, k2⟩ := h.kid a ha
    exact ⟨u, by rw [World.cell?_of_block (w := X) (a := ⟨B, a, none⟩) (hb B h.b1 h.b2)]; exact k1, k2.same hs hb⟩
  · rw [World.cell?_of_block (w := X) (a := ⟨E, a, none⟩) (hb E h.e1 h.e2)]; exact h.ev a ha
structure BsAt (w : World) (s1 h2 B E p2 p5 Wb wo wc C : Nat) (P : List Int) (fw fb : Nat → Int) (wr : World) : Prop where
  below : Below w.heap.size w wr
  kr : KidR wr s1 h2 B E P
  p5c : wr.cell? ⟨p5, 0, none⟩ = some (.slice (some ⟨E, 0, none⟩) P.length P.length)
  p2c : wr.cell? ⟨p2, 0, none⟩ = some (.slice (some ⟨Wb, wo, none⟩) P.length wc)
  p2f : wr.frozen? ⟨p2, 0, none⟩ = false
  ws : ∀ a, a < P.length → wr.cell? ⟨Wb, wo + a, none⟩ = some (.int .i64 (fw a))
  wf : ∀ i, wr.frozen? ⟨Wb, i, none⟩ = false
  bs : ∀ a, a < P.length → wr.cell? ⟨C, a, none⟩ = some (.int .i64 (fb a))
  bf : ∀ i, wr.frozen? ⟨C, i, none⟩ = false
  ne : Wb ≠ C
  o1 : w.heap.size ≤ Wb
  o2 : w.heap.size ≤ C
  o3 : h2 ≤ Wb
  o4 : h2 ≤ C
  q1 : p2 ≠ Wb
  q2 : p2 ≠ C
  q3 : p5 ≠ Wb
  q4 : p5 ≠ C
  l1 : Wb < wr.heap.size
  l2 : C < wr.heap.size
theorem BsAt.keep {w wr w' : World} {s1 h2 B E p2 p5 Wb wo wc C : Nat} {P : List Int} {fw fb : Nat → Int} (h : BsAt w s1 h2 B E p2 p5 Wb wo wc C P fw fb wr) (b : Below wr.heap.size wr w') : BsAt w s1 h2 B E p2 p5 Wb wo wc C P fw fb w' := by
  have hs := b.size
  have hx := h.kr.hx
  exact ⟨h.below.trans (b.mono h.below.size), h.kr.kept hs (fun q _ hq => b.block q (by omega)), keep_cell h.p5c b (cell_block h.p5c), keep_cell h.p2c b (cell_block h.p2c), by rw [b.frozen (p := ⟨p2, 0, none⟩) (cell_block h.p2c)]; exact h.p2f,
    fun a ha => keep_cell (h.ws a ha) b h.l1, fun i => by rw [b.frozen (p := ⟨Wb, i, none⟩) h.l1]; exact h.wf i, fun a ha => keep_cell (h.bs a ha) b h.l2, fun i => by rw [b.frozen (p := ⟨C, i, none⟩) h.l2]; exact h.bf i,
    h.ne, h.o1, h.o2, h.o3, h.o4, h.q1, h.q2, h.q3, h.q4, Nat.lt_of_lt_of_le h.l1 hs, Nat.lt_of_lt_of_le h.l2 hs⟩
theorem BsAt.to {w wr : World} {s1 h2 B E p2 p5 Wb wo wc C : Nat} {P : List Int} {fw fb fw' fb' : Nat → Int} (h : BsAt w s1 h2 B E p2 p5 Wb wo wc C P fw fb wr) (e1 : ∀ a, a < P.length → fw a = fw' a) (e2 : ∀ a, a < P.length → fb a = fb' a) : BsAt w s1 h2 B E p2 p5 Wb wo wc C P fw' fb' wr :=
  ⟨h.below, h.kr, h.p5c, h.p2c, h.p2f, fun a ha => by rw [← e1 a ha]; exact h.ws a ha, h.wf, fun a ha => by rw [← e2 a ha]; exact h.bs a ha, h.bf, h.ne, h.o1, h.o2, h.o3, h.o4, h.q1, h.q2, h.q3, h.q4, h.l1, h.l2⟩
theorem BsAt.best {w wr : World} {s1 h2 B E p2 p5 Wb wo wc C i : Nat} {P : List Int} {fw fb : Nat → Int} (h : BsAt w s1 h2 B E p2 p5 Wb wo wc C P fw fb wr) (hi : i < P.length) (x : Int) : BsAt w s1 h2 B E p2 p5 Wb wo wc C P fw (fun a => if a = i then x else fb a) (wr.setCell ⟨C, i, none⟩ (.int .i64 x)) := by
  have hb := h.kr
  have h4 := h.o4
  have far : ∀ {q o : Nat}, q ≠ C → (wr.setCell ⟨C, i, none⟩ (.int .i64 x)).cell? ⟨q, o, none⟩ = wr.cell? ⟨q, o, none⟩ := fun hq => World.cell?_setCell_other _ _ _ _ (by intro e; injection e with e1 _ _; exact hq e1.symm)
  refine ⟨h.below.setCell h.o2 _, hb.kept (by simp) (fun q _ hq => Below.heap_setCell _ _ _ _ (by show q ≠ C; omega)), by rw [far h.q4]; exact h.p5c, by rw [far h.q2]; exact h.p2c, by rw [World.frozen?_setCell]; exact h.p2f,
    fun a ha => by rw [far h.ne]; exact h.ws a ha, fun q => by rw [World.frozen?_setCell]; exact h.wf q, fun a ha => ?_, fun q => by rw [World.frozen?_setCell]; exact h.bf q,
    h.ne, h.o1, h.o2, h.o3, h.o4, h.q1, h.q2, h.q3, h.q4, by simpa using h.l1, by simpa using h.l2⟩
  by_cases e : a = i
  · subst e
    rw [if_pos rfl]
    exact World.cell?_setCell_same _ _ _ (h.bs a ha)
  · rw [if_neg e, World.cell?_setCell_other _ _ _ _ (by intro q; injection q with _ q2 _; exact e q2.symm)]
    exact h.bs a ha
theorem BsAt.worth {w wr : World} {s1 h2 B E p2 p5 Wb wo wc C i : Nat} {P : List Int} {fw fb : Nat → Int} (h : BsAt w s1 h2 B E p2 p5 Wb wo wc C P fw fb wr) (hi : i < P.length) (x : Int) : BsAt w s1 h2 B E p2 p5 Wb wo wc C P (fun a => if a = i then x else fw a) fb (wr.setCell ⟨Wb, wo + i, none⟩ (.int .i64 x)) := by
  have hb := h.kr
  have h4 := h.o3
  have far : ∀ {q o : Nat}, q ≠ Wb → (wr.setCell ⟨Wb, wo + i, none⟩ (.int .i64 x)).cell? ⟨q, o, none⟩ = wr.cell? ⟨q, o, none⟩ := fun hq => World.cell?_setCell_other _ _ _ _ (by intro e; injection e with e1 _ _; exact hq e1.symm)
  refine ⟨h.below.setCell h.o1 _, hb.kept (by simp) (fun q _ hq => Below.heap_setCell _ _ _ _ (by show q ≠ Wb; omega)), by rw [far h.q3]; exact h.p5c, by rw [far h.q1]; exact h.p2c, by rw [World.frozen?_setCell]; exact h.p2f,
    fun a ha => ?_, fun q => by rw [World.frozen?_setCell]; exact h.wf q, fun a ha => by rw [far h.ne.symm]; exact h.bs a ha, fun q => by rw [World.frozen?_setCell]; exact h.bf q,
    h.ne, h.o1, h.o2, h.o3, h.o4, h.q1, h.q2, h.q3, h.q4, by simpa using h.l1, by simpa using h.l2⟩
  by_cases e : a = i
  · subst e
    rw [if_pos rfl]
    exact World.cell?_setCell_same _ _ _ (h.ws a ha)
  · rw [if_neg e, World.cell?_setCell_other _ _ _ _ (by intro q; injection q with _ q2 _; omega)]
    exact h.ws a ha
/-- A list that a call has made, as far as it is there. -/
theorem made_num {lo hi : Nat} {w : World} {v : Value} {Z : List Int} (h : SI (Value.int .i64) (0 : Int) lo hi w v Z) (h0 : 0 < Z.length) : ∃ b off cap, v = .slice (some ⟨b, off, none⟩) Z.length (Z.length + cap) ∧ lo ≤ b ∧ b < hi ∧ (∀ i, w.frozen? ⟨b, i, none⟩ = false) ∧ ∀ i, i < Z.length → w.cell? ⟨b, off + i, none⟩ = some (.int .i64 (Z.getD i 0)) := by
  obtain ⟨-, hz | ⟨b, off, cap, e, -, k1, k2, k3, k4⟩⟩ := h
  · rw [hz.1] at h0; simp at h0
  · exact ⟨b, off, cap, e, k1, k2, k3, k4⟩
end Go.Proofs.Ytmkbjkjgemipcaa
