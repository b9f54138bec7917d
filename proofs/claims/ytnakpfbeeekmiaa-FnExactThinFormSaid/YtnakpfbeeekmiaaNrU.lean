/- Lists of lists that grow: a row of lists, and a list that lists are put behind. -/
import Derived.Test.YtnakpfbeeekmiaaLsS
import Derived.Test.YtnakpfbeeekmiaaOwn
import Derived.Test.YtnakpfbeeekmiaaGrw
namespace Go.Proofs.Ytnakpfbeeekmiaa
open Go.RowKit Go.ChangeShapes Go.WideShapes

theorem Grows.ib {B : Nat} {v : Value} {Z : List Int} {w : World} (h : Grows (Value.int .i64) 2 B v Z w) : IB (v.ownBlock.getD 0) w v Z ∧ (Z = [] ∨ ∃ b, v.ownBlock = some b ∧ B ≤ b ∧ b < w.heap.size) := by
  have s := h.si (d := (0 : Int))
  obtain ⟨g, hg, hr⟩ := II.ib s
  by_cases h0 : Z = []
  · subst h0
    rcases hg with ⟨_, ao, cap, rfl⟩ | ⟨off, cap, _, k2, _⟩
    · exact ⟨Or.inl ⟨rfl, ao, cap, rfl⟩, Or.inl rfl⟩
    · simp at k2
  · rcases hg with ⟨e, _⟩ | ⟨off, cap, e, k2, k3, k4, k5⟩
    · exact absurd e h0
    · subst e
      refine ⟨Or.inr ⟨off, cap, rfl, k2, k3, k4, k5⟩, Or.inr ⟨g, rfl, ?_⟩⟩
      rcases hr with e | e
      · exact absurd e h0
      · exact e
theorem Grows.lower {α : Type} {mk : α → Value} {E B C : Nat} {v : Value} {Z : List α} {w : World} (h : Grows mk E B v Z w) (hC : C ≤ B) : Grows mk E C v Z w := by
  refine ⟨h.1, ?_⟩
  rcases h.2 with hn | ⟨g, cap, cur, e, hb, rest⟩
  · exact .inl hn
  · exact .inr ⟨g, cap, cur, e, Nat.le_trans hC hb, rest⟩
theorem grown_set (w : World) (N k : Nat) (u : Value) : w.grownBy (w.setCell ⟨N, k, none⟩ u) (some N) :=
  ⟨rfl, rfl, rfl, by simp [World.setCell], fun i _ hne => Below.heap_setCell _ _ _ _ (by intro e; exact hne (by rw [e]))⟩
/-- Lists that grow, each of its own, in the cells of a row. -/
theorem ld_of {lo N : Nat} {C : List (List Int)} {w : World} {U : Nat → Value} (cap : Nat) (row : ∀ j, j < C.length → w.cell? ⟨N, j, none⟩ = some (U j)) (own : ∀ j, j < C.length → Grows (Value.int .i64) 2 lo (U j) (C.getD j []) w)
    (ne : ∀ j, j < C.length → (U j).ownBlock ≠ some N) (inj : ∀ i j, i < C.length → j < C.length → i ≠ j → ∀ b, (U i).ownBlock = some b → (U j).ownBlock ≠ some b) (free : ∀ i, w.frozen? ⟨N, i, none⟩ = false) (n1 : lo ≤ N) (n2 : N < w.heap.size) :
    LD lo w.heap.size w (.slice (some ⟨N, 0, none⟩) C.length (C.length + cap)) C := by
  by_cases h0 : C.length = 0
  · have : C = [] := List.eq_nil_of_length_eq_zero h0
    subst this
    exact LD.nil _ (Nat.le_refl _) _ _
  refine ⟨Nat.le_refl _, Or.inr ⟨N, 0, cap, U, fun j => (U j).ownBlock.getD 0, rfl, by omega, n1, n2, free, fun j hj => ?_, fun i j hij hj => ?_⟩⟩
  · obtain ⟨h1, h2⟩ := (own j hj).ib
    refine ⟨by rw [Nat.zero_add]; exact row j hj, h1, ?_⟩
    rcases h2 with e | ⟨b, e, e1, e2⟩
    · exact Or.inl e
    · have := ne j hj
      refine Or.inr ?_
      show lo ≤ (U j).ownBlock.getD 0 ∧ (U j).ownBlock.getD 0 < _ ∧ (U j).ownBlock.getD 0 ≠ N
      rw [e] at this ⊢
      exact ⟨e1, e2, fun q => this (by rw [← q]; rfl)⟩
  · rcases ((own i (by omega)).ib).2 with e | ⟨b, e, -⟩
    · exact Or.inl e
    · rcases ((own j hj).ib).2 with e' | ⟨b', e', -⟩
      · exact Or.inr (Or.inl e')
      · have := inj i j (by omega) hj (by omega) b e
        refine Or.inr (Or.inr ?_)
        show (U i).ownBlock.getD 0 ≠ (U j).ownBlock.getD 0
        rw [e, e']
        rw [e'] at this
        exact fun q => this (by rw [show b = b' from q])
/-- A row of lists that grow. -/
structure NarUp (lo N n : Nat) (R : Nat → List Int) (w wr : World) (U : Nat → Value) : Prop where
  row : ∀ j, j < n → wr.cell? ⟨N, j, none⟩ = some (U j)
  own : ∀ j, j < n → Grows (Value.int .i64) 2 lo (U j) (R j) wr
  ne : ∀ j, j < n → (U j).ownBlock ≠ some N
  inj : ∀ i j, i < n → j < n → i ≠ j → ∀ b, (U i).ownBlock = some b → (U j).ownBlock ≠ some b
  free : ∀ i, wr.frozen? ⟨N, i, none⟩ = false
  n1 : lo ≤ N
  n2 : N < wr.heap.size
  below : Below w.heap.size w wr
theorem NarUp.keep {lo N n : Nat} {R : Nat → List Int} {w wr w2 : World} {U : Nat → Value} (h : NarUp lo N n R w wr U) (b : Below wr.heap.size wr w2) : NarUp lo N n R w w2 U := by
  refine ⟨fun j hj => ?_, fun j hj => (h.own j hj).below b (Nat.le_refl _), h.ne, h.inj, fun i => ?_, h.n1, Nat.lt_of_lt_of_le h.n2 b.size, h.below.trans (b.mono h.below.size)⟩
  · rw [b.cell (p := ⟨N, j, none⟩) h.n2]; exact h.row j hj
  · rw [b.frozen (p := ⟨N, i, none⟩) h.n2]; exact h.free i
theorem NarUp.start {n lo e : Nat} {w wa w1 : World} (h : w1.ownsRow wa.heap.size e 1 (.slice (some ⟨wa.heap.size, 0, none⟩) n n) n (madeCells vnil.cells (n * 1)).toList) (hlo : lo ≤ wa.heap.size) (hb : Below w.heap.size w w1) (hl : wa.heap.size < w1.heap.size) : NarUp lo wa.heap.size n (fun _ => []) w w1 (fun _ => vnil) := by
  refine ⟨fun j hj => ?_, fun j hj => Grows.nil _ _ _ _, fun j hj => by simp [Value.ownBlock], fun i j hi hj hij b hb => by simp [Value.ownBlock] at hb, h.frozenAt, hlo, hl, hb⟩
  rw [h.cellAt j (by omega)]
  rcases made_one vnil n hj with h1 | h1
  · rw [h1]; simp [Value.cells]
  · exact absurd rfl h1
theorem NarUp.app {lo N n k g cap : Nat} {x : Int} {R : Nat → List Int} {w w1 w2 : World} {U : Nat → Value} (h : NarUp lo N n R w w1 U) (hk : k < n) (hw : w.heap.size ≤ lo)
    (hown : w2.ownsRow lo 2 1 (.slice (some ⟨g, 0, none⟩) ((R k).length + 1) cap) ((R k).length + 1) ((R k).map (Value.int .i64) ++ [.int .i64 x])) (hgr : w1.grownBy w2 (U k).ownBlock) (hat : (U k).ownBlock = some g ∨ g = w1.heap.size) :
    NarUp lo N n (fun j => if j = k then R k ++ [x] else R j) w (w2.setCell ⟨N, k, none⟩ (.slice (some ⟨g, 0, none⟩) ((R k).length + 1) cap)) (fun j => if j = k then .slice (some ⟨g, 0, none⟩) ((R k).length + 1) cap else U j) := by
  have hN := h.n2
  have hNk : w2.heap[N]? = w1.heap[N]? := hgr.block N hN (fun e => h.ne k hk e.symm)
  have hgN : g ≠ N := by
    rcases hat with e | e
    · intro q; exact h.ne k hk (by rw [e, q])
    · omega
  have far : ∀ j, j < n → ∀ b, (U j).ownBlock = some b → b < w1.heap.size := fun j hj b hb => (World.ownsRow.lt (h.own j hj) b hb).2
  refine ⟨fun j hj => ?_, fun j hj => ?_, fun j hj => ?_, fun i j hi hj hij b hb => ?_, fun i => ?_, h.n1, by simp [World.setCell]; exact Nat.lt_of_lt_of_le hN hgr.size, ?_⟩
  · by_cases e : j = k
    · subst e
      rw [if_pos rfl, World.cell?_setCell_same _ _ _ (show w2.cell? ⟨N, j, none⟩ = some (U j) from by rw [World.cell?_of_block (w := w1) (a := ⟨N, j, none⟩) hNk]; exact h.row j hj)]
    · rw [if_neg e, World.cell?_setCell_other _ _ _ _ (by intro q; injection q with _ q _; exact e q.symm), World.cell?_of_block (w := w1) (a := ⟨N, j, none⟩) hNk]
      exact h.row j hj
  · by_cases e : j = k
    · subst e
      simp only [if_true]
      have h2 : Grows (Value.int .i64) 2 lo (.slice (some ⟨g, 0, none⟩) ((R j).length + 1) cap) (R j ++ [x]) w2 := by
        show World.ownsRow _ _ _ _ _ _ _
        rw [List.length_append, List.map_append]
        exact hown
      exact World.ownsRow.kept h2 (grown_set _ _ _ _) (Or.inr (by simp [Value.ownBlock]; exact hgN))
    · simp only [e, if_false]
      have h2 := World.ownsRow.kept (h.own j hj) hgr (by
        cases q : (U j).ownBlock with
        | none => exact Or.inl rfl
        | some b => exact Or.inr (fun q2 => h.inj j k hj hk e b q q2.symm))
      exact World.ownsRow.kept h2 (grown_set _ _ _ _) (Or.inr (h.ne j hj))
  · by_cases e : j = k
    · simp only [e, if_true, Value.ownBlock]
      intro q; injection q with q; exact hgN q
    · simp only [e, if_false]; exact h.ne j hj
  · by_cases e1 : i = k
    · subst e1
      have e2 : ¬ j = i := fun q => hij q.symm
      simp only [if_true, Value.ownBlock] at hb
      simp only [e2, if_false]
      injection hb with hb
      have hb2 : g = b := hb
      subst hb2
      rcases hat with q | q
      · exact h.inj i j hi hj hij g q
      · intro q2; have := far j hj g q2; omega
    · simp only [e1, if_false] at hb
      by_cases e2 : j = k
      · subst e2
        simp only [if_true, Value.ownBlock]
        intro q; injection q with q
        have q : g = b := q
        subst q
        rcases hat with q | q
        · exact h.inj i j hi hj hij g hb q
        · have := far i hi g hb; omega
      · simp only [e2, if_false]
        exact h.inj i j hi hj hij b hb
  · rw [World.frozen?_setCell, World.frozen?_of_block (w := w1) (a := ⟨N, i, none⟩) hNk]; exact h.free i
  · refine (h.below.grown hgr h.below.size (fun b hb => ?_)).setCell (Nat.le_trans hw h.n1) _
    exact Nat.le_trans hw (World.ownsRow.lt (h.own k hk) b hb).1
theorem NarUp.ld {lo N : Nat} {R : Nat → List Int} {w wr : World} {U : Nat → Value} {C : List (List Int)} (h : NarUp lo N C.length R w wr U) (e : ∀ j, j < C.length → R j = C.getD j []) : LD lo wr.heap.size wr (.slice (some ⟨N, 0, none⟩) C.length C.length) C :=
  ld_of 0 h.row (fun j hj => by rw [← e j hj]; exact h.own j hj) h.ne h.inj h.free h.n1 h.n2
/-- A list that lists are put behind. -/
structure OutUp (lo : Nat) (L : List (List Int)) (s : Value) (w wr : World) (U : Nat → Value) : Prop where
  own : wr.ownsRow lo 25 1 s L.length ((List.range L.length).map U)
  row : ∀ j, j < L.length → Grows (Value.int .i64) 2 lo (U j) (L.getD j []) wr
  ne : ∀ j, j < L.length → ∀ b, (U j).ownBlock = some b → s.ownBlock ≠ some b
  inj : ∀ i j, i < L.length → j < L.length → i ≠ j → ∀ b, (U i).ownBlock = some b → (U j).ownBlock ≠ some b
  below : Below w.heap.size w wr
theorem OutUp.keep {lo : Nat} {L : List (List Int)} {s : Value} {w wr w2 : World} {U : Nat → Value} (h : OutUp lo L s w wr U) (b : Below wr.heap.size wr w2) : OutUp lo L s w w2 U := by
  refine ⟨h.own.kept (row := none) ⟨b.os, b.tape, b.output, b.size, fun i hi _ => b.block i hi⟩ ?_, fun j hj => (h.row j hj).below b (Nat.le_refl _), h.ne, h.inj, h.below.trans (b.mono h.below.size)⟩
  cases hs : s.ownBlock with
  | none => exact Or.inl rfl
  | some b => exact Or.inr (by simp)
theorem OutUp.step {lo : Nat} {L : List (List Int)} {Z : List Int} {s d : Value} {g cap : Nat} {w w1 w2 : World} {U : Nat → Value} (h : OutUp lo L s w w1 U) (hw : w.heap.size ≤ lo) (hd : Grows (Value.int .i64) 2 lo d Z w1)
    (hds : ∀ b, d.ownBlock = some b → s.ownBlock ≠ some b ∧ ∀ j, j < L.length → (U j).ownBlock ≠ some b)
    (hown : w2.ownsRow lo 25 1 (.slice (some ⟨g, 0, none⟩) (L.length + 1) cap) (L.length + 1) ((List.range L.length).map U ++ [d])) (hgr : w1.grownBy w2 s.ownBlock) (hat : s.ownBlock = some g ∨ g = w1.heap.size) :
    OutUp lo (L ++ [Z]) (.slice (some ⟨g, 0, none⟩) (L.length + 1) cap) w w2 (fun j => if j = L.length then d else U j) := by
  have hl : (L ++ [Z]).length = L.length + 1 := by simp
  have gat : ∀ j, j < L.length → (L ++ [Z]).getD j [] = L.getD j [] := fun j hj => by simp [List.getD, List.getElem?_append_left hj]
  have far : ∀ j, j < L.length → ∀ b, (U j).ownBlock = some b → b < w1.heap.size := fun j hj b hb => (World.ownsRow.lt (h.row j hj) b hb).2
  have fard : ∀ b, d.ownBlock = some b → b < w1.heap.size := fun b hb => (World.ownsRow.lt hd b hb).2
  refine ⟨?_, fun j hj => ?_, fun j hj b hb => ?_, fun i j hi hj hij b hb => ?_, h.below.grown hgr h.below.size (fun b hb => Nat.le_trans hw (World.ownsRow.lt h.own b hb).1)⟩
  · rw [hl]
    have e : (List.range (L.length + 1)).map (fun j => if j = L.length then d else U j) = (List.range L.length).map U ++ [d] := by
      rw [List.range_succ, List.map_append]
      congr 1
      · exact List.map_congr_left fun j hj => by
          have := List.mem_range.1 hj
          rw [if_neg (by omega)]
      · simp
    rw [e]; exact hown
  · rw [hl] at hj
    by_cases e : j = L.length
    · subst e
      simp only [if_true]
      rw [show (L ++ [Z]).getD L.length [] = Z by simp [List.getD]]
      exact World.ownsRow.kept hd hgr (by
        cases q : d.ownBlock with
        | none => exact Or.inl rfl
        | some b => exact Or.inr (fun q2 => (hds b q).1 q2.symm))
    · simp only [e, if_false]
      rw [gat j (by omega)]
      exact World.ownsRow.kept (h.row j (by omega)) hgr (by
        cases q : (U j).ownBlock with
        | none => exact Or.inl rfl
        | some b => exact Or.inr (fun q2 => h.ne j (by omega) b q q2.symm))
  · rw [hl] at hj
    intro q
    have q : some g = some b := q
    injection q with q
    subst q
    by_cases e : j = L.length
    · simp only [e, if_true] at hb
      rcases hat with q | q
      · exact (hds g hb).1 q
      · have := fard g hb; omega
    · simp only [e, if_false] at hb
      rcases hat with q | q
      · exact h.ne j (by omega) g hb q
      · have := far j (by omega) g hb; omega
  · rw [hl] at hi hj
    by_cases e1 : i = L.length
    · have e2 : ¬ j = L.length := by omega
      simp only [e1, if_true] at hb
      simp only [e2, if_false]
      exact (hds b hb).2 j (by omega)
    · simp only [e1, if_false] at hb
      by_cases e2 : j = L.length
      · simp only [e2, if_true]
        intro q
        exact (hds b q).2 i (by omega) hb
      · simp only [e2, if_false]
        exact h.inj i j (by omega) (by omega) hij b hb
theorem OutUp.ld {lo : Nat} {L : List (List Int)} {s : Value} {w wr : World} {U : Nat → Value} (h : OutUp lo L s w wr U) (h0 : 0 < L.length) : LD lo wr.heap.size wr s L := by
  rcases h.own.2 with ⟨_, hz⟩ | ⟨g, cap, cur, rfl, hB, hg, hn, hc, hs, ht⟩
  · omega
  · have hl := World.ownsRow.lt h.own g rfl
    obtain ⟨c, rfl⟩ := Nat.le.dest hn
    exact ld_of c (fun j hj => by rw [h.own.cellAt j (by omega)]; simp [hj]) h.row (fun j hj e => h.ne j hj g e rfl) h.inj h.own.frozenAt hl.1 hl.2
end Go.Proofs.Ytnakpfbeeekmiaa
