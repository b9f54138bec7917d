/- Slices of one-cell elements: how they read, in which blocks they lie, and what keeps them. -/
import Derived.ProofKit
import Derived.WalkKit
import Derived.WalkSmall
import Derived.Deep.Slices
import Derived.Lib.Hide
namespace Go.Proofs.YtfingpllakbpnaaDoor
open Go.RowKit Go.ChangeShapes Go.WideShapes

/-- Of the blocks that were there, those outside [lo, hi) are as they were. -/
structure Turned (lo hi : Nat) (w w' : World) : Prop where
  os : w'.os = w.os
  tape : w'.tape = w.tape
  output : w'.output = w.output
  size : w.heap.size ≤ w'.heap.size
  block : ∀ k, k < w.heap.size → (k < lo ∨ hi ≤ k) → w'.heap[k]? = w.heap[k]?
theorem Turned.refl (lo hi : Nat) (w : World) : Turned lo hi w w := ⟨rfl, rfl, rfl, Nat.le_refl _, fun _ _ _ => rfl⟩
theorem Turned.trans {lo hi : Nat} {a b c : World} (h : Turned lo hi a b) (k : Turned lo hi b c) : Turned lo hi a c :=
  ⟨k.os.trans h.os, k.tape.trans h.tape, k.output.trans h.output, Nat.le_trans h.size k.size, fun i hi hl => (k.block i (Nat.lt_of_lt_of_le hi h.size) hl).trans (h.block i hi hl)⟩
theorem Turned.wide {lo hi lo' hi' : Nat} {a b : World} (h : Turned lo hi a b) (h1 : lo' ≤ lo) (h2 : hi ≤ hi') : Turned lo' hi' a b :=
  ⟨h.os, h.tape, h.output, h.size, fun i hi hl => h.block i hi (by omega)⟩
theorem Turned.of_below {B lo hi : Nat} {w w' : World} (h : Below B w w') (hB : w.heap.size ≤ B) : Turned lo hi w w' :=
  ⟨h.os, h.tape, h.output, h.size, fun k hk _ => h.block k (by omega)⟩
theorem Turned.below {lo hi : Nat} {w w' : World} (h : Turned lo hi w w') (hl : lo ≤ w.heap.size) : Below lo w w' :=
  ⟨h.os, h.tape, h.output, h.size, fun k hk => h.block k (by omega) (Or.inl hk)⟩
theorem Turned.drewN {lo hi : Nat} {a w : World} (h : Turned lo hi a w) (n : Nat) : Turned lo hi a (w.drewN n) :=
  h.trans ⟨rfl, rfl, rfl, Nat.le_refl _, fun _ _ _ => rfl⟩
theorem Turned.setCell {lo hi : Nat} {a w : World} (h : Turned lo hi a w) {p : Addr} (h1 : lo ≤ p.block) (h2 : p.block < hi) (u : Value) : Turned lo hi a (w.setCell p u) :=
  h.trans ⟨rfl, rfl, rfl, by simp [World.setCell], fun k _ hl => Below.heap_setCell _ _ _ _ (by omega)⟩

/-- Old cells and old marks read as before. -/
theorem bcell {W w1 : World} (hb : Below W.heap.size W w1) : (∀ b o, b < W.heap.size → w1.cell? ⟨b, o, none⟩ = W.cell? ⟨b, o, none⟩) ∧ (∀ b o, b < W.heap.size → w1.frozen? ⟨b, o, none⟩ = W.frozen? ⟨b, o, none⟩) :=
  ⟨fun b o h => hb.cell (p := ⟨b, o, none⟩) h, fun b o h => hb.frozen (p := ⟨b, o, none⟩) h⟩
theorem Below.undrew {B : Nat} {w w' : World} {n : Nat} (h : Below B (w.drewN n) w') : Below B w w' := ⟨h.os, h.tape, h.output, h.size, h.block⟩
theorem Below.then {B : Nat} {a b c : World} (h : Below B a b) (k : Below b.heap.size b c) (hB : B ≤ b.heap.size) : Below B a c := h.trans (k.mono hB)
theorem ret_int {k : IntKind} {a b : Int} (h : a = b) : Ending.returned (.int k a) = .returned (.int k b) := by rw [h]
theorem below_alloc (w : World) (o : Obj) : Below w.heap.size w (w.alloc o) := (Below.refl _ _).alloc (Nat.le_refl _) o

section
variable {α : Type} {mk : α → Value} {d : α}
/-- A slice value that reads as the list Z. -/
def VL (mk : α → Value) (d : α) (w : World) (v : Value) (Z : List α) : Prop :=
  (Z = [] ∧ ∃ ao cap, v = .slice ao 0 cap) ∨
  (∃ b off cap, v = .slice (some ⟨b, off, none⟩) Z.length (Z.length + cap) ∧ 0 < Z.length ∧ b < w.heap.size ∧ ∀ i, i < Z.length → w.cell? ⟨b, off + i, none⟩ = some (mk (Z.getD i d)))
/-- .. and lies in a block from lo on, below hi, that may be written. -/
def SI (mk : α → Value) (d : α) (lo hi : Nat) (w : World) (v : Value) (Z : List α) : Prop :=
  hi ≤ w.heap.size ∧ ((Z = [] ∧ ∃ ao cap, v = .slice ao 0 cap) ∨
  (∃ b off cap, v = .slice (some ⟨b, off, none⟩) Z.length (Z.length + cap) ∧ 0 < Z.length ∧ lo ≤ b ∧ b < hi ∧ (∀ i, w.frozen? ⟨b, i, none⟩ = false) ∧ ∀ i, i < Z.length → w.cell? ⟨b, off + i, none⟩ = some (mk (Z.getD i d))))

theorem VL.below {w w' : World} {v : Value} {Z : List α} (h : VL mk d w v Z) {B : Nat} (hb : Below B w w') (hB : w.heap.size ≤ B) : VL mk d w' v Z := by
  rcases h with h | ⟨b, off, cap, h1, h2, h3, h4⟩
  · exact Or.inl h
  · exact Or.inr ⟨b, off, cap, h1, h2, Nat.lt_of_lt_of_le h3 hb.size, fun i hi => by rw [hb.cell (p := ⟨b, off + i, none⟩) (by show b < B; omega)]; exact h4 i hi⟩
theorem VL.drewN {w : World} {v : Value} {Z : List α} (h : VL mk d w v Z) (n : Nat) : VL mk d (w.drewN n) v Z := h
theorem VL.alloc {w : World} {v : Value} {Z : List α} (h : VL mk d w v Z) (o : Obj) : VL mk d (w.alloc o) v Z := h.below ((Below.refl w.heap.size w).alloc (Nat.le_refl _) o) (Nat.le_refl _)
theorem VL.len {w : World} {v : Value} {Z : List α} (h : VL mk d w v Z) : ∃ ao cap, v = .slice ao Z.length cap := by
  rcases h with ⟨rfl, ao, cap, rfl⟩ | ⟨b, off, cap, rfl, _⟩
  · exact ⟨ao, cap, rfl⟩
  · exact ⟨_, _, rfl⟩

theorem SI.vl {lo hi : Nat} {w : World} {v : Value} {Z : List α} (h : SI mk d lo hi w v Z) : VL mk d w v Z := by
  obtain ⟨h0, h | ⟨b, off, cap, h1, h2, h3, h4, h5, h6⟩⟩ := h
  · exact Or.inl h
  · exact Or.inr ⟨b, off, cap, h1, h2, by omega, h6⟩
theorem SI.kept {lo hi lo2 hi2 : Nat} {w w' : World} {v : Value} {Z : List α} (h : SI mk d lo hi w v Z) (ht : Turned lo2 hi2 w w') (hs : hi ≤ lo2 ∨ hi2 ≤ lo) : SI mk d lo hi w' v Z := by
  obtain ⟨h0, h | ⟨b, off, cap, h1, h2, h3, h4, h5, h6⟩⟩ := h
  · exact ⟨Nat.le_trans h0 ht.size, Or.inl h⟩
  · have hk := ht.block b (by omega) (by omega)
    exact ⟨Nat.le_trans h0 ht.size, Or.inr ⟨b, off, cap, h1, h2, h3, h4, fun i => by rw [World.frozen?_of_block (w := w) (a := ⟨b, i, none⟩) hk]; exact h5 i, fun i hi => by rw [World.cell?_of_block (w := w) (a := ⟨b, off + i, none⟩) hk]; exact h6 i hi⟩⟩
theorem SI.below {lo hi B : Nat} {w w' : World} {v : Value} {Z : List α} (h : SI mk d lo hi w v Z) (hb : Below B w w') (hB : w.heap.size ≤ B) : SI mk d lo hi w' v Z :=
  h.kept (Turned.of_below (lo := hi) (hi := hi) hb hB) (Or.inl (Nat.le_refl _))
theorem SI.wide {lo hi lo' hi' : Nat} {w : World} {v : Value} {Z : List α} (h : SI mk d lo hi w v Z) (h1 : lo' ≤ lo) (h2 : hi ≤ hi') (h3 : hi' ≤ w.heap.size) : SI mk d lo' hi' w v Z := by
  obtain ⟨h0, h | ⟨b, off, cap, e1, e2, e3, e4, e5, e6⟩⟩ := h
  · exact ⟨h3, Or.inl h⟩
  · exact ⟨h3, Or.inr ⟨b, off, cap, e1, e2, by omega, by omega, e5, e6⟩⟩
theorem SI.set {lo hi : Nat} {w : World} {v : Value} {Z : List α} (h : SI mk d lo hi w v Z) {p : Addr} (hp : p.block < lo ∨ hi ≤ p.block) (u : Value) : SI mk d lo hi (w.setCell p u) v Z :=
  h.kept ((Turned.refl p.block (p.block + 1) w).setCell (Nat.le_refl _) (Nat.lt_succ_self _) u) (by omega)
theorem SI.len {lo hi : Nat} {w : World} {v : Value} {Z : List α} (h : SI mk d lo hi w v Z) : ∃ ao cap, v = .slice ao Z.length cap := h.vl.len
theorem SI.nil {w : World} (lo : Nat) {hi : Nat} (h : hi ≤ w.heap.size) (ao : Option Addr) (cap : Nat) : SI mk d lo hi w (.slice ao 0 cap) [] := ⟨h, Or.inl ⟨rfl, ao, cap, rfl⟩⟩

/-- A call that hands back a new list. -/
def Made (mk : α → Value) (d : α) (Z : List α) (w : World) (e : Ending) (w' : World) : Prop := ∃ v, e = .returned v ∧ SI mk d w.heap.size w'.heap.size w' v Z ∧ Below w.heap.size w w'

theorem getDlt {Z : List α} {k : Nat} (h : k < Z.length) : Z.getD k d = Z[k] := by simp [List.getD, h]

theorem cell_lt' {w : World} {b o : Nat} {v : Value} (h : w.cell? (Addr.add ⟨b, o, none⟩ 0) = some v) : b < w.heap.size := by
  rcases Nat.lt_or_ge b w.heap.size with h1 | h1
  · exact h1
  · exfalso
    have hn : w.heap[b]? = none := by simp [h1]
    simp [Addr.add, World.cell?, hn] at h

/-- A field, or an argument, that is a slice of one-cell elements each of which reads as one of ours. -/
theorem open_vl {H : Type} {enc : TypeId × Value → H} {P : Program} {w : World} {base : Nat} {held : Bool} {t e : TypeId} {v : Value} {y : DataW H × List MemPlace} {fuel : Nat} (ht : P.underlying t = some (.slice e)) (hc : P.cellsOf e = 1)
    (ok : α → Prop) (hone : ∀ n u z, DataW.trod enc P w base (fun _ => true) held n e [u] = some z → ∃ x, u = mk x ∧ ok x) (hf : DataW.trod enc P w base (fun _ => true) held fuel t [v] = some y) :
    ∃ Z : List α, VL mk d w v Z ∧ Z.length ≤ maxLen ∧ ∀ x ∈ Z, ok x := by
  rcases Deep.open_slice1 ht hc hf with ⟨hcs, hx⟩ | ⟨a, len', cap', m, n, V, D, Pl, hcs, _, hl, hm, hmm, hx, hV⟩
  · simp only [List.cons.injEq, and_true] at hcs
    subst hcs
    exact ⟨[], Or.inl ⟨rfl, none, 0, rfl⟩, Nat.zero_le _, fun x hx => by cases hx⟩
  · simp only [List.cons.injEq, and_true] at hcs
    subst hcs
    simp only [if_true] at hmm
    subst hmm
    have hcell : ∀ i, i < m → ∃ z, V i = mk z ∧ ok z := fun i hi => hone n _ _ (hV i hi).2
    haveI : Inhabited α := ⟨d⟩
    obtain ⟨z, hz⟩ := Deep.choose_lt (α := α) (p := fun i z => V i = mk z ∧ ok z) hcell
    refine ⟨(List.range len').map z, ?_, by simp; omega, fun x hx => ?_⟩
    rotate_left
    · obtain ⟨i, hi, rfl⟩ := List.mem_map.1 hx
      exact (hz i (by have := List.mem_range.1 hi; omega)).2
    by_cases h0 : len' = 0
    · subst h0
      exact Or.inl ⟨rfl, _, _, rfl⟩
    · right
      obtain ⟨b, off, spot⟩ := a
      have hc0 := (hV 0 (by omega)).1
      have hspot : spot = none := by simpa [Addr.add] using World.cell?_spot hc0
      subst hspot
      refine ⟨b, off, m - len', by simp only [List.length_map, List.length_range]; rw [Nat.add_sub_cancel' hl], by simpa using (by omega : 0 < len'), cell_lt' hc0, fun i hi => ?_⟩
      have hi' : i < len' := by simpa using hi
      have h3 := (hV i (by omega)).1
      rw [Go.WideShapes.add_plain] at h3
      rw [h3, (hz i (by omega)).1]
      simp [List.getD, hi']
end

theorem one_f32 {H : Type} {enc : TypeId × Value → H} {P : Program} {w : World} {base : Nat} {held : Bool} {e : TypeId} (he : P.underlying e = some (.float .f32)) :
    ∀ n u z, DataW.trod enc P w base (fun _ => true) held n e [u] = some z → ∃ x, u = Value.float .f32 x ∧ x < 4294967296 := by
  intro n u z h
  cases n with
  | zero => simp [DataW.trod] at h
  | succ n =>
    simp only [DataW.trod, he] at h
    cases u with
    | float k b =>
      cases k with
      | f32 =>
        by_cases hw : (Lit.float .f32 b).wf = true
        · exact ⟨b, rfl, by simpa [Lit.wf] using hw⟩
        · simp [hw] at h
      | f64 => simp at h
    | _ => simp at h
theorem one_i64 {H : Type} {enc : TypeId × Value → H} {P : Program} {w : World} {base : Nat} {held : Bool} {e : TypeId} (he : P.underlying e = some (.int .i64)) :
    ∀ n u z, DataW.trod enc P w base (fun _ => true) held n e [u] = some z → ∃ x, u = Value.int .i64 x ∧ -9223372036854775808 ≤ x ∧ x ≤ 9223372036854775807 := by
  intro n u z h
  cases n with
  | zero => simp [DataW.trod] at h
  | succ n =>
    simp only [DataW.trod, he] at h
    cases u with
    | int k b =>
      cases k with
      | i64 =>
        by_cases hw : (Lit.int .i64 b).wf = true
        · have h1 : IntKind.i64.min = -9223372036854775808 := by decide
          have h2 : IntKind.i64.max = 9223372036854775807 := by decide
          simp only [Lit.wf, Bool.and_eq_true, decide_eq_true_eq, h1, h2] at hw
          exact ⟨b, rfl, hw⟩
        · simp [hw] at h
      | _ => simp at h
    | _ => simp at h
end Go.Proofs.YtfingpllakbpnaaDoor
