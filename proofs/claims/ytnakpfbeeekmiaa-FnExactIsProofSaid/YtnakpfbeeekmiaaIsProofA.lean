/- What IsProof needs: Vl I64 Box Il Ls Arr LsS Fm LsM FmM LsH. -/
import Derived.ProofKit
import Derived.WalkKit
import Derived.WalkSmall
import Derived.Deep.Slices
import Derived.Lib.Hide
import Derived.Test.YtnakpfbeeekmiaaRows
import Derived.RegionTactic
import Derived.ChangeAlike
import Derived.Deep.QuietTactic
import Derived.BigQuiet
import Derived.BigRegion
import Derived.Deep.RegionWith
import Derived.IntWalk
import Derived.Outline
import Derived.Deep.LoopGhost
import Derived.Deep.DeepCutAuto
import Derived.Deep.RegionHeld3
import Derived.Lib.SmallJoins
/- Slices of one-cell elements: how they read, in which blocks they lie, and what keeps them. -/
namespace Go.Proofs.Ytnakpfbeeekmiaa
open Go.RowKit Go.ChangeShapes Go.WideShapes

/-- Of the blocks that were there, those outside [lo, hi) are as they were. -/
structure Turned (lo hi : Nat) (w w' : World) : Prop where
  os : w'.os = w.os
  tape : w'.tape = w.tape
  output : w'.output = w.output
  size : w.heap.size ≤ w'.heap.size
  block : ∀ k, k < w.heap.size → (k < lo ∨ hi ≤ k) → w'.heap[k]? = w.heap[k]?
theorem Turned.refl (lo hi : Nat) (w : World) : Turned lo hi w w := ⟨rfl, rfl, rfl, Nat.le_refl _, fun _ _ _ => rfl⟩
theorem Turned.trans {lo hi : Nat} {a b c : World} (h : Turned lo hi a b) (k : Turned lo hi b c) : Turned lo hi a c :=
  ⟨k.os.trans h.os, k.tape.trans h.tape, k.output.trans h.output, Nat.le_trans h.size k.size, fun i hi hl => (k.block i (Nat.lt_of_lt_of_le hi h.size) hl).trans (h.block i hi hl)⟩
theorem Turned.wide {lo hi lo' hi' : Nat} {a b : World} (h : Turned lo hi a b) (h1 : lo' ≤ lo) (h2 : hi ≤ hi') : Turned lo' hi' a b :=
  ⟨h.os, h.tape, h.output, h.size, fun i hi hl => h.block i hi (by omega)⟩
theorem Turned.of_below {B lo hi : Nat} {w w' : World} (h : Below B w w') (hB : w.heap.size ≤ B) : Turned lo hi w w' :=
  ⟨h.os, h.tape, h.output, h.size, fun k hk _ => h.block k (by omega)⟩
theorem Turned.below {lo hi : Nat} {w w' : World} (h : Turned lo hi w w') (hl : lo ≤ w.heap.size) : Below lo w w' :=
  ⟨h.os, h.tape, h.output, h.size, fun k hk => h.block k (by omega) (Or.inl hk)⟩
theorem Turned.drewN {lo hi : Nat} {a w : World} (h : Turned lo hi a w) (n : Nat) : Turned lo hi a (w.drewN n) :=
  h.trans ⟨rfl, rfl, rfl, Nat.le_refl _, fun _ _ _ => rfl⟩
theorem Turned.setCell {lo hi : Nat} {a w : World} (h : Turned lo hi a w) {p : Addr} (h1 : lo ≤ p.block) (h2 : p.block < hi) (u : Value) : Turned lo hi a (w.setCell p u) :=
  h.trans ⟨rfl, rfl, rfl, by simp [World.setCell], fun k _ hl => Below.heap_setCell _ _ _ _ (by omega)⟩

/-- Old cells and old marks read as before. -/
theorem bcell {W w1 : World} (hb : Below W.heap.size W w1) : (∀ b o, b < W.heap.size → w1.cell? ⟨b, o, none⟩ = W.cell? ⟨b, o, none⟩) ∧ (∀ b o, b < W.heap.size → w1.frozen? ⟨b, o, none⟩ = W.frozen? ⟨b, o, none⟩) :=
  ⟨fun b o h => hb.cell (p := ⟨b, o, none⟩) h, fun b o h => hb.frozen (p := ⟨b, o, none⟩) h⟩
theorem Below.undrew {B : Nat} {w w' : World} {n : Nat} (h : Below B (w.drewN n) w') : Below B w w' := ⟨h.os, h.tape, h.output, h.size, h.block⟩
theorem Below.then {B : Nat} {a b c : World} (h : Below B a b) (k : Below b.heap.size b c) (hB : B ≤ b.heap.size) : Below B a c := h.trans (k.mono hB)
theorem ret_int {k : IntKind} {a b : Int} (h : a = b) : Ending.returned (.int k a) = .returned (.int k b) := by rw [h]
theorem below_alloc (w : World) (o : Obj) : Below w.heap.size w (w.alloc o) := (Below.refl _ _).alloc (Nat.le_refl _) o

section
variable {α : Type} {mk : α → Value} {d : α}
/-- A slice value that reads as the list Z. -/
def VL (mk : α → Value) (d : α) (w : World) (v : Value) (Z : List α) : Prop :=
  (Z = [] ∧ ∃ ao cap, v = .slice ao 0 cap) ∨
  (∃ b off cap, v = .slice (some ⟨b, off, none⟩) Z.length (Z.length + cap) ∧ 0 < Z.length ∧ b < w.heap.size ∧ ∀ i, i < Z.length → w.cell? ⟨b, off + i, none⟩ = some (mk (Z.getD i d)))
/-- .. and lies in a block from lo on, below hi, that may be written. -/
def SI (mk : α → Value) (d : α) (lo hi : Nat) (w : World) (v : Value) (Z : List α) : Prop :=
  hi ≤ w.heap.size ∧ ((Z = [] ∧ ∃ ao cap, v = .slice ao 0 cap) ∨
  (∃ b off cap, v = .slice (some ⟨b, off, none⟩) Z.length (Z.length + cap) ∧ 0 < Z.length ∧ lo ≤ b ∧ b < hi ∧ (∀ i, w.frozen? ⟨b, i, none⟩ = false) ∧ ∀ i, i < Z.length → w.cell? ⟨b, off + i, none⟩ = some (mk (Z.getD i d))))

theorem VL.below {w w' : World} {v : Value} {Z : List α} (h : VL mk d w v Z) {B : Nat} (hb : Below B w w') (hB : w.heap.size ≤ B) : VL mk d w' v Z := by
  rcases h with h | ⟨b, off, cap, h1, h2, h3, h4⟩
  · exact Or.inl h
  · exact Or.inr ⟨b, off, cap, h1, h2, Nat.lt_of_lt_of_le h3 hb.size, fun i hi => by rw [hb.cell (p := ⟨b, off + i, none⟩) (by show b < B; omega)]; exact h4 i hi⟩
theorem VL.drewN {w : World} {v : Value} {Z : List α} (h : VL mk d w v Z) (n : Nat) : VL mk d (w.drewN n) v Z := h
theorem VL.alloc {w : World} {v : Value} {Z : List α} (h : VL mk d w v Z) (o : Obj) : VL mk d (w.alloc o) v Z := h.below ((Below.refl w.heap.size w).alloc (Nat.le_refl _) o) (Nat.le_refl _)
theorem VL.len {w : World} {v : Value} {Z : List α} (h : VL mk d w v Z) : ∃ ao cap, v = .slice ao Z.length cap := by
  rcases h with ⟨rfl, ao, cap, rfl⟩ | ⟨b, off, cap, rfl, _⟩
  · exact ⟨ao, cap, rfl⟩
  · exact ⟨_, _, rfl⟩

theorem SI.vl {lo hi : Nat} {w : World} {v : Value} {Z : List α} (h : SI mk d lo hi w v Z) : VL mk d w v Z := by
  obtain ⟨h0, h | ⟨b, off, cap, h1, h2, h3, h4, h5, h6⟩⟩ := h
  · exact Or.inl h
  · exact Or.inr ⟨b, off, cap, h1, h2, by omega, h6⟩
theorem SI.kept {lo hi lo2 hi2 : Nat} {w w' : World} {v : Value} {Z : List α} (h : SI mk d lo hi w v Z) (ht : Turned lo2 hi2 w w') (hs : hi ≤ lo2 ∨ hi2 ≤ lo) : SI mk d lo hi w' v Z := by
  obtain ⟨h0, h | ⟨b, off, cap, h1, h2, h3, h4, h5, h6⟩⟩ := h
  · exact ⟨Nat.le_trans h0 ht.size, Or.inl h⟩
  · have hk := ht.block b (by omega) (by omega)
    exact ⟨Nat.le_trans h0 ht.size, Or.inr ⟨b, off, cap, h1, h2, h3, h4, fun i => by rw [World.frozen?_of_block (w := w) (a := ⟨b, i, none⟩) hk]; exact h5 i, fun i hi => by rw [World.cell?_of_block (w := w) (a := ⟨b, off + i, none⟩) hk]; exact h6 i hi⟩⟩
theorem SI.below {lo hi B : Nat} {w w' : World} {v : Value} {Z : List α} (h : SI mk d lo hi w v Z) (hb : Below B w w') (hB : w.heap.size ≤ B) : SI mk d lo hi w' v Z :=
  h.kept (Turned.of_below (lo := hi) (hi := hi) hb hB) (Or.inl (Nat.le_refl _))
theorem SI.wide {lo hi lo' hi' : Nat} {w : World} {v : Value} {Z : List α} (h : SI mk d lo hi w v Z) (h1 : lo' ≤ lo) (h2 : hi ≤ hi') (h3 : hi' ≤ w.heap.size) : SI mk d lo' hi' w v Z := by
  obtain ⟨h0, h | ⟨b, off, cap, e1, e2, e3, e4, e5, e6⟩⟩ := h
  · exact ⟨h3, Or.inl h⟩
  · exact ⟨h3, Or.inr ⟨b, off, cap, e1, e2, by omega, by omega, e5, e6⟩⟩
theorem SI.set {lo hi : Nat} {w : World} {v : Value} {Z : List α} (h : SI mk d lo hi w v Z) {p : Addr} (hp : p.block < lo ∨ hi ≤ p.block) (u : Value) : SI mk d lo hi (w.setCell p u) v Z :=
  h.kept ((Turned.refl p.block (p.block + 1) w).setCell (Nat.le_refl _) (Nat.lt_succ_self _) u) (by omega)
theorem SI.len {lo hi : Nat} {w : World} {v : Value} {Z : List α} (h : SI mk d lo hi w v Z) : ∃ ao cap, v = .slice ao Z.length cap := h.vl.len
theorem SI.nil {w : World} (lo : Nat) {hi : Nat} (h : hi ≤ w.heap.size) (ao : Option Addr) (cap : Nat) : SI mk d lo hi w (.slice ao 0 cap) [] := ⟨h, Or.inl ⟨rfl, ao, cap, rfl⟩⟩

/-- A call that hands back a new list. -/
def Made (mk : α → Value) (d : α) (Z : List α) (w : World) (e : Ending) (w' : World) : Prop := ∃ v, e = .returned v ∧ SI mk d w.heap.size w'.heap.size w' v Z ∧ Below w.heap.size w w'

theorem getDlt {Z : List α} {k : Nat} (h : k < Z.length) : Z.getD k d = Z[k] := by simp [List.getD, h]

theorem cell_lt' {w : World} {b o : Nat} {v : Value} (h : w.cell? (Addr.add ⟨b, o, none⟩ 0) = some v) : b < w.heap.size := by
  rcases Nat.lt_or_ge b w.heap.size with h1 | h1
  · exact h1
  · exfalso
    have hn : w.heap[b]? = none := by simp [h1]
    simp [Addr.add, World.cell?, hn] at h

/-- A field, or an argument, that is a slice of one-cell elements each of which reads as one of ours. -/
theorem open_vl {H : Type} {enc : TypeId × Value → H} {P : Program} {w : World} {base : Nat} {held : Bool} {t e : TypeId} {v : Value} {y : DataW H × List MemPlace} {fuel : Nat} (ht : P.underlying t = some (.slice e)) (hc : P.cellsOf e = 1)
    (ok : α → Prop) (hone : ∀ n u z, DataW.trod enc P w base (fun _ => true) held n e [u] = some z → ∃ x, u = mk x ∧ ok x) (hf : DataW.trod enc P w base (fun _ => true) held fuel t [v] = some y) :
    ∃ Z : List α, VL mk d w v Z ∧ Z.length ≤ maxLen ∧ ∀ x ∈ Z, ok x := by
  rcases Deep.open_slice1 ht hc hf with ⟨hcs, hx⟩ | ⟨a, len', cap', m, n, V, D, Pl, hcs, _, hl, hm, hmm, hx, hV⟩
  · simp only [List.cons.injEq, and_true] at hcs
    subst hcs
    exact ⟨[], Or.inl ⟨rfl, none, 0, rfl⟩, Nat.zero_le _, fun x hx => by cases hx⟩
  · simp only [List.cons.injEq, and_true] at hcs
    subst hcs
    simp only [if_true] at hmm
    subst hmm
    have hcell : ∀ i, i < m → ∃ z, V i = mk z ∧ ok z := fun i hi => hone n _ _ (hV i hi).2
    haveI : Inhabited α := ⟨d⟩
    obtain ⟨z, hz⟩ := Deep.choose_lt (α := α) (p := fun i z => V i = mk z ∧ ok z) hcell
    refine ⟨(List.range len').map z, ?_, by simp; omega, fun x hx => ?_⟩
    rotate_left
    · obtain ⟨i, hi, rfl⟩ := List.mem_map.1 hx
      exact (hz i (by have := List.mem_range.1 hi; omega)).2
    by_cases h0 : len' = 0
    · subst h0
      exact Or.inl ⟨rfl, _, _, rfl⟩
    · right
      obtain ⟨b, off, spot⟩ := a
      have hc0 := (hV 0 (by omega)).1
      have hspot : spot = none := by simpa [Addr.add] using World.cell?_spot hc0
      subst hspot
      refine ⟨b, off, m - len', by simp only [List.length_map, List.length_range]; rw [Nat.add_sub_cancel' hl], by simpa using (by omega : 0 < len'), cell_lt' hc0, fun i hi => ?_⟩
      have hi' : i < len' := by simpa using hi
      have h3 := (hV i (by omega)).1
      rw [Go.WideShapes.add_plain] at h3
      rw [h3, (hz i (by omega)).1]
      simp [List.getD, hi']
end

theorem one_f32 {H : Type} {enc : TypeId × Value → H} {P : Program} {w : World} {base : Nat} {held : Bool} {e : TypeId} (he : P.underlying e = some (.float .f32)) :
    ∀ n u z, DataW.trod enc P w base (fun _ => true) held n e [u] = some z → ∃ x, u = Value.float .f32 x ∧ x < 4294967296 := by
  intro n u z h
  cases n with
  | zero => simp [DataW.trod] at h
  | succ n =>
    simp only [DataW.trod, he] at h
    cases u with
    | float k b =>
      cases k with
      | f32 =>
        by_cases hw : (Lit.float .f32 b).wf = true
        · exact ⟨b, rfl, by simpa [Lit.wf] using hw⟩
        · simp [hw] at h
      | f64 => simp at h
    | _ => simp at h
theorem one_i64 {H : Type} {enc : TypeId × Value → H} {P : Program} {w : World} {base : Nat} {held : Bool} {e : TypeId} (he : P.underlying e = some (.int .i64)) :
    ∀ n u z, DataW.trod enc P w base (fun _ => true) held n e [u] = some z → ∃ x, u = Value.int .i64 x ∧ -9223372036854775808 ≤ x ∧ x ≤ 9223372036854775807 := by
  intro n u z h
  cases n with
  | zero => simp [DataW.trod] at h
  | succ n =>
    simp only [DataW.trod, he] at h
    cases u with
    | int k b =>
      cases k with
      | i64 =>
        by_cases hw : (Lit.int .i64 b).wf = true
        · have h1 : IntKind.i64.min = -9223372036854775808 := by decide
          have h2 : IntKind.i64.max = 9223372036854775807 := by decide
          simp only [Lit.wf, Bool.and_eq_true, decide_eq_true_eq, h1, h2] at hw
          exact ⟨b, rfl, hw⟩
        · simp [hw] at h
      | _ => simp at h
    | _ => simp at h
end Go.Proofs.Ytnakpfbeeekmiaa
/- Lists of 64-bit integers: how they read; copies, marks; that lists are equal. -/
namespace Go.Proofs.Ytnakpfbeeekmiaa
open Go.RowKit Go.ChangeShapes Go.WideShapes

abbrev IL := VL (Value.int .i64) (0 : Int)
abbrev II := SI (Value.int .i64) (0 : Int)
theorem II.il {lo hi : Nat} {w : World} {v : Value} {Z : List Int} (h : II lo hi w v Z) : IL w v Z := SI.vl h
theorem getDI {Z : List Int} {k : Nat} (h : k < Z.length) : Z.getD k 0 = Z[k] := by simp [List.getD, h]
theorem Try.infoI : (Try.prog.info? 2).map (fun i => (i.zero, i.size, i.bytes)) = some (some (.int .i64 0), 1, 8) := by kernel_rfl

/-- A row of the call's own, of which the first k elements are the list's. -/
def OwnI (g : Nat) (Z : List Int) (k : Nat) (w : World) : Prop :=
  ∃ xs : List Value, w.ownsRow g 2 1 (.slice (some ⟨g, 0, none⟩) Z.length Z.length) Z.length xs ∧ ∀ i, i < k → xs[i]? = some (.int .i64 (Z.getD i 0))
theorem OwnI.len {g : Nat} {Z : List Int} {xs : List Value} {w : World} (h : w.ownsRow g 2 1 (.slice (some ⟨g, 0, none⟩) Z.length Z.length) Z.length xs) : xs.length = Z.length := by have := h.1; omega
theorem OwnI.cell {g : Nat} {Z : List Int} {k : Nat} {w : World} (h : OwnI g Z k w) {i : Nat} (hi : i < Z.length) : ∃ v, w.cell? ⟨g, i, none⟩ = some v := by
  obtain ⟨xs, h1, _⟩ := h
  refine ⟨xs[i]'(by rw [OwnI.len h1]; exact hi), ?_⟩
  rw [h1.cellAt i (by omega)]
  exact List.getElem?_eq_getElem _
theorem OwnI.free {g : Nat} {Z : List Int} {k : Nat} {w : World} (h : OwnI g Z k w) (i : Nat) : w.frozen? ⟨g, i, none⟩ = false := by
  obtain ⟨xs, h1, _⟩ := h
  exact h1.frozenAt i
theorem OwnI.step {g : Nat} {Z : List Int} {k : Nat} {w : World} (h : OwnI g Z k w) (hk : k < Z.length) : OwnI g Z (k + 1) (w.setCell ⟨g, k, none⟩ (.int .i64 (Z.getD k 0))) := by
  obtain ⟨xs, h1, h2⟩ := h
  refine ⟨xs.set k _, (h1.stored k _).1, fun i hi => ?_⟩
  by_cases e : i = k
  · subst e
    rw [List.getElem?_set_self (by rw [OwnI.len h1]; exact hk)]
  · rw [List.getElem?_set_ne (fun h => e h.symm)]
    exact h2 i (by omega)
theorem OwnI.block {g : Nat} {Z : List Int} {k : Nat} {w : World} (h : OwnI g Z k w) : g < w.heap.size := by
  obtain ⟨xs, h1, _⟩ := h
  rcases h1.2 with ⟨h', _⟩ | ⟨g', cap', cur, h', hb, hg, _⟩
  · simp at h'
  · simp only [Value.slice.injEq, Option.some.injEq, Addr.mk.injEq, and_true, true_and] at h'
    obtain ⟨rfl, rfl⟩ := h'
    rcases Nat.lt_or_ge g w.heap.size with h5 | h5
    · exact h5
    · rw [Array.getElem?_eq_none h5] at hg; cases hg
theorem OwnI.si {g : Nat} {Z : List Int} {w : World} (h : OwnI g Z Z.length w) : II g w.heap.size w (.slice (some ⟨g, 0, none⟩) Z.length Z.length) Z := by
  by_cases h0 : Z.length = 0
  · have : Z = [] := List.eq_nil_of_length_eq_zero h0
    subst this
    exact ⟨Nat.le_refl _, Or.inl ⟨rfl, _, _, rfl⟩⟩
  · refine ⟨Nat.le_refl _, Or.inr ⟨g, 0, 0, rfl, by omega, Nat.le_refl _, h.block, h.free, fun i hi => ?_⟩⟩
    obtain ⟨xs, h1, h2⟩ := h
    rw [Nat.zero_add, h1.cellAt i (by omega)]
    exact h2 i hi

def CopyingI (w : World) (Z : List Int) (k : Nat) (wr : World) : Prop := OwnI w.heap.size Z k wr ∧ Below w.heap.size w wr
set_option maxHeartbeats 400000 in
theorem toI64_zero (ao : Option Addr) (cap : Nat) (w : World) :
    Calls Try.prog 16 #[.slice ao 0 cap] w (Made (Value.int .i64) (0 : Int) [] w) := by
  obtain ⟨i0, hi, hz0, hz1, hz2⟩ := info_parts Try.infoI
  go_enter Try.func16, Try.ntmps16
  go_wp2_with (at_make; refine wpList_make_full _ rfl _ _ 25 rfl w.heap.size 2 i0 (.int .i64 0) 1 Try.underlying25 hi hz0 hz1 _ _ _ _ 0 rfl rfl rfl rfl (by omega) (by unfold maxLen; omega) (Nat.le_refl _) ?_; intro w1 hown hgrow)
  have hb : Below w.heap.size w w1 := (Below.refl _ _).grown hgrow (Nat.le_refl _) (fun g hg => by cases hg)
  have HB := Lib.hid hb
  clear hb hown hgrow
  refine wp_loop_rounds 1 ?_
  rw [rounds_succ]
  go_wp2
  refine bodyPost_ret (results_tmp rfl _ _ _) rfl ?_
  exact ⟨_, rfl, SI.nil _ (Nat.le_refl _) _ _, HB.out⟩
set_option maxHeartbeats 400000 in
theorem toI64_si (v : Value) (Z : List Int) (w : World) (hv : IL w v Z) (hn : Z.length ≤ 1048576) :
    Calls Try.prog 16 #[v] w (Made (Value.int .i64) 0 Z w) := by
  obtain ⟨i0, hi, hz0, hz1, hz2⟩ := info_parts Try.infoI
  rcases hv with ⟨rfl, ao, cap, rfl⟩ | ⟨b, off, cap, rfl, hpos, hbl, hcell⟩
  · exact toI64_zero ao cap w
  · go_enter Try.func16, Try.ntmps16
    go_wp2_with (at_make; refine wpList_make_full _ rfl _ _ 25 rfl w.heap.size 2 i0 (.int .i64 0) 1 Try.underlying25 hi hz0 hz1 _ _ _ _ Z.length rfl rfl rfl rfl (by rw [hz2]; omega) (by unfold maxLen; omega) (Nat.le_refl _) ?_; intro w1 hown hgrow)
    have h0 : CopyingI w Z 0 w1 := ⟨⟨_, hown, fun i hi => by omega⟩, (Below.refl _ _).grown hgrow (Nat.le_refl _) (fun g hg => by cases hg)⟩
    clear hown hgrow
    go_loopw [4] (fun i wr => ∃ k : Nat, k ≤ Z.length ∧ i = .int .i64 k ∧ CopyingI w Z k wr) (fun i _ => Z.length - (intOf i).toNat)
    case atStart => exact ⟨0, Nat.zero_le _, rfl, h0⟩
    case round =>
      clear h0
      obtain ⟨k, hk, rfl, hO, hnx⟩ := hrel
      by_cases hlt : k < Z.length
      · have hc1 : wr.cell? ⟨b, off + k, none⟩ = some (.int .i64 (Z.getD k 0)) := by rw [hnx.cell (p := ⟨b, off + k, none⟩) hbl]; exact hcell k hlt
        obtain ⟨v0, hv0⟩ := hO.cell hlt
        have hfz := hO.free k
        have hO2 := Lib.hid (hO.step hlt)
        have hnx2 := Lib.hid (fun u => hnx.setCell (p := ⟨w.heap.size, k, none⟩) (Nat.le_refl _) u)
        clear hO hnx
        go_wp2
        go_roundw
        case rel => exact ⟨k + 1, by omega, by go_num, by have h := hO2.out; rw [getDI hlt] at h; exact h, hnx2.out _⟩
        case measure => simp [intOf]; omega
      · obtain rfl : k = Z.length := by omega
        have hr := Lib.hid hO.si
        have hb := Lib.hid hnx
        clear hO hnx
        go_wp2
        refine bodyPost_ret (results_tmp rfl _ _ _) rfl ?_
        exact ⟨_, rfl, hr.out, hb.out⟩

/-- What a list of n holds behind its marksI from k on. -/
def marksI (k : Int) (n : Nat) : List Int := (List.range n).map fun i => (k + (i : Nat))
theorem marksI_len (k : Int) (n : Nat) : (marksI k n).length = n := by simp [marksI]
theorem marksI_at {k : Int} {n i : Nat} (h : i < n) : (marksI k n).getD i 0 = (k + (i : Nat)) := by simp [marksI, List.getD, h]

/-- The first j of Z's cells bear marks. -/
structure MarkingI (b off : Nat) (Z : List Int) (k : Int) (w : World) (j : Nat) (wr : World) : Prop where
  done : ∀ i, i < j → wr.cell? ⟨b, off + i, none⟩ = some (.int .i64 ((k + (i : Nat))))
  rest : ∀ i, i < Z.length → ∃ u, wr.cell? ⟨b, off + i, none⟩ = some u
  free : ∀ i, wr.frozen? ⟨b, i, none⟩ = false
  turned : Turned b (b + 1) w wr
theorem MarkingI.step {b off : Nat} {Z : List Int} {k : Int} {w wr : World} {j : Nat} (h : MarkingI b off Z k w j wr) (hj : j < Z.length) : MarkingI b off Z k w (j + 1) (wr.setCell ⟨b, off + j, none⟩ (.int .i64 ((k + (j : Nat))))) := by
  obtain ⟨u, hu⟩ := h.rest j hj
  refine ⟨fun i hi => ?_, fun i hi => ?_, fun i => by rw [World.frozen?_setCell]; exact h.free i, h.turned.setCell (Nat.le_refl _) (Nat.lt_succ_self _) _⟩
  · by_cases e : i = j
    · subst e; exact World.cell?_setCell_same _ _ _ hu
    · rw [World.cell?_setCell_other _ _ _ _ (by intro h; injection h with _ h2 _; omega)]; exact h.done i (by omega)
  · by_cases e : i = j
    · subst e; exact ⟨_, World.cell?_setCell_same _ _ _ hu⟩
    · rw [World.cell?_setCell_other _ _ _ _ (by intro h; injection h with _ h2 _; omega)]; exact h.rest i hi

/-- What marking a list does. -/
def MarkedI (lo hi : Nat) (v : Value) (k : Int) (n : Nat) (w : World) (e : Ending) (w' : World) : Prop := e = .returned (.int .i64 (k + (n : Nat))) ∧ II lo hi w' v (marksI k n) ∧ Turned lo hi w w'

set_option maxHeartbeats 400000 in
theorem markI64_any (lo hi : Nat) (v : Value) (Z : List Int) (k : Int) (w : World) (hv : II lo hi w v Z) (hn : Z.length ≤ 1048576) (hk0 : 0 ≤ k) (hk1 : k ≤ 1099511627776) :
    Calls Try.prog 21 #[v, .int .i64 k] w (MarkedI lo hi v k Z.length w) := by
  obtain ⟨hhi, ⟨rfl, ao, cap, rfl⟩ | ⟨b, off, cap, rfl, hpos, hlo, hbh, hfz, hcell⟩⟩ := hv
  · go_enter Try.func21, Try.ntmps21
    go_wp2
    refine wp_loop_rounds 1 ?_
    rw [rounds_succ]
    go_wp2
    go_ret
    exact ⟨by simp, SI.nil _ hhi _ _, Turned.refl _ _ _⟩
  · have h0 : MarkingI b off Z k w 0 w := ⟨fun i hi => by omega, fun i hi => ⟨_, hcell i hi⟩, hfz, Turned.refl _ _ _⟩
    clear hfz hcell
    go_enter Try.func21, Try.ntmps21
    go_wp2
    go_loopw [1, 5] (fun kk i wr => ∃ j : Nat, j ≤ Z.length ∧ i = .int .i64 j ∧ kk = .int .i64 (k + (j : Nat)) ∧ MarkingI b off Z k w j wr) (fun _ i _ => Z.length - (intOf i).toNat)
    case atStart => exact ⟨0, Nat.zero_le _, rfl, by simp, h0⟩
    case round =>
      clear h0
      obtain ⟨j, hj, rfl, rfl, hM⟩ := hrel
      by_cases hlt : j < Z.length
      · obtain ⟨u, hu⟩ := hM.rest j hlt
        have hf := hM.free (off + j)
        have hM2 := Lib.hid (hM.step hlt)
        clear hM
        go_wp2
        go_roundw
        case rel => exact ⟨j + 1, by omega, by go_num, by go_num, hM2.out⟩
        case measure => simp [intOf]; omega
      · obtain rfl : j = Z.length := by omega
        have hM2 := Lib.hid hM
        clear hM
        go_wp2
        go_ret
        have hM := hM2.out
        have ht : Turned lo hi w _ := hM.turned.wide hlo hbh
        exact ⟨rfl, ⟨Nat.le_trans hhi ht.size, Or.inr ⟨b, off, cap, by rw [marksI_len], by rw [marksI_len]; exact hpos, hlo, hbh, hM.free, fun i hi => by rw [marksI_len] at hi; rw [marksI_at hi]; exact hM.done i hi⟩⟩, ht⟩

set_option maxHeartbeats 400000 in
theorem heldI64_any (v : Value) (k : Int) (n : Nat) (w : World) (hv : IL w v (marksI k n)) (hn : n ≤ 1048576) (hk0 : 0 ≤ k) (hk1 : k ≤ 1099511627776) :
    Calls Try.prog 22 #[v, .int .i64 k] w fun e w' => e = .returned (.int .i64 (k + (n : Nat))) ∧ w = w' := by
  rcases hv with ⟨h0, ao, cap, rfl⟩ | ⟨b, off, cap, rfl, hpos, hbl, hcell⟩
  · have hn0 : n = 0 := by have := marksI_len k n; rw [h0] at this; simpa using this.symm
    subst hn0
    clear h0
    go_enter Try.func22, Try.ntmps22
    go_wp2
    refine wp_loop_rounds 1 ?_
    rw [rounds_succ]
    go_wp2
    go_ret
    exact ⟨by simp, rfl⟩
  · rw [marksI_len] at hpos hcell ⊢
    go_enter Try.func22, Try.ntmps22
    go_wp2
    go_loop [1, 5] (fun kk i => ∃ j : Nat, j ≤ n ∧ i = .int .i64 j ∧ kk = .int .i64 (k + (j : Nat))) (fun _ i => n - (intOf i).toNat)
    case atStart => exact ⟨0, Nat.zero_le _, rfl, by simp⟩
    case round =>
      obtain ⟨j, hj, rfl, rfl⟩ := hrel
      by_cases hlt : j < n
      · have hc1 := hcell j hlt
        rw [marksI_at hlt] at hc1
        clear hcell
        go_wp2
        go_round
        case rel => exact ⟨j + 1, by omega, by go_num, by go_num⟩
        case measure => simp [intOf]; omega
      · obtain rfl : j = n := by omega
        clear hcell
        go_wp2
        go_ret
        exact ⟨rfl, rfl⟩

set_option maxHeartbeats 400000 in
theorem eqI64_num (b1 off1 cap1 b2 off2 cap2 : Nat) (Z : List Int) (w : World) (hn : Z.length ≤ 1048576) (hc1 : ∀ i, i < Z.length → w.cell? ⟨b1, off1 + i, none⟩ = some (.int .i64 (Z.getD i 0))) (hc2 : ∀ i, i < Z.length → w.cell? ⟨b2, off2 + i, none⟩ = some (.int .i64 (Z.getD i 0))) :
    Calls Try.prog 18 #[.slice (some ⟨b1, off1, none⟩) Z.length cap1, .slice (some ⟨b2, off2, none⟩) Z.length cap2] w fun e w' => e = .returned (.bool true) ∧ ∃ n, w' = w.drewN n := by
  go_enter Try.func18, Try.ntmps18
  go_wp2
  go_loopw [5] (fun i wr => ∃ k : Nat, k ≤ Z.length ∧ i = .int .i64 k ∧ ∃ n, wr = w.drewN n) (fun i _ => Z.length - (intOf i).toNat)
  case atStart => exact ⟨0, Nat.zero_le _, rfl, 0, rfl⟩
  case round =>
    obtain ⟨k, hk, rfl, hwr⟩ := hrel
    by_cases hlt : k < Z.length
    · have c1 : wr.cell? ⟨b1, off1 + k, none⟩ = some (.int .i64 (Z.getD k 0)) := by obtain ⟨n, rfl⟩ := hwr; exact hc1 k hlt
      have c2 : wr.cell? ⟨b2, off2 + k, none⟩ = some (.int .i64 (Z.getD k 0)) := by obtain ⟨n, rfl⟩ := hwr; exact hc2 k hlt
      have HW : Hid (∀ m, ∃ n, wr.drewN m = w.drewN n) := Lib.hid (fun m => by obtain ⟨n, rfl⟩ := hwr; exact ⟨n + m, World.drewN_drewN _ _ _⟩)
      clear hc1 hc2 hwr
      rw [getDI hlt] at c1 c2
      generalize Z[k] = z at c1 c2
      go_wp2
      go_quiet (fail)
      go_wp2
      go_roundw
      case rel => exact ⟨k + 1, by omega, by go_num, HW.out _⟩
      case measure => simp [intOf]; omega
    · obtain rfl : k = Z.length := by omega
      have HW := Lib.hid hwr
      clear hc1 hc2 hwr
      go_wp2
      go_ret
      exact ⟨rfl, HW.out⟩
theorem eqI64_any (v1 v2 : Value) (Z : List Int) (w : World) (hn : Z.length ≤ 1048576) (h1 : IL w v1 Z) (h2 : IL w v2 Z) :
    Calls Try.prog 18 #[v1, v2] w fun e w' => e = .returned (.bool true) ∧ ∃ n, w' = w.drewN n := by
  rcases h1 with ⟨rfl, ao, cap, rfl⟩ | ⟨b, off, cap, rfl, hpos, hbl, hcell⟩
  · rcases h2 with ⟨_, ao2, cap2, rfl⟩ | ⟨b2, off2, cap2, rfl, hpos2, hbl2, hcell2⟩
    · go_enter Try.func18, Try.ntmps18
      go_wp2
      refine wp_loop_rounds 1 ?_
      rw [rounds_succ]
      go_wp2
      go_ret
      exact ⟨rfl, 0, rfl⟩
    · exact absurd hpos2 (by simp)
  · rcases h2 with ⟨rfl, ao2, cap2, rfl⟩ | ⟨b2, off2, cap2, rfl, hpos2, hbl2, hcell2⟩
    · exact absurd hpos (by simp)
    · exact eqI64_num _ _ _ _ _ _ Z w hn hcell hcell2
theorem quiet_below' {w w' : World} (h : ∃ n, w' = w.drewN n) : Below w.heap.size w w' := by
  obtain ⟨n, rfl⟩ := h
  exact below_drewN (Below.refl _ _) n
theorem eqI64_says (v u : Value) (Z : List Int) (w : World) (hn : Z.length ≤ 1048576) (h1 : IL w v Z) (h2 : IL w u Z) : Calls Try.prog 18 #[v, u] w fun e w' => e = .returned (.bool true) ∧ Below w.heap.size w w' :=
  (eqI64_any v u Z w hn h1 h2).mono fun _ _ ⟨h1, h2⟩ => ⟨h1, quiet_below' h2⟩
theorem heldI64_says (v : Value) (k : Int) (n : Nat) (w : World) (hv : IL w v (marksI k n)) (hn : n ≤ 1048576) (hk0 : 0 ≤ k) (hk1 : k ≤ 1099511627776) :
    Calls Try.prog 22 #[v, .int .i64 k] w fun e w' => e = .returned (.int .i64 (k + (n : Nat))) ∧ Below w.heap.size w w' :=
  (heldI64_any v k n w hv hn hk0 hk1).mono fun _ _ ⟨h1, h2⟩ => ⟨h1, by rw [← h2]; exact Below.refl _ _⟩
theorem IL.long {w : World} {v : Value} {Z : List Int} (h : IL w v Z) : ∃ ao cap, v = .slice ao Z.length cap := VL.len h
theorem IL.below {w w' : World} {v : Value} {Z : List Int} (h : IL w v Z) {B : Nat} (hb : Below B w w') (hB : w.heap.size ≤ B) : IL w' v Z := VL.below h hb hB
theorem II.wide' {lo lo' hi : Nat} {w : World} {v : Value} {Z : List Int} (h : II lo hi w v Z) (h1 : lo' ≤ lo) : II lo' hi w v Z := SI.wide h h1 (Nat.le_refl _) h.1
theorem II.below' {lo hi : Nat} {w w' : World} {v : Value} {Z : List Int} (h : II lo hi w v Z) {B : Nat} (hb : Below B w w') (hB : w.heap.size ≤ B) : II lo hi w' v Z := SI.below h hb hB
theorem II.kept' {lo hi lo2 hi2 : Nat} {w w' : World} {v : Value} {Z : List Int} (h : II lo hi w v Z) (ht : Turned lo2 hi2 w w') (hs : hi ≤ lo2 ∨ hi2 ≤ lo) : II lo hi w' v Z := SI.kept h ht hs
theorem II.len' {lo hi : Nat} {w : World} {v : Value} {Z : List Int} (h : II lo hi w v Z) : ∃ ao cap, v = .slice ao Z.length cap := SI.len h
end Go.Proofs.Ytnakpfbeeekmiaa
/- Boxes of structs: what their cells hold, and what keeps it. -/
namespace Go.Proofs.Ytnakpfbeeekmiaa
open Go.RowKit Go.ChangeShapes Go.WideShapes

theorem keep_cell {B : Nat} {w w' : World} {g o : Nat} {v : Value} (h : w.cell? ⟨g, o, none⟩ = some v) (hb : Below B w w') (hg : g < B) : w'.cell? ⟨g, o, none⟩ = some v := by
  rw [hb.cell (p := ⟨g, o, none⟩) hg]; exact h
structure Box2 (w : World) (g : Nat) (a b : Value) : Prop where
  c0 : w.cell? ⟨g, 0, none⟩ = some a
  c1 : w.cell? ⟨g, 1, none⟩ = some b
structure Box3 (w : World) (g : Nat) (a b c : Value) : Prop where
  c0 : w.cell? ⟨g, 0, none⟩ = some a
  c1 : w.cell? ⟨g, 1, none⟩ = some b
  c2 : w.cell? ⟨g, 2, none⟩ = some c
structure Box4 (w : World) (g : Nat) (a b c d : Value) : Prop where
  c0 : w.cell? ⟨g, 0, none⟩ = some a
  c1 : w.cell? ⟨g, 1, none⟩ = some b
  c2 : w.cell? ⟨g, 2, none⟩ = some c
  c3 : w.cell? ⟨g, 3, none⟩ = some d
theorem Box2.keep {B : Nat} {w w' : World} {g : Nat} {a b : Value} (h : Box2 w g a b) (hb : Below B w w') (hg : g < B) : Box2 w' g a b := ⟨keep_cell h.c0 hb hg, keep_cell h.c1 hb hg⟩
theorem Box3.keep {B : Nat} {w w' : World} {g : Nat} {a b c : Value} (h : Box3 w g a b c) (hb : Below B w w') (hg : g < B) : Box3 w' g a b c := ⟨keep_cell h.c0 hb hg, keep_cell h.c1 hb hg, keep_cell h.c2 hb hg⟩
theorem Box4.keep {B : Nat} {w w' : World} {g : Nat} {a b c d : Value} (h : Box4 w g a b c d) (hb : Below B w w') (hg : g < B) : Box4 w' g a b c d := ⟨keep_cell h.c0 hb hg, keep_cell h.c1 hb hg, keep_cell h.c2 hb hg, keep_cell h.c3 hb hg⟩
theorem Box2.mk' (w : World) (a b : Value) (T : TypeId) : Box2 (w.alloc (.cells #[a, b] T)) w.heap.size a b := ⟨World.cell?_alloc_new _ _ _ _, World.cell?_alloc_new _ _ _ _⟩
theorem Box3.mk' (w : World) (a b c : Value) (T : TypeId) : Box3 (w.alloc (.cells #[a, b, c] T)) w.heap.size a b c := ⟨World.cell?_alloc_new _ _ _ _, World.cell?_alloc_new _ _ _ _, World.cell?_alloc_new _ _ _ _⟩
theorem Box4.mk' (w : World) (a b c d : Value) (T : TypeId) : Box4 (w.alloc (.cells #[a, b, c, d] T)) w.heap.size a b c d := ⟨World.cell?_alloc_new _ _ _ _, World.cell?_alloc_new _ _ _ _, World.cell?_alloc_new _ _ _ _, World.cell?_alloc_new _ _ _ _⟩
theorem cell_block {w : World} {b o : Nat} {v : Value} (h : w.cell? ⟨b, o, none⟩ = some v) : b < w.heap.size := by
  rcases Nat.lt_or_ge b w.heap.size with h1 | h1
  · exact h1
  · exfalso
    have hn : w.heap[b]? = none := by simp [h1]
    simp [World.cell?, hn] at h
theorem Box2.lt {w : World} {g : Nat} {a b : Value} (h : Box2 w g a b) : g < w.heap.size := cell_block h.c0
theorem Box3.lt {w : World} {g : Nat} {a b c : Value} (h : Box3 w g a b c) : g < w.heap.size := cell_block h.c0
theorem Box4.lt {w : World} {g : Nat} {a b c d : Value} (h : Box4 w g a b c d) : g < w.heap.size := cell_block h.c0
end Go.Proofs.Ytnakpfbeeekmiaa
/- What the walks over integers need: answers, bounds, boxes, how lists of integers come in. -/
namespace Go.Proofs.Ytnakpfbeeekmiaa
open Go.RowKit Go.ChangeShapes Go.WideShapes

/-- A call that only reads and draws, and answers so. -/
def Tells (b : Bool) (w : World) (e : Ending) (w' : World) : Prop := e = .returned (.bool b) ∧ ∃ n, w' = w.drewN n
theorem Tells.below {b : Bool} {w w' : World} {e : Ending} (h : Tells b w e w') : e = .returned (.bool b) ∧ Below w.heap.size w w' := by
  obtain ⟨h1, n, rfl⟩ := h
  exact ⟨h1, below_drewN (Below.refl _ _) n⟩
theorem tells {b c : Bool} {w : World} (n : Nat) (h : b = c) : Tells c w (.returned (.bool b)) (w.drewN n) := ⟨by rw [h], n, rfl⟩
theorem tells2 {b c : Bool} {w : World} (n m : Nat) (h : b = c) : Tells c w (.returned (.bool b)) ((w.drewN n).drewN m) := ⟨by rw [h], _, World.drewN_drewN _ _ _⟩
/-- A call that answers so, and lets the old memory be. -/
def Says (b : Bool) (w : World) (e : Ending) (w' : World) : Prop := e = .returned (.bool b) ∧ Below w.heap.size w w'
theorem says {b c : Bool} {w w' : World} (h : b = c) (k : Below w.heap.size w w') : Says c w (.returned (.bool b)) w' := ⟨by rw [h], k⟩
theorem Tells.says {b : Bool} {w w' : World} {e : Ending} (h : Tells b w e w') : Says b w e w' := h.below
theorem ret_bool {a b : Bool} (h : a = b) : Ending.returned (.bool a) = .returned (.bool b) := by rw [h]
theorem ret_ib {a b : Int} {c : Bool} (h : a = b) : Ending.returned (.tuple #[.int .i64 a, .bool c]) = .returned (.tuple #[.int .i64 b, .bool c]) := by rw [h]
/-- A call that answers a number, and lets the old memory be. -/
def SaysI (n : Int) (w : World) (e : Ending) (w' : World) : Prop := e = .returned (.int .i64 n) ∧ Below w.heap.size w w'
/-- A number and a bool. -/
def SaysIB (n : Int) (b : Bool) (w : World) (e : Ending) (w' : World) : Prop := e = .returned (.tuple #[.int .i64 n, .bool b]) ∧ Below w.heap.size w w'
/-- A list and a bool; a list, a number and a bool. -/
def SaysJB (Z : List Int) (b : Bool) (w : World) (e : Ending) (w' : World) : Prop := ∃ v, e = .returned (.tuple #[v, .bool b]) ∧ II w.heap.size w'.heap.size w' v Z ∧ Below w.heap.size w w'
def SaysJIB (Z : List Int) (n : Int) (b : Bool) (w : World) (e : Ending) (w' : World) : Prop := ∃ v, e = .returned (.tuple #[v, .int .i64 n, .bool b]) ∧ II w.heap.size w'.heap.size w' v Z ∧ Below w.heap.size w w'
theorem keep_cell' {lo hi : Nat} {w w' : World} {g o : Nat} {v : Value} (h : w.cell? ⟨g, o, none⟩ = some v) (ht : Turned lo hi w w') (hg : g < lo ∨ hi ≤ g) : w'.cell? ⟨g, o, none⟩ = some v := by
  rw [World.cell?_of_block (w := w) (a := ⟨g, o, none⟩) (ht.block g (cell_block h) hg)]; exact h
theorem Box2.kept {lo hi : Nat} {w w' : World} {g : Nat} {a b : Value} (h : Box2 w g a b) (ht : Turned lo hi w w') (hg : g < lo ∨ hi ≤ g) : Box2 w' g a b := ⟨keep_cell' h.c0 ht hg, keep_cell' h.c1 ht hg⟩
/-- A list of integers as it comes in. -/
def FitI (Z : List Int) : Prop := Z.length ≤ maxLen ∧ ∀ x ∈ Z, -9223372036854775808 ≤ x ∧ x ≤ 9223372036854775807
structure OKI (Z : List Int) : Prop where
  size : Z.length ≤ 1048576
  fit : FitI Z
set_option maxRecDepth 100000 in
theorem open_i64s {H : Type} {enc : TypeId × Value → H} {w : World} {v : Value} {d : DataW H} {ps : List MemPlace} {b0 : Nat}
    (hval : Value.okWide Try.prog w .any b0 25 v) (hd : DataW.Trod enc Try.prog w 0 (fun _ => true) true 25 v d ps) : ∃ Z : List Int, IL w v Z ∧ FitI Z := by
  have hc : Try.prog.cellsOf 2 = 1 := by kernel_rfl
  obtain ⟨a0, len, cap, rfl⟩ := okWide_slice Try.underlying25 hval
  obtain ⟨fuel, hf⟩ := hd
  obtain ⟨Z, hZ, lZ, fZ⟩ := open_vl (d := (0 : Int)) Try.underlying25 hc _ (one_i64 Try.underlying2) hf
  exact ⟨Z, hZ, lZ, fZ⟩
theorem inI {Z : List Int} (h : ∀ x ∈ Z, -9223372036854775808 ≤ x ∧ x ≤ 9223372036854775807) (k : Nat) : -9223372036854775808 ≤ Z.getD k 0 ∧ Z.getD k 0 ≤ 9223372036854775807 := by
  by_cases hk : k < Z.length
  · rw [getDI hk]; exact h _ (List.getElem_mem hk)
  · simp [List.getD, List.getElem?_eq_none (Nat.le_of_not_lt hk)]

theorem l00In_is (t : Bool) (n lo hi : Int) (w : World) (h : (decide (lo ≤ n) && decide (n ≤ hi)) = t) : Calls Try.prog 78 #[.int .i64 n, .int .i64 lo, .int .i64 hi] w (Tells t w) := by
  subst h
  by_cases h1 : lo ≤ n
  · by_cases h2 : n ≤ hi
    · rw [decide_eq_true h1, decide_eq_true h2]
      go_enter Try.func78, Try.ntmps78
      go_wp2
      go_ret
      exact tells 0 (by simp)
    · rw [decide_eq_true h1, decide_eq_false h2]
      go_enter Try.func78, Try.ntmps78
      go_wp2
      go_ret
      exact tells 0 (by simp)
  · rw [decide_eq_false h1]
    go_enter Try.func78, Try.ntmps78
    go_wp2
    go_ret
    exact tells 0 (by simp)
theorem isFrom_is (t : Bool) (n lo hi : Int) (w : World) (h : (decide (lo ≤ n) && decide (n ≤ hi)) = t) : Calls Try.prog 56 #[.int .i64 lo, .int .i64 n, .int .i64 hi] w (Tells t w) := by
  subst h
  by_cases h1 : lo ≤ n
  · by_cases h2 : n ≤ hi
    · rw [decide_eq_true h1, decide_eq_true h2]
      go_enter Try.func56, Try.ntmps56
      go_wp2
      go_ret
      exact tells 0 (by simp)
    · rw [decide_eq_true h1, decide_eq_false h2]
      go_enter Try.func56, Try.ntmps56
      go_wp2
      go_ret
      exact tells 0 (by simp)
  · rw [decide_eq_false h1]
    go_enter Try.func56, Try.ntmps56
    go_wp2
    go_ret
    exact tells 0 (by simp)
end Go.Proofs.Ytnakpfbeeekmiaa
/- Lists of lists of integers: how they read, in which blocks they lie, how they come in. -/
namespace Go.Proofs.Ytnakpfbeeekmiaa
open Go.RowKit Go.ChangeShapes Go.WideShapes

theorem Try.infoL : (Try.prog.info? 25).map (fun i => (i.zero, i.size, i.bytes)) = some (some (.slice none 0 0), 1, 24) := by kernel_rfl

abbrev vnil : Value := .slice none 0 0
/-- A list of integers that lies in block g, and may be written; an empty one lies anywhere. -/
def IB (g : Nat) (w : World) (u : Value) (Z : List Int) : Prop :=
  (Z = [] ∧ ∃ ao cap, u = .slice ao 0 cap) ∨
  (∃ off cap, u = .slice (some ⟨g, off, none⟩) Z.length (Z.length + cap) ∧ 0 < Z.length ∧ g < w.heap.size ∧ (∀ i, w.frozen? ⟨g, i, none⟩ = false) ∧ ∀ i, i < Z.length → w.cell? ⟨g, off + i, none⟩ = some (.int .i64 (Z.getD i 0)))
theorem IB.il {g : Nat} {w : World} {u : Value} {Z : List Int} (h : IB g w u Z) : IL w u Z := by
  rcases h with h | ⟨off, cap, h1, h2, h3, h4, h5⟩
  · exact Or.inl h
  · exact Or.inr ⟨g, off, cap, h1, h2, h3, h5⟩
theorem IB.ii {g lo hi : Nat} {w : World} {u : Value} {Z : List Int} (h : IB g w u Z) (h1 : Z = [] ∨ (lo ≤ g ∧ g < hi)) (h2 : hi ≤ w.heap.size) : II lo hi w u Z := by
  rcases h with ⟨e, ao, cap, rfl⟩ | ⟨off, cap, rfl, k2, k3, k4, k5⟩
  · subst e
    exact SI.nil _ h2 _ _
  · have h3 : lo ≤ g ∧ g < hi := by
      rcases h1 with h1 | h1
      · subst h1; simp at k2
      · exact h1
    exact ⟨h2, Or.inr ⟨g, off, cap, rfl, k2, h3.1, h3.2, k4, k5⟩⟩
theorem IB.keep {g : Nat} {w w' : World} {u : Value} {Z : List Int} (h : IB g w u Z) (hs : w.heap.size ≤ w'.heap.size) (hb : 0 < Z.length → g < w.heap.size → w'.heap[g]? = w.heap[g]?) : IB g w' u Z := by
  rcases h with h | ⟨off, cap, rfl, k2, k3, k4, k5⟩
  · exact Or.inl h
  · have hk := hb k2 k3
    exact Or.inr ⟨off, cap, rfl, k2, by omega, fun i => by rw [World.frozen?_of_block (w := w) (a := ⟨g, i, none⟩) hk]; exact k4 i, fun i hi => by rw [World.cell?_of_block (w := w) (a := ⟨g, off + i, none⟩) hk]; exact k5 i hi⟩
theorem IB.kept {g lo hi : Nat} {w w' : World} {u : Value} {Z : List Int} (h : IB g w u Z) (ht : Turned lo hi w w') (hg : Z = [] ∨ g < lo ∨ hi ≤ g) : IB g w' u Z :=
  h.keep ht.size fun hp hl => ht.block g hl (by rcases hg with e | e; · subst e; simp at hp
                                                · exact e)
theorem IB.below {g B : Nat} {w w' : World} {u : Value} {Z : List Int} (h : IB g w u Z) (hb : Below B w w') (hB : w.heap.size ≤ B) : IB g w' u Z :=
  h.keep hb.size fun _ hl => hb.block g (by omega)
theorem II.ib {lo hi : Nat} {w : World} {u : Value} {Z : List Int} (h : II lo hi w u Z) : ∃ g, IB g w u Z ∧ (Z = [] ∨ (lo ≤ g ∧ g < hi)) := by
  obtain ⟨h0, ⟨rfl, ao, cap, rfl⟩ | ⟨b, off, cap, rfl, k2, k3, k4, k5, k6⟩⟩ := h
  · exact ⟨0, Or.inl ⟨rfl, _, _, rfl⟩, Or.inl rfl⟩
  · exact ⟨b, Or.inr ⟨off, cap, rfl, k2, by omega, k5, k6⟩, Or.inr ⟨k3, k4⟩⟩

/-- A slice value that reads as a list of lists. -/
def LV (w : World) (v : Value) (C : List (List Int)) : Prop :=
  (C = [] ∧ ∃ ao cap, v = .slice ao 0 cap) ∨
  (∃ b off cap, ∃ U : Nat → Value, v = .slice (some ⟨b, off, none⟩) C.length (C.length + cap) ∧ 0 < C.length ∧ b < w.heap.size ∧ ∀ i, i < C.length → w.cell? ⟨b, off + i, none⟩ = some (U i) ∧ IL w (U i) (C.getD i []))
/-- .. that lies in blocks from lo on, below hi, each list in one of its own, all of which may be written. -/
def LD (lo hi : Nat) (w : World) (v : Value) (C : List (List Int)) : Prop :=
  hi ≤ w.heap.size ∧ ((C = [] ∧ ∃ ao cap, v = .slice ao 0 cap) ∨
  (∃ b off cap, ∃ U : Nat → Value, ∃ G : Nat → Nat, v = .slice (some ⟨b, off, none⟩) C.length (C.length + cap) ∧ 0 < C.length ∧ lo ≤ b ∧ b < hi ∧ (∀ i, w.frozen? ⟨b, i, none⟩ = false) ∧
    (∀ i, i < C.length → w.cell? ⟨b, off + i, none⟩ = some (U i) ∧ IB (G i) w (U i) (C.getD i []) ∧ (C.getD i [] = [] ∨ (lo ≤ G i ∧ G i < hi ∧ G i ≠ b))) ∧
    ∀ i j, i < j → j < C.length → C.getD i [] = [] ∨ C.getD j [] = [] ∨ G i ≠ G j))
theorem LD.lv {lo hi : Nat} {w : World} {v : Value} {C : List (List Int)} (h : LD lo hi w v C) : LV w v C := by
  obtain ⟨h0, h | ⟨b, off, cap, U, G, h1, h2, h3, h4, h5, h6, h7⟩⟩ := h
  · exact Or.inl h
  · exact Or.inr ⟨b, off, cap, U, h1, h2, by omega, fun i hi => ⟨(h6 i hi).1, (h6 i hi).2.1.il⟩⟩
theorem LV.below {w w' : World} {v : Value} {C : List (List Int)} (h : LV w v C) {B : Nat} (hb : Below B w w') (hB : w.heap.size ≤ B) : LV w' v C := by
  rcases h with h | ⟨b, off, cap, U, h1, h2, h3, h4⟩
  · exact Or.inl h
  · exact Or.inr ⟨b, off, cap, U, h1, h2, Nat.lt_of_lt_of_le h3 hb.size, fun i hi => ⟨by rw [hb.cell (p := ⟨b, off + i, none⟩) (by show b < B; omega)]; exact (h4 i hi).1, (h4 i hi).2.below hb hB⟩⟩
theorem LV.drewN {w : World} {v : Value} {C : List (List Int)} (h : LV w v C) (n : Nat) : LV (w.drewN n) v C := h
theorem LV.long {w : World} {v : Value} {C : List (List Int)} (h : LV w v C) : ∃ ao cap, v = .slice ao C.length cap := by
  rcases h with ⟨rfl, ao, cap, rfl⟩ | ⟨b, off, cap, U, rfl, _⟩
  · exact ⟨ao, cap, rfl⟩
  · exact ⟨_, _, rfl⟩
theorem LD.len' {lo hi : Nat} {w : World} {v : Value} {C : List (List Int)} (h : LD lo hi w v C) : ∃ ao cap, v = .slice ao C.length cap := h.lv.long
theorem LD.nil {w : World} (lo : Nat) {hi : Nat} (h : hi ≤ w.heap.size) (ao : Option Addr) (cap : Nat) : LD lo hi w (.slice ao 0 cap) [] := ⟨h, Or.inl ⟨rfl, ao, cap, rfl⟩⟩
theorem LD.kept' {lo hi lo2 hi2 : Nat} {w w' : World} {v : Value} {C : List (List Int)} (h : LD lo hi w v C) (ht : Turned lo2 hi2 w w') (hs : hi ≤ lo2 ∨ hi2 ≤ lo) : LD lo hi w' v C := by
  obtain ⟨h0, h | ⟨b, off, cap, U, G, h1, h2, h3, h4, h5, h6, h7⟩⟩ := h
  · exact ⟨Nat.le_trans h0 ht.size, Or.inl h⟩
  · have hk := ht.block b (by omega) (by omega)
    refine ⟨Nat.le_trans h0 ht.size, Or.inr ⟨b, off, cap, U, G, h1, h2, h3, h4, fun i => by rw [World.frozen?_of_block (w := w) (a := ⟨b, i, none⟩) hk]; exact h5 i, fun i hi => ⟨by rw [World.cell?_of_block (w := w) (a := ⟨b, off + i, none⟩) hk]; exact (h6 i hi).1, (h6 i hi).2.1.kept ht ?_, (h6 i hi).2.2⟩, h7⟩⟩
    rcases (h6 i hi).2.2 with e | e
    · exact Or.inl e
    · right; omega
theorem LD.below' {lo hi B : Nat} {w w' : World} {v : Value} {C : List (List Int)} (h : LD lo hi w v C) (hb : Below B w w') (hB : w.heap.size ≤ B) : LD lo hi w' v C :=
  h.kept' (Turned.of_below (lo := hi) (hi := hi) hb hB) (Or.inl (Nat.le_refl _))
theorem LD.wide {lo hi lo' hi' : Nat} {w : World} {v : Value} {C : List (List Int)} (h : LD lo hi w v C) (k1 : lo' ≤ lo) (k2 : hi ≤ hi') (k3 : hi' ≤ w.heap.size) : LD lo' hi' w v C := by
  obtain ⟨h0, h | ⟨b, off, cap, U, G, h1, h2, h3, h4, h5, h6, h7⟩⟩ := h
  · exact ⟨k3, Or.inl h⟩
  · refine ⟨k3, Or.inr ⟨b, off, cap, U, G, h1, h2, by omega, by omega, h5, fun i hi => ⟨(h6 i hi).1, (h6 i hi).2.1, ?_⟩, h7⟩⟩
    rcases (h6 i hi).2.2 with e | ⟨e1, e2, e3⟩
    · exact Or.inl e
    · exact Or.inr ⟨by omega, by omega, e3⟩
theorem LD.wide' {lo lo' hi : Nat} {w : World} {v : Value} {C : List (List Int)} (h : LD lo hi w v C) (h1 : lo' ≤ lo) : LD lo' hi w v C := LD.wide h h1 (Nat.le_refl _) h.1
/-- A call that hands back a new list of lists. -/
def MadeL (C : List (List Int)) (w : World) (e : Ending) (w' : World) : Prop := ∃ v, e = .returned v ∧ LD w.heap.size w'.heap.size w' v C ∧ Below w.heap.size w w'

/-- How many integers the first k lists hold. -/
def totAt (C : List (List Int)) : Nat → Nat
  | 0 => 0
  | k + 1 => totAt C k + (C.getD k []).length
def szL (C : List (List Int)) : Nat := C.length + totAt C C.length
theorem totAt_le {C : List (List Int)} : ∀ {k n : Nat}, k ≤ n → totAt C k ≤ totAt C n
  | k, 0, h => by obtain rfl : k = 0 := by omega
                  exact Nat.le_refl _
  | k, n + 1, h => by
    rcases Nat.lt_or_ge n k with h1 | h1
    · obtain rfl : k = n + 1 := by omega
      exact Nat.le_refl _
    · exact Nat.le_trans (totAt_le h1) (by rw [totAt]; omega)
theorem szL_each {C : List (List Int)} {i : Nat} (h : i < C.length) : (C.getD i []).length ≤ szL C := by
  have := totAt_le (C := C) (k := i + 1) (n := C.length) h
  unfold szL
  rw [totAt] at this
  omega
theorem szL_len (C : List (List Int)) : C.length ≤ szL C := Nat.le_add_right _ _

/-- A list of lists as it comes in. -/
def FitL (C : List (List Int)) : Prop := C.length ≤ maxLen ∧ ∀ i, i < C.length → FitI (C.getD i [])
structure OKL (C : List (List Int)) : Prop where
  size : szL C ≤ 1048576
  fit : FitL C
theorem OKL.each {C : List (List Int)} (o : OKL C) {i : Nat} (h : i < C.length) : OKI (C.getD i []) := ⟨Nat.le_trans (szL_each h) o.size, o.fit.2 i h⟩
theorem OKL.len {C : List (List Int)} (o : OKL C) : C.length ≤ 1048576 := Nat.le_trans (szL_len C) o.size
theorem OKL.short {C : List (List Int)} (o : OKL C) (i : Nat) : (C.getD i []).length ≤ 1048576 := by
  by_cases h : i < C.length
  · exact (o.each h).size
  · simp [List.getD, List.getElem?_eq_none (Nat.le_of_not_lt h)]
theorem OKL.in {C : List (List Int)} (o : OKL C) (i j : Nat) : -9223372036854775808 ≤ (C.getD i []).getD j 0 ∧ (C.getD i []).getD j 0 ≤ 9223372036854775807 := by
  by_cases h : i < C.length
  · exact inI (o.fit.2 i h).2 j
  · simp [List.getD, List.getElem?_eq_none (Nat.le_of_not_lt h)]
set_option maxRecDepth 100000 in
theorem open_lv {H : Type} {enc : TypeId × Value → H} {w : World} {base : Nat} {held : Bool} {v : Value} {y : DataW H × List MemPlace} {fuel : Nat}
    (hf : DataW.trod enc Try.prog w base (fun _ => true) held fuel 22 [v] = some y) : ∃ C : List (List Int), LV w v C ∧ FitL C := by
  have hc : Try.prog.cellsOf 2 = 1 := by kernel_rfl
  have hc2 : Try.prog.cellsOf 25 = 1 := by kernel_rfl
  rcases Deep.open_slice1 Try.underlying22 hc2 hf with ⟨hcs, hx⟩ | ⟨a, len', cap', m, n, V, D, Pl, hcs, _, hl, hm, hmm, hx, hV⟩
  · simp only [List.cons.injEq, and_true] at hcs
    subst hcs
    exact ⟨[], Or.inl ⟨rfl, none, 0, rfl⟩, Nat.zero_le _, fun i hi => by simp at hi⟩
  · simp only [List.cons.injEq, and_true] at hcs
    subst hcs
    simp only [if_true] at hmm
    subst hmm
    have hcell : ∀ i, i < len' → ∃ Z : List Int, IL w (V i) Z ∧ FitI Z := fun i hi => by
      have h2 := (hV i (by omega)).2
      obtain ⟨Z, hZ, lZ, fZ⟩ := open_vl (d := (0 : Int)) Try.underlying25 hc _ (one_i64 Try.underlying2) h2
      exact ⟨Z, hZ, lZ, fZ⟩
    obtain ⟨z, hz⟩ := Deep.choose_lt (α := List Int) (p := fun i z => IL w (V i) z ∧ FitI z) hcell
    have hg : ∀ i, i < len' → ((List.range len').map z).getD i [] = z i := fun i hi => by simp [List.getD, hi]
    refine ⟨(List.range len').map z, ?_, ?_, fun i hi => ?_⟩
    · by_cases h0 : len' = 0
      · subst h0
        exact Or.inl ⟨rfl, _, _, rfl⟩
      · right
        obtain ⟨b, off, spot⟩ := a
        have hc0 := (hV 0 (by omega)).1
        have hspot : spot = none := by simpa [Addr.add] using World.cell?_spot hc0
        subst hspot
        refine ⟨b, off, m - len', V, by simp only [List.length_map, List.length_range]; rw [Nat.add_sub_cancel' hl], by simpa using (by omega : 0 < len'), cell_lt' hc0, fun i hi => ?_⟩
        have hi' : i < len' := by simpa using hi
        have h3 := (hV i (by omega)).1
        rw [Go.WideShapes.add_plain] at h3
        exact ⟨h3, by rw [hg i hi']; exact (hz i hi').1⟩
    · simp only [List.length_map, List.length_range]
      omega
    · have hi' : i < len' := by simpa using hi
      rw [hg i hi']
      exact (hz i hi').2
end Go.Proofs.Ytnakpfbeeekmiaa
/- Arrays of the call's own, of one-cell elements: what their cells hold; made, written, kept. -/
namespace Go.Proofs.Ytnakpfbeeekmiaa
open Go.RowKit Go.ChangeShapes Go.WideShapes

section
variable {α : Type} {mk : α → Value} {d : α}
/-- Block g holds, from off on, the list Z, and may be written. -/
structure Arr (mk : α → Value) (d : α) (w : World) (g off : Nat) (Z : List α) : Prop where
  cells : ∀ i, i < Z.length → w.cell? ⟨g, off + i, none⟩ = some (mk (Z.getD i d))
  free : ∀ i, w.frozen? ⟨g, i, none⟩ = false
theorem Arr.cell {w : World} {g off : Nat} {Z : List α} (h : Arr mk d w g off Z) {i : Nat} (hi : i < Z.length) : ∃ v, w.cell? ⟨g, off + i, none⟩ = some v := ⟨_, h.cells i hi⟩
theorem Arr.set {w : World} {g off : Nat} {Z : List α} (h : Arr mk d w g off Z) {i : Nat} (hi : i < Z.length) (x : α) : Arr mk d (w.setCell ⟨g, off + i, none⟩ (mk x)) g off (Z.set i x) := by
  refine ⟨fun j hj => ?_, fun j => by rw [World.frozen?_setCell]; exact h.free j⟩
  rw [List.length_set] at hj
  by_cases e : j = i
  · subst e
    rw [World.cell?_setCell_same _ _ _ (h.cells j hj)]
    simp [List.getD, hj]
  · rw [World.cell?_setCell_other _ _ _ _ (by intro hh; injection hh with _ h2 _; omega), h.cells j hj]
    rw [List.getD, List.getD, List.getElem?_set, if_neg (fun hh => e hh.symm)]
theorem Arr.set0 {w : World} {g : Nat} {Z : List α} (h : Arr mk d w g 0 Z) {i : Nat} (hi : i < Z.length) (x : α) : Arr mk d (w.setCell ⟨g, i, none⟩ (mk x)) g 0 (Z.set i x) := by
  have := h.set hi x
  rwa [Nat.zero_add] at this
theorem Arr.cell0 {w : World} {g : Nat} {Z : List α} (h : Arr mk d w g 0 Z) {i : Nat} (hi : i < Z.length) : w.cell? ⟨g, i, none⟩ = some (mk (Z.getD i d)) := by
  have := h.cells i hi
  rwa [Nat.zero_add] at this
theorem Arr.below {w w' : World} {g off B : Nat} {Z : List α} (h : Arr mk d w g off Z) (hb : Below B w w') (hg : g < B) : Arr mk d w' g off Z :=
  ⟨fun i hi => by rw [hb.cell (p := ⟨g, off + i, none⟩) hg]; exact h.cells i hi, fun i => by rw [hb.frozen (p := ⟨g, i, none⟩) hg]; exact h.free i⟩
theorem Arr.drewN {w : World} {g off : Nat} {Z : List α} (h : Arr mk d w g off Z) (n : Nat) : Arr mk d (w.drewN n) g off Z := ⟨h.cells, h.free⟩
theorem Arr.si {w : World} {g lo : Nat} {Z : List α} (h : Arr mk d w g 0 Z) (hl : lo ≤ g) (hg : g < w.heap.size) : SI mk d lo w.heap.size w (.slice (some ⟨g, 0, none⟩) Z.length Z.length) Z := by
  by_cases h0 : Z.length = 0
  · have : Z = [] := List.eq_nil_of_length_eq_zero h0
    subst this
    exact ⟨Nat.le_refl _, Or.inl ⟨rfl, _, _, rfl⟩⟩
  · exact ⟨Nat.le_refl _, Or.inr ⟨g, 0, 0, rfl, by omega, hl, hg, h.free, h.cells⟩⟩
end
theorem made_one (v : Value) (n : Nat) {j : Nat} (hj : j < n) : (madeCells v.cells (n * 1)).toList[j]? = some (v.cells.getD 0 undef) ∨ v.cells.size ≠ 1 := by
  by_cases h : v.cells.size = 1
  · left
    rw [Array.getElem?_toList]
    simp [madeCells, hj, h, Nat.mod_one]
  · exact Or.inr h
theorem Arr.made_f {w : World} {n B e : Nat} (h : w.ownsRow B e 1 (.slice (some ⟨B, 0, none⟩) n n) n (madeCells (Value.float .f32 0).cells (n * 1)).toList) : Arr (Value.float .f32) 0 w B 0 (List.replicate n 0) := by
  refine ⟨fun i hi => ?_, h.frozenAt⟩
  rw [List.length_replicate] at hi
  rw [Nat.zero_add, h.cellAt i (by omega)]
  rcases made_one (.float .f32 0) n hi with h1 | h1
  · rw [h1]; simp [Value.cells, List.getD, hi]
  · exact absurd rfl h1
theorem Arr.made_i {w : World} {n B e : Nat} (h : w.ownsRow B e 1 (.slice (some ⟨B, 0, none⟩) n n) n (madeCells (Value.int .i64 0).cells (n * 1)).toList) : Arr (Value.int .i64) 0 w B 0 (List.replicate n 0) := by
  refine ⟨fun i hi => ?_, h.frozenAt⟩
  rw [List.length_replicate] at hi
  rw [Nat.zero_add, h.cellAt i (by omega)]
  rcases made_one (.int .i64 0) n hi with h1 | h1
  · rw [h1]; simp [Value.cells, List.getD, hi]
  · exact absurd rfl h1
end Go.Proofs.Ytnakpfbeeekmiaa
/- Lists of lists of integers: sizes; copies; that copies are equal; marks. -/
namespace Go.Proofs.Ytnakpfbeeekmiaa
open Go.RowKit Go.ChangeShapes Go.WideShapes

theorem szI_yes (v : Value) (n : Nat) (m : Int) (w : World) (h : ∃ ao cap, v = .slice ao n cap) (hm : (n : Int) ≤ m) (hb : m ≤ 1048576) :
    Calls Try.prog 53 #[v, .int .i64 m] w fun e w' => e = .returned (.int .i64 (m - n)) ∧ w = w' := by
  obtain ⟨ao, cap, rfl⟩ := h
  go_enter Try.func53, Try.ntmps53
  go_wp2
  go_ret
  exact ⟨rfl, rfl⟩
theorem szI_no (v : Value) (n : Nat) (m : Int) (w : World) (h : ∃ ao cap, v = .slice ao n cap) (hm : m < n) (h0 : 0 ≤ m) (hb : m ≤ 1048576) (hn : n ≤ maxLen) :
    Calls Try.prog 53 #[v, .int .i64 m] w fun e w' => e = .returned (.int .i64 (-1)) ∧ w = w' := by
  obtain ⟨ao, cap, rfl⟩ := h
  unfold maxLen at hn
  go_enter Try.func53, Try.ntmps53
  go_wp2
  go_ret
  exact ⟨rfl, rfl⟩
theorem ret_mark1 {a b : Int} (h : a = b) : Ending.returned (.int .i64 a) = .returned (.int .i64 b) := by rw [h]
set_option maxHeartbeats 1000000 in
theorem szSS_yes (v : Value) (C : List (List Int)) (m : Int) (w : World) (hv : LV w v C) (hm : (szL C : Int) ≤ m) (hb : m ≤ 1048576) :
    Calls Try.prog 23 #[v, .int .i64 m] w fun e w' => e = .returned (.int .i64 (m - szL C)) ∧ w = w' := by
  have hm1 := hm
  unfold szL at hm1
  rw [Int.natCast_add] at hm1
  rcases hv with ⟨rfl, ao, cap, rfl⟩ | ⟨b, off, cap, U, rfl, hpos, hbl, hcell⟩
  · go_enter Try.func23, Try.ntmps23
    go_wp2
    refine wp_loop_rounds 1 ?_
    rw [rounds_succ]
    go_wp2
    go_ret
    exact ⟨by simp [szL, totAt], rfl⟩
  · have HC := Lib.hid hcell
    have hlen : (C.length : Int) ≤ m := by omega
    clear hcell
    go_enter Try.func23, Try.ntmps23
    go_wp2_with fail
    go_loop [1, 5] (fun l i => ∃ k : Nat, k ≤ C.length ∧ i = .int .i64 k ∧ l = .int .i64 (m - (C.length : Int) - (totAt C k : Int))) (fun _ i => C.length - (intOf i).toNat)
    case atStart => exact ⟨0, Nat.zero_le _, rfl, by simp [totAt]⟩
    case round =>
      obtain ⟨k, hk, rfl, rfl⟩ := hrel
      have ht := totAt_le (C := C) hk
      by_cases hlt : k < C.length
      · have ht1 := totAt_le (C := C) (k := k + 1) (n := C.length) hlt
        obtain ⟨c0, u0⟩ := HC.out k hlt
        have L0 := IL.long u0
        have HT : totAt C (k + 1) = totAt C k + (C.getD k []).length := rfl
        generalize (C.getD k []).length = n at L0 HT
        have HL := Lib.hid L0
        have HTT := Lib.hid HT
        obtain ⟨t, htt⟩ : ∃ t, t = totAt C k := ⟨_, rfl⟩
        rw [← htt]
        rw [HT, ← htt] at ht1
        rw [← htt] at HTT
        clear u0 L0 HT htt ht
        go_wp2_with fail
        go_at_call 53; refine (szI_yes _ n _ _ HL.out (by omega) (by omega)).mono ?_; rintro e w1 ⟨rfl, rfl⟩
        go_wp2_with fail
        go_round
        case rel => exact ⟨k + 1, by omega, by go_num, by rw [HTT.out]; go_num⟩
        case measure => simp [intOf]; omega
      · obtain rfl : k = C.length := by omega
        go_wp2_with fail
        go_ret
        exact ⟨ret_mark1 (by unfold szL; omega), rfl⟩
set_option maxHeartbeats 1000000 in
theorem szSS_no (v : Value) (C : List (List Int)) (m : Int) (w : World) (hv : LV w v C) (hm : m < (szL C : Int)) (h0 : 0 ≤ m) (hb : m ≤ 1048576) (hf : FitL C) :
    Calls Try.prog 23 #[v, .int .i64 m] w fun e w' => e = .returned (.int .i64 (-1)) ∧ w = w' := by
  have hm1 := hm
  unfold szL at hm1
  rw [Int.natCast_add] at hm1
  have hx := hf.1
  unfold maxLen at hx
  by_cases hlen : (C.length : Int) ≤ m
  · rcases hv with ⟨rfl, ao, cap, rfl⟩ | ⟨b, off, cap, U, rfl, hpos, hbl, hcell⟩
    · simp [szL, totAt] at hm; omega
    have HC := Lib.hid hcell
    have HF := Lib.hid hf
    clear hcell hf
    go_enter Try.func23, Try.ntmps23
    go_wp2_with fail
    go_loop [1, 5] (fun l i => ∃ k : Nat, k ≤ C.length ∧ i = .int .i64 k ∧ (totAt C k : Int) ≤ m - (C.length : Int) ∧ l = .int .i64 (m - (C.length : Int) - (totAt C k : Int))) (fun _ i => C.length - (intOf i).toNat)
    case atStart => exact ⟨0, Nat.zero_le _, rfl, by simp [totAt]; omega, by simp [totAt]⟩
    case round =>
      obtain ⟨k, hk, rfl, hle, rfl⟩ := hrel
      by_cases hlt : k < C.length
      · obtain ⟨c0, u0⟩ := HC.out k hlt
        have L0 := IL.long u0
        have hz := (HF.out.2 k hlt).1
        unfold maxLen at hz
        have HT : totAt C (k + 1) = totAt C k + (C.getD k []).length := rfl
        generalize (C.getD k []).length = n at L0 HT hz
        obtain ⟨t, htt⟩ : ∃ t, t = totAt C k := ⟨_, rfl⟩
        rw [← htt] at HT hle ⊢
        have HL := Lib.hid L0
        have HTT := Lib.hid HT
        clear u0 L0 HT htt
        by_cases hy : (n : Int) ≤ m - (C.length : Int) - (t : Int)
        · go_wp2_with fail
          go_at_call 53; refine (szI_yes _ n _ _ HL.out hy (by omega)).mono ?_; rintro e w1 ⟨rfl, rfl⟩
          go_wp2_with fail
          go_round
          case rel => exact ⟨k + 1, by omega, by go_num, by rw [HTT.out]; omega, by rw [HTT.out]; go_num⟩
          case measure => simp [intOf]; omega
        · go_wp2_with fail
          go_at_call 53; refine (szI_no _ n _ _ HL.out (by omega) (by omega) (by omega) (by unfold maxLen; omega)).mono ?_; rintro e w1 ⟨rfl, rfl⟩
          go_wp2_with fail
          go_ret
          exact ⟨rfl, rfl⟩
      · obtain rfl : k = C.length := by omega
        exfalso; omega
  · obtain ⟨ao, cap, rfl⟩ := hv.long
    clear hv
    go_enter Try.func23, Try.ntmps23
    go_wp2_with fail
    go_ret
    exact ⟨rfl, rfl⟩

/-- The copy of a list of lists, of which k are there. -/
structure CopyingL (w : World) (C : List (List Int)) (k : Nat) (wr : World) : Prop where
  arr : ∃ (U : List Value) (G : Nat → Nat), U.length = C.length ∧ (∀ i, i < C.length → wr.cell? ⟨w.heap.size, i, none⟩ = some (U.getD i vnil)) ∧ (∀ i, wr.frozen? ⟨w.heap.size, i, none⟩ = false) ∧
    (∀ i, i < k → IB (G i) wr (U.getD i vnil) (C.getD i []) ∧ (C.getD i [] = [] ∨ (w.heap.size < G i ∧ G i < wr.heap.size))) ∧ ∀ i j, i < j → j < k → C.getD i [] = [] ∨ C.getD j [] = [] ∨ G i ≠ G j
  lt : w.heap.size < wr.heap.size
  below : Below w.heap.size w wr
theorem CopyingL.start {w w1 : World} {C : List (List Int)} {e : Nat} (h : w1.ownsRow w.heap.size e 1 (.slice (some ⟨w.heap.size, 0, none⟩) C.length C.length) C.length (madeCells vnil.cells (C.length * 1)).toList) (hb : Below w.heap.size w w1) (hl : w.heap.size < w1.heap.size) : CopyingL w C 0 w1 := by
  refine ⟨⟨List.replicate C.length vnil, fun _ => 0, by simp, fun i hi => ?_, h.frozenAt, fun i hi => by omega, fun i j _ hj => by omega⟩, hl, hb⟩
  rw [h.cellAt i (by omega)]
  rcases made_one vnil C.length hi with h1 | h1
  · rw [h1]; simp [Value.cells, List.getD, hi]
  · exact absurd rfl h1
theorem CopyingL.keep {w w1 w2 : World} {C : List (List Int)} {k : Nat} (h : CopyingL w C k w1) (b : Below w1.heap.size w1 w2) : CopyingL w C k w2 := by
  obtain ⟨⟨U, G, h1, h2, h3, h4, h5⟩, hl, hb⟩ := h
  have hs := b.size
  refine ⟨⟨U, G, h1, fun i hi => by rw [b.cell (p := ⟨w.heap.size, i, none⟩) hl]; exact h2 i hi, fun i => by rw [b.frozen (p := ⟨w.heap.size, i, none⟩) hl]; exact h3 i, fun i hi => ⟨(h4 i hi).1.below b (Nat.le_refl _), ?_⟩, h5⟩, by omega, hb.trans (b.mono (Nat.le_of_lt hl))⟩
  rcases (h4 i hi).2 with e | e
  · exact Or.inl e
  · exact Or.inr ⟨e.1, by omega⟩
theorem CopyingL.step {w w1 w2 : World} {C : List (List Int)} {k : Nat} {u : Value} (h : CopyingL w C k w1) (hk : k < C.length) (b : Below w1.heap.size w1 w2) (hu : II w1.heap.size w2.heap.size w2 u (C.getD k [])) : CopyingL w C (k + 1) (w2.setCell ⟨w.heap.size, k, none⟩ u) := by
  obtain ⟨⟨U, G, h1, h2, h3, h4, h5⟩, hl, hb⟩ := h.keep b
  have hl1 := h.lt
  obtain ⟨⟨U0, G0, g1, g2, g3, g4, g5⟩, -, -⟩ := h
  obtain ⟨g, hg, hr⟩ := II.ib hu
  have hT : Turned w.heap.size (w.heap.size + 1) w2 (w2.setCell ⟨w.heap.size, k, none⟩ u) := (Turned.refl w.heap.size (w.heap.size + 1) w2).setCell (p := ⟨w.heap.size, k, none⟩) (Nat.le_refl _) (Nat.lt_succ_self _) u
  have hz : (w2.setCell ⟨w.heap.size, k, none⟩ u).heap.size = w2.heap.size := by simp [World.setCell]
  refine ⟨⟨U0.set k u, fun i => if i = k then g else G0 i, by rw [List.length_set]; exact g1, fun i hi => ?_, fun i => by rw [World.frozen?_setCell]; exact h3 i, fun i hi => ?_, fun i j hij hj => ?_⟩, by omega, hb.setCell (Nat.le_refl _) _⟩
  · by_cases e : i = k
    · subst e
      rw [World.cell?_setCell_same _ _ _ (h2 i hi)]
      simp [List.getD, g1, hk]
    · rw [World.cell?_setCell_other _ _ _ _ (by intro hh; injection hh with _ h2 _; omega), b.cell (p := ⟨w.heap.size, i, none⟩) hl1, g2 i hi, List.getD, List.getD, List.getElem?_set, if_neg (fun hh => e hh.symm)]
  · by_cases e : i = k
    · subst e
      rw [show (U0.set i u).getD i vnil = u by simp [List.getD, g1, hk]]
      dsimp only
      rw [if_pos rfl]
      refine ⟨hg.kept hT ?_, ?_⟩
      · rcases hr with e | e
        · exact Or.inl e
        · right; right; omega
      · rcases hr with e | e
        · exact Or.inl e
        · right; omega
    · rw [show (U0.set k u).getD i vnil = U0.getD i vnil by simp only [List.getD, List.getElem?_set, if_neg (Ne.symm e)]]
      dsimp only
      rw [if_neg e]
      have h := g4 i (by omega)
      refine ⟨(h.1.below b (Nat.le_refl _)).kept hT ?_, ?_⟩
      · rcases h.2 with e | e
        · exact Or.inl e
        · right; right; omega
      · rcases h.2 with e | e
        · exact Or.inl e
        · right; have := b.size; omega
  · have hik : i ≠ k := by omega
    dsimp only
    rw [if_neg hik]
    by_cases e : j = k
    · subst e
      rw [if_pos rfl]
      have h := (g4 i (by omega)).2
      rcases h with e | e
      · exact Or.inl e
      · rcases hr with e2 | e2
        · exact Or.inr (Or.inl e2)
        · right; right; omega
    · rw [if_neg e]
      exact g5 i j hij (by omega)
theorem CopyingL.ld {w w1 : World} {C : List (List Int)} (h : CopyingL w C C.length w1) : LD w.heap.size w1.heap.size w1 (.slice (some ⟨w.heap.size, 0, none⟩) C.length C.length) C := by
  obtain ⟨⟨U, G, h1, h2, h3, h4, h5⟩, hl, hb⟩ := h
  by_cases h0 : C.length = 0
  · have : C = [] := List.eq_nil_of_length_eq_zero h0
    subst this
    exact LD.nil _ (Nat.le_refl _) _ _
  refine ⟨Nat.le_refl _, Or.inr ⟨w.heap.size, 0, 0, fun i => U.getD i vnil, G, rfl, by omega, Nat.le_refl _, hl, h3, fun i hi => ⟨by rw [Nat.zero_add]; exact h2 i hi, (h4 i hi).1, ?_⟩, h5⟩⟩
  rcases (h4 i hi).2 with e | e
  · exact Or.inl e
  · right; omega
set_option maxHeartbeats 400000 in
theorem toSS_zero (ao : Option Addr) (cap : Nat) (w : World) :
    Calls Try.prog 25 #[.slice ao 0 cap] w (MadeL [] w) := by
  obtain ⟨i0, hi, hz0, hz1, hz2⟩ := info_parts Try.infoL
  go_enter Try.func25, Try.ntmps25
  go_wp2_with (at_make; refine wpList_make_full _ rfl _ _ 22 rfl w.heap.size 25 i0 vnil 1 Try.underlying22 hi hz0 hz1 _ _ _ _ 0 rfl rfl rfl rfl (by omega) (by unfold maxLen; omega) (Nat.le_refl _) ?_; intro w1 hown hgrow)
  have HB := Lib.hid ((Below.refl _ _).grown hgrow (Nat.le_refl _) (fun g hg => by cases hg))
  clear hown hgrow
  refine wp_loop_rounds 1 ?_
  rw [rounds_succ]
  go_wp2
  refine bodyPost_ret (results_tmp rfl _ _ _) rfl ?_
  exact ⟨_, rfl, LD.nil _ (Nat.le_refl _) _ _, HB.out⟩
set_option maxRecDepth 100000 in
set_option maxHeartbeats 400000 in
theorem toSS_any (v : Value) (C : List (List Int)) (w : World) (hv : LV w v C) (o : szL C ≤ 1048576) :
    Calls Try.prog 25 #[v] w (MadeL C w) := by
  obtain ⟨i0, hi, hz0, hz1, hz2⟩ := info_parts Try.infoL
  have hn : C.length ≤ 1048576 := Nat.le_trans (szL_len C) o
  rcases hv with ⟨rfl, ao, cap, rfl⟩ | ⟨b, off, cap, U, rfl, hpos, hbl, hcell⟩
  · exact toSS_zero ao cap w
  · go_enter Try.func25, Try.ntmps25
    go_wp2_with (at_make; refine wpList_make_full _ rfl _ _ 22 rfl w.heap.size 25 i0 vnil 1 Try.underlying22 hi hz0 hz1 _ _ _ _ C.length rfl rfl rfl rfl (by rw [hz2]; omega) (by unfold maxLen; omega) (Nat.le_refl _) ?_; intro w1 hown hgrow)
    have H0 : Hid (CopyingL w C 0 w1) := Lib.hid (CopyingL.start hown ((Below.refl _ _).grown hgrow (Nat.le_refl _) (fun g hg => by cases hg)) (hown.lt _ rfl).2)
    clear hown hgrow
    have HC := Lib.hid hcell
    clear hcell
    go_loopw [4] (fun i wr => ∃ k : Nat, k ≤ C.length ∧ i = .int .i64 k ∧ CopyingL w C k wr) (fun i _ => C.length - (intOf i).toNat)
    case atStart => exact ⟨0, Nat.zero_le _, rfl, H0.out⟩
    case round =>
      clear H0
      obtain ⟨k, hk, rfl, hO⟩ := hrel
      by_cases hlt : k < C.length
      · have HO := Lib.hid hO
        have c0 : wr.cell? ⟨b, off + k, none⟩ = some (U k) := by rw [hO.below.cell (p := ⟨b, off + k, none⟩) hbl]; exact (HC.out k hlt).1
        have IL0 := Lib.hid ((HC.out k hlt).2.below hO.below (Nat.le_refl _))
        obtain ⟨u, hu⟩ : ∃ u, u = U k := ⟨_, rfl⟩
        rw [← hu] at c0 IL0
        clear hO hu
        have hz := szL_each hlt
        go_wp2_with fail
        go_at_call 16; refine (toI64_si _ (C.getD k []) _ IL0.out (by omega)).mono ?_; rintro e w2 ⟨x, rfl, hx, bb⟩
        clear c0 IL0
        have H2 := Lib.hid (HO.out.keep bb)
        obtain ⟨⟨Y, G, hYl, hY, hfz, -, -⟩, -, -⟩ := H2.out
        have d0 := hY k hlt
        have f0 := hfz k
        obtain ⟨xa, xc, rfl⟩ := II.len' hx
        have H3 := Lib.hid (HO.out.step hlt bb hx)
        obtain ⟨n, hnn⟩ : ∃ n, n = (C.getD k []).length := ⟨_, rfl⟩
        rw [← hnn] at H3 ⊢
        clear hY hfz bb hx hnn
        generalize Y.getD k vnil = old at d0
        go_wp2_with fail
        go_roundw
        case rel => exact ⟨k + 1, by omega, by go_num, H3.out⟩
        case measure => simp [intOf]; omega
      · obtain rfl : k = C.length := by omega
        have hr := Lib.hid hO
        clear hO
        go_wp2
        refine bodyPost_ret (results_tmp rfl _ _ _) rfl ?_
        exact ⟨_, rfl, hr.out.ld, hr.out.below⟩

set_option maxHeartbeats 800000 in
theorem eqSS_num (b1 off1 cap1 b2 off2 cap2 : Nat) (U1 U2 : Nat → Value) (C : List (List Int)) (w : World) (o : szL C ≤ 1048576) (h1 : b1 < w.heap.size) (h2 : b2 < w.heap.size) (hc1 : ∀ i, i < C.length → w.cell? ⟨b1, off1 + i, none⟩ = some (U1 i) ∧ IL w (U1 i) (C.getD i [])) (hc2 : ∀ i, i < C.length → w.cell? ⟨b2, off2 + i, none⟩ = some (U2 i) ∧ IL w (U2 i) (C.getD i [])) :
    Calls Try.prog 27 #[.slice (some ⟨b1, off1, none⟩) C.length cap1, .slice (some ⟨b2, off2, none⟩) C.length cap2] w fun e w' => e = .returned (.bool true) ∧ Below w.heap.size w w' := by
  have C1 := Lib.hid hc1
  have C2 := Lib.hid hc2
  have hn : C.length ≤ 1048576 := Nat.le_trans (szL_len C) o
  clear hc1 hc2
  go_enter Try.func27, Try.ntmps27
  go_wp2
  go_loopw [5] (fun i wr => ∃ k : Nat, k ≤ C.length ∧ i = .int .i64 k ∧ Below w.heap.size w wr) (fun i _ => C.length - (intOf i).toNat)
  case atStart => exact ⟨0, Nat.zero_le _, rfl, Below.refl _ _⟩
  case round =>
    obtain ⟨k, hk, rfl, hwr⟩ := hrel
    by_cases hlt : k < C.length
    · have c0 : wr.cell? ⟨b1, off1 + k, none⟩ = some (U1 k) := by rw [hwr.cell (p := ⟨b1, off1 + k, none⟩) h1]; exact (C1.out k hlt).1
      have d0 : wr.cell? ⟨b2, off2 + k, none⟩ = some (U2 k) := by rw [hwr.cell (p := ⟨b2, off2 + k, none⟩) h2]; exact (C2.out k hlt).1
      have R1 := Lib.hid ((C1.out k hlt).2.below hwr (Nat.le_refl _))
      have R2 := Lib.hid ((C2.out k hlt).2.below hwr (Nat.le_refl _))
      have HW := Lib.hid hwr
      clear hwr
      have hz := szL_each hlt
      generalize U1 k = u1 at c0 R1
      generalize U2 k = u2 at d0 R2
      have Z1 := Lib.hid c0
      have Z2 := Lib.hid d0
      go_wp2_with fail
      go_region_held3 (fun w' => w'.cell? ⟨b1, off1 + k, none⟩ = some u1 ∧ w'.cell? ⟨b2, off2 + k, none⟩ = some u2) (first | exact ⟨c0, d0⟩ | exact S2.out) (first
        | (go_at_call 18; refine (eqI64_any _ _ (C.getD k []) _ (by omega) (VL.drewN R1.out _) (VL.drewN R2.out _)).mono ?_; rintro e w3 ⟨rfl, m3, rfl⟩; have H3 : Hid (Below w.heap.size w (wr.drewN (1 + m3))) := Lib.hid (below_drewN HW.out (1 + m3)); have S2 : Hid (_ ∧ _) := Lib.hid ⟨Z1.out, Z2.out⟩))
      all_goals
        go_wp2_with fail
        go_roundw
        case rel => exact ⟨k + 1, by omega, by go_num, H3.out⟩
        case measure => simp [intOf]; omega
    · obtain rfl : k = C.length := by omega
      have HW := Lib.hid hwr
      clear hwr
      go_wp2
      go_ret
      exact ⟨rfl, HW.out⟩
theorem eqSS_any (v1 v2 : Value) (C : List (List Int)) (w : World) (o : szL C ≤ 1048576) (h1 : LV w v1 C) (h2 : LV w v2 C) :
    Calls Try.prog 27 #[v1, v2] w fun e w' => e = .returned (.bool true) ∧ Below w.heap.size w w' := by
  rcases h1 with ⟨rfl, ao, cap, rfl⟩ | ⟨b, off, cap, U, rfl, hpos, hbl, hcell⟩
  · rcases h2 with ⟨_, ao2, cap2, rfl⟩ | ⟨b2, off2, cap2, U2, rfl, hpos2, hbl2, hcell2⟩
    · go_enter Try.func27, Try.ntmps27
      go_wp2
      refine wp_loop_rounds 1 ?_
      rw [rounds_succ]
      go_wp2
      go_ret
      exact ⟨rfl, Below.refl _ _⟩
    · exact absurd hpos2 (by simp)
  · rcases h2 with ⟨rfl, ao2, cap2, rfl⟩ | ⟨b2, off2, cap2, U2, rfl, hpos2, hbl2, hcell2⟩
    · exact absurd hpos (by simp)
    · exact eqSS_num _ _ _ _ _ _ _ _ C w o hbl hbl2 hcell hcell2

end Go.Proofs.Ytnakpfbeeekmiaa
/- Forms: how they read; their copies; that copies are equal; their marks; how one comes in. -/
namespace Go.Proofs.Ytnakpfbeeekmiaa
open Go.RowKit Go.ChangeShapes Go.WideShapes Go.Joins

structure Fm where
  letters : Int
  cs : List (List Int)
def FmV (w : World) (v : Value) (N : Fm) : Prop := ∃ s1, v = .agg #[.int .i64 N.letters, s1] ∧ LV w s1 N.cs
def FmD (lo hi : Nat) (w : World) (v : Value) (N : Fm) : Prop := ∃ s1, v = .agg #[.int .i64 N.letters, s1] ∧ LD lo hi w s1 N.cs
theorem FmV.below {w w' : World} {v : Value} {N : Fm} (h : FmV w v N) {B : Nat} (hb : Below B w w') (hB : w.heap.size ≤ B) : FmV w' v N := by
  obtain ⟨s1, e, h1⟩ := h
  exact ⟨s1, e, h1.below hb hB⟩
theorem FmD.below {lo hi : Nat} {w w' : World} {v : Value} {N : Fm} (h : FmD lo hi w v N) {B : Nat} (hb : Below B w w') (hB : w.heap.size ≤ B) : FmD lo hi w' v N := by
  obtain ⟨s1, e, h1⟩ := h
  exact ⟨s1, e, h1.below' hb hB⟩
theorem FmD.kept {lo hi lo2 hi2 : Nat} {w w' : World} {v : Value} {N : Fm} (h : FmD lo hi w v N) (ht : Turned lo2 hi2 w w') (hs : hi ≤ lo2 ∨ hi2 ≤ lo) : FmD lo hi w' v N := by
  obtain ⟨s1, e, h1⟩ := h
  exact ⟨s1, e, h1.kept' ht hs⟩
theorem FmD.fv {lo hi : Nat} {w : World} {v : Value} {N : Fm} (h : FmD lo hi w v N) : FmV w v N := by
  obtain ⟨s1, e, h1⟩ := h
  exact ⟨s1, e, h1.lv⟩
theorem FmD.wide {lo lo' hi : Nat} {w : World} {v : Value} {N : Fm} (h : FmD lo hi w v N) (h1 : lo' ≤ lo) : FmD lo' hi w v N := by
  obtain ⟨s1, e, g1⟩ := h
  exact ⟨s1, e, g1.wide' h1⟩
theorem FmD.split {lo hi : Nat} {w : World} {v : Value} {N : Fm} (h : FmD lo hi w v N) : ∃ x1 k1, v = .agg #[.int .i64 N.letters, .slice x1 N.cs.length k1] := by
  obtain ⟨s1, e, h1⟩ := h
  obtain ⟨x1, k1, rfl⟩ := h1.len'
  exact ⟨x1, k1, e⟩
def MadeFm (N : Fm) (w : World) (e : Ending) (w' : World) : Prop := ∃ v, e = .returned v ∧ FmD w.heap.size w'.heap.size w' v N ∧ Below w.heap.size w w'

set_option maxHeartbeats 1000000 in
theorem toForm_any (v : Value) (N : Fm) (w : World) (hv : FmV w v N) (hn : szL N.cs ≤ 1048576) :
    Calls Try.prog 15 #[v] w (MadeFm N w) := by
  obtain ⟨s1, rfl, g1⟩ := hv
  have G1 := Lib.hid g1
  clear g1
  have hb0 : ∀ A B C, Below w.heap.size w (((w.alloc A).alloc B).alloc C) := fun A B C => ((below_alloc w A).alloc (by simp) B).alloc (by simp; omega) C
  have HB0 := Lib.hid hb0
  clear hb0
  go_enter Try.func15, Try.ntmps15
  go_wp2_with fail
  go_at_call 25; refine (toSS_any _ N.cs _ (G1.out.below (HB0.out _ _ _) (Nat.le_refl _)) hn).mono ?_; rintro e w1 ⟨v1, rfl, i1, b1⟩
  obtain ⟨x1, y1, rfl⟩ := i1.len'
  obtain ⟨hc1, hf1⟩ := bcell b1
  have hz1 : w.heap.size + 1 + 1 < w1.heap.size := by have := b1.size; simp at this; omega
  have I1 := Lib.hid (LD.wide (lo' := w.heap.size + 1 + 1 + 1) i1 (by simp) (Nat.le_refl _) (Nat.le_refl _))
  have B1 := Lib.hid ((HB0.out _ _ _).trans (b1.mono (by simp; omega)))
  clear i1 b1
  go_wp2_with fail
  refine bodyPost_ret (v := .agg #[.int .i64 N.letters, .slice x1 N.cs.length y1]) (by simp [results, Try.results15, hc1, go_sem]) rfl ?_
  generalize hX : World.setCell _ _ _ = X
  have hT : Turned (w.heap.size + 1) (w.heap.size + 1 + 1 + 1) w1 X := by
    rw [← hX]
    repeat (refine Turned.setCell ?_ (by simp) (by simp) _)
    exact Turned.refl _ _ _
  clear hX
  have hTB := hT.below (by omega)
  exact ⟨_, rfl, ⟨_, rfl, LD.wide (I1.out.kept' hT (Or.inr (Nat.le_refl _))) (by omega) hT.size (Nat.le_refl _)⟩, B1.out.trans (hTB.mono (by omega))⟩

theorem szForm_yes (v : Value) (N : Fm) (m : Int) (w : World) (hv : FmV w v N) (hm : (szL N.cs : Int) ≤ m) (hb : m ≤ 1048576) :
    Calls Try.prog 13 #[v, .int .i64 m] w fun e w' => e = .returned (.int .i64 (m - szL N.cs)) ∧ Below w.heap.size w w' := by
  obtain ⟨s1, rfl, g1⟩ := hv
  have G1 := Lib.hid (fun o => g1.below (below_alloc w o) (Nat.le_refl _))
  clear g1
  go_enter Try.func13, Try.ntmps13
  go_wp2_with fail
  go_at_call 23; refine (szSS_yes _ N.cs _ _ (G1.out _) (by omega) (by omega)).mono ?_; rintro e w1 ⟨rfl, rfl⟩
  go_wp2_with fail
  go_ret
  exact ⟨rfl, below_alloc _ _⟩
theorem szForm_no (v : Value) (N : Fm) (m : Int) (w : World) (hv : FmV w v N) (hm : m < (szL N.cs : Int)) (h0 : 0 ≤ m) (hb : m ≤ 1048576) (l1 : FitL N.cs) :
    Calls Try.prog 13 #[v, .int .i64 m] w fun e w' => e = .returned (.int .i64 (-1)) ∧ Below w.heap.size w w' := by
  obtain ⟨s1, rfl, g1⟩ := hv
  have G1 := Lib.hid (fun o => g1.below (below_alloc w o) (Nat.le_refl _))
  clear g1
  go_enter Try.func13, Try.ntmps13
  go_wp2_with fail
  go_at_call 23; refine (szSS_no _ N.cs _ _ (G1.out _) (by omega) (by omega) (by omega) l1).mono ?_; rintro e w1 ⟨rfl, rfl⟩
  go_wp2_with fail
  go_ret
  exact ⟨rfl, below_alloc _ _⟩

theorem eqForm_any (v u : Value) (N : Fm) (w : World) (hn : szL N.cs ≤ 1048576) (hv : FmV w v N) (hu : FmV w u N) :
    Calls Try.prog 19 #[v, u] w fun e w' => e = .returned (.bool true) ∧ Below w.heap.size w w' := by
  have HB0 := Lib.hid (fun A B => (below_alloc w A).alloc (by simp) B)
  obtain ⟨s1, rfl, g1⟩ := hv
  obtain ⟨t1, rfl, k1⟩ := hu
  have G1 := Lib.hid g1
  have K1 := Lib.hid k1
  clear g1 k1
  go_enter Try.func19, Try.ntmps19
  go_wp2_with fail
  go_at_call 27; refine (eqSS_any _ _ N.cs _ hn (G1.out.below (HB0.out _ _) (Nat.le_refl _)) (K1.out.below (HB0.out _ _) (Nat.le_refl _))).mono ?_; rintro e w1 ⟨rfl, b⟩
  have B1 := Lib.hid ((HB0.out _ _).trans (b.mono (by simp; omega)))
  clear b
  go_wp2_with fail
  go_ret
  exact ⟨rfl, B1.out⟩

/-- A form as it comes in. -/
def FitFm (N : Fm) : Prop := FitL N.cs
structure OKFm (N : Fm) : Prop where
  size : szL N.cs ≤ 1048576
  fit : FitFm N
theorem OKFm.okl {N : Fm} (o : OKFm N) : OKL N.cs := ⟨o.size, o.fit⟩
set_option maxRecDepth 100000 in
theorem open_form {H : Type} {enc : TypeId × Value → H} {w : World} {v : Value} {d : DataW H} {ps : List MemPlace} {b0 : Nat}
    (hval : Value.okWide Try.prog w .any b0 24 v) (hd : DataW.Trod enc Try.prog w 0 (fun _ => true) true 24 v d ps) : ∃ N : Fm, FmV w v N ∧ FitFm N := by
  obtain ⟨v0, v1, y0, y1, n, rfl, -, -, t0, t1⟩ := open_agg2 Try.underlying24 (by kernel_rfl) (by kernel_rfl) hval hd
  obtain ⟨a, e0, -, -⟩ := DataW.trod_int Try.underlying2 t0
  simp only [List.cons.injEq, and_true] at e0
  subst e0
  obtain ⟨Z, hZ, lZ⟩ := open_lv t1
  exact ⟨⟨a, Z⟩, ⟨_, rfl, hZ⟩, lZ⟩
end Go.Proofs.Ytnakpfbeeekmiaa
/- Lists of lists: their marks. -/
namespace Go.Proofs.Ytnakpfbeeekmiaa
open Go.RowKit Go.ChangeShapes Go.WideShapes

/-- What a list of lists holds behind marks from k on. -/
def marksL (k : Int) (C : List (List Int)) : List (List Int) := (List.range C.length).map fun i => marksI (k + (totAt C i : Nat)) (C.getD i []).length
theorem marksL_len (k : Int) (C : List (List Int)) : (marksL k C).length = C.length := by simp [marksL]
theorem marksL_at {k : Int} {C : List (List Int)} {i : Nat} (h : i < C.length) : (marksL k C).getD i [] = marksI (k + (totAt C i : Nat)) (C.getD i []).length := by simp [marksL, List.getD, h]
theorem marks_none {k : Int} {n : Nat} : marksI k n = [] ↔ n = 0 := by
  rw [← List.length_eq_zero_iff, marksI_len]
/-- The first j of a list's lists bear marks. -/
structure MarkingL (lo hi b off : Nat) (U : Nat → Value) (G : Nat → Nat) (C : List (List Int)) (k : Int) (w : World) (j : Nat) (wr : World) : Prop where
  row : ∀ i, i < C.length → wr.cell? ⟨b, off + i, none⟩ = some (U i)
  free : ∀ i, wr.frozen? ⟨b, i, none⟩ = false
  done : ∀ i, i < j → IB (G i) wr (U i) (marksI (k + (totAt C i : Nat)) (C.getD i []).length)
  rest : ∀ i, j ≤ i → i < C.length → IB (G i) wr (U i) (C.getD i [])
  turned : Turned lo hi w wr
theorem markIB (g : Nat) (v : Value) (Z : List Int) (k : Int) (w : World) (hv : IB g w v Z) (hn : Z.length ≤ 1048576) (hk0 : 0 ≤ k) (hk1 : k ≤ 1099511627776) :
    Calls Try.prog 21 #[v, .int .i64 k] w fun e w' => e = .returned (.int .i64 (k + (Z.length : Nat))) ∧ IB g w' v (marksI k Z.length) ∧ ((Z = [] ∧ Below w.heap.size w w') ∨ (0 < Z.length ∧ g < w.heap.size ∧ Turned g (g + 1) w w')) := by
  have hv0 := hv
  rcases hv with ⟨rfl, ao, cap, rfl⟩ | ⟨off, cap, e, k2, k3, k4, k5⟩
  · refine (markI64_any w.heap.size w.heap.size _ [] k w (SI.nil _ (Nat.le_refl _) _ _) (by simp) hk0 hk1).mono ?_
    rintro e w' ⟨rfl, hi, ht⟩
    exact ⟨rfl, Or.inl ⟨by simp [marksI], ao, cap, rfl⟩, Or.inl ⟨rfl, ht.below (Nat.le_refl _)⟩⟩
  · refine (markI64_any g (g + 1) _ Z k w (hv0.ii (Or.inr ⟨Nat.le_refl _, Nat.lt_succ_self _⟩) k3) hn hk0 hk1).mono ?_
    rintro e w' ⟨rfl, hi, ht⟩
    refine ⟨rfl, ?_, Or.inr ⟨k2, k3, ht⟩⟩
    obtain ⟨h0, ⟨e0, -⟩ | ⟨b, off2, cap2, e2, q2, q3, q4, q5, q6⟩⟩ := hi
    · rw [marks_none] at e0; omega
    · obtain rfl : b = g := by omega
      exact Or.inr ⟨off2, cap2, e2, q2, by omega, q5, q6⟩
def MarkedL (lo hi : Nat) (v : Value) (k : Int) (C : List (List Int)) (w : World) (e : Ending) (w' : World) : Prop := e = .returned (.int .i64 (k + (totAt C C.length : Nat))) ∧ LD lo hi w' v (marksL k C) ∧ Turned lo hi w w'
set_option maxHeartbeats 800000 in
theorem markSS_any (lo hi : Nat) (v : Value) (C : List (List Int)) (k : Int) (w : World) (hv : LD lo hi w v C) (o : szL C ≤ 1048576) (hk0 : 0 ≤ k) (hk1 : k ≤ 549755813888) :
    Calls Try.prog 30 #[v, .int .i64 k] w (MarkedL lo hi v k C w) := by
  obtain ⟨hhi, ⟨rfl, ao, cap, rfl⟩ | ⟨b, off, cap, U, G, rfl, hpos, hlo, hbh, hfz, hcell, hG⟩⟩ := hv
  · go_enter Try.func30, Try.ntmps30
    go_wp2
    refine wp_loop_rounds 1 ?_
    rw [rounds_succ]
    go_wp2
    go_ret
    exact ⟨by simp [totAt], LD.nil _ hhi _ _, Turned.refl _ _ _⟩
  · have hn : C.length ≤ 1048576 := Nat.le_trans (szL_len C) o
    have H0 : Hid (MarkingL lo hi b off U G C k w 0 w) := Lib.hid ⟨fun i hi => (hcell i hi).1, hfz, fun i hi => by omega, fun i _ hi => (hcell i hi).2.1, Turned.refl _ _ _⟩
    have HP := Lib.hid (fun i hi => (hcell i hi).2.2)
    have HG := Lib.hid hG
    have ho : totAt C C.length ≤ 1048576 := by unfold szL at o; omega
    clear hfz hcell hG
    go_enter Try.func30, Try.ntmps30
    go_wp2
    go_loopw [1, 5] (fun kk i wr => ∃ j : Nat, j ≤ C.length ∧ i = .int .i64 j ∧ kk = .int .i64 (k + (totAt C j : Nat)) ∧ MarkingL lo hi b off U G C k w j wr) (fun _ i _ => C.length - (intOf i).toNat)
    case atStart => exact ⟨0, Nat.zero_le _, rfl, by simp [totAt], H0.out⟩
    case round =>
      clear H0
      obtain ⟨j, hj, rfl, rfl, hM⟩ := hrel
      by_cases hlt : j < C.length
      · have c0 := hM.row j hlt
        have HI := Lib.hid (hM.rest j (Nat.le_refl _) hlt)
        have HM := Lib.hid hM
        obtain ⟨Z, hZ⟩ : ∃ Z, Z = C.getD j [] := ⟨_, rfl⟩
        have hz : Z.length ≤ szL C := by rw [hZ]; exact szL_each hlt
        rw [← hZ] at HI
        have hm := totAt_le (C := C) hj
        have ht : totAt C (j + 1) = totAt C j + Z.length := by rw [hZ]; rfl
        have HT := Lib.hid ht
        have HZ := Lib.hid hZ
        obtain ⟨t, htt⟩ : ∃ t, t = totAt C j := ⟨_, rfl⟩
        have HTT := Lib.hid htt
        rw [← htt] at hm ⊢
        clear hM ht hZ htt
        go_wp2_with fail
        go_at_call 21; refine (markIB (G j) _ Z _ _ HI.out (by omega) (by omega) (by omega)).mono ?_; rintro e w2 ⟨rfl, i2, t2⟩
        have H2 : Hid (MarkingL lo hi b off U G C k w (j + 1) w2) := by
          refine Lib.hid ?_
          have hM := HM.out
          have hZ := HZ.out
          have htt := HTT.out
          subst hZ htt
          have hwz := hM.turned.size
          rcases t2 with ⟨e0, bb⟩ | ⟨p0, gl, tt⟩
          · refine ⟨fun i hi => by rw [bb.cell (p := ⟨b, off + i, none⟩) (by show b < _; omega)]; exact hM.row i hi, fun i => by rw [bb.frozen (p := ⟨b, i, none⟩) (by show b < _; omega)]; exact hM.free i, fun i hi => ?_, fun i h1 h2 => (hM.rest i (by omega) h2).below bb (Nat.le_refl _), hM.turned.trans (Turned.of_below bb (Nat.le_refl _))⟩
            by_cases e : i = j
            · subst e; exact i2
            · exact (hM.done i (by omega)).below bb (Nat.le_refl _)
          · have hP := HP.out j hlt
            have hP' : lo ≤ G j ∧ G j < hi ∧ G j ≠ b := by
              rcases hP with e | e
              · rw [e] at p0; simp at p0
              · exact e
            have hbk := tt.block b (by omega) (by omega)
            refine ⟨fun i hi => by rw [World.cell?_of_block (w := wr) (a := ⟨b, off + i, none⟩) hbk]; exact hM.row i hi, fun i => by rw [World.frozen?_of_block (w := wr) (a := ⟨b, i, none⟩) hbk]; exact hM.free i, fun i hi => ?_, fun i h1 h2 => (hM.rest i (by omega) h2).kept tt ?_, hM.turned.trans (tt.wide hP'.1 hP'.2.1)⟩
            · by_cases e : i = j
              · subst e; exact i2
              · refine (hM.done i (by omega)).kept tt ?_
                rcases HG.out i j (by omega) hlt with q | q | q
                · left; rw [marks_none, q]; rfl
                · rw [q] at p0; simp at p0
                · right; omega
            · rcases HG.out j i (by omega) h2 with q | q | q
              · rw [q] at p0; simp at p0
              · exact Or.inl q
              · right; omega
        clear i2 t2 HI HM c0
        go_wp2_with fail
        go_roundw
        case rel => exact ⟨j + 1, by omega, by go_num, by rw [HT.out, ← HTT.out]; go_num, H2.out⟩
        case measure => simp [intOf]; omega
      · obtain rfl : j = C.length := by omega
        have HM := Lib.hid hM
        clear hM
        go_wp2
        go_ret
        have hM := HM.out
        refine ⟨rfl, ⟨Nat.le_trans hhi hM.turned.size, Or.inr ⟨b, off, cap, U, G, by rw [marksL_len], by rw [marksL_len]; exact hpos, hlo, hbh, hM.free, fun i hi => ?_, fun i j h1 h2 => ?_⟩⟩, hM.turned⟩
        · rw [marksL_len] at hi
          rw [marksL_at hi]
          refine ⟨hM.row i hi, hM.done i hi, ?_⟩
          rcases HP.out i hi with e | e
          · left; rw [marks_none, e]; rfl
          · exact Or.inr e
        · rw [marksL_len] at h2
          rw [marksL_at h2, marksL_at (by omega), marks_none, marks_none]
          rcases HG.out i j h1 h2 with e | e | e
          · left; rw [e]; rfl
          · right; left; rw [e]; rfl
          · exact Or.inr (Or.inr e)
end Go.Proofs.Ytnakpfbeeekmiaa
/- Forms: their marks. -/
namespace Go.Proofs.Ytnakpfbeeekmiaa
open Go.RowKit Go.ChangeShapes Go.WideShapes

/-- What forms hold behind marks from k on. -/
def marksFm (k : Int) (N : Fm) : Fm := ⟨N.letters, marksL k N.cs⟩
def MarkedFm (lo hi : Nat) (v : Value) (k : Int) (N : Fm) (w : World) (e : Ending) (w' : World) : Prop := e = .returned (.int .i64 (k + (totAt N.cs N.cs.length : Nat))) ∧ FmD lo hi w' v (marksFm k N) ∧ Turned lo hi w w'
theorem Turned.alloc' (lo hi : Nat) (w : World) (o : Obj) : Turned lo hi w (w.alloc o) := Turned.of_below (below_alloc w o) (Nat.le_refl _)
set_option maxHeartbeats 1000000 in
theorem markForm_any (lo hi : Nat) (v : Value) (N : Fm) (k : Int) (w : World) (hv : FmD lo hi w v N) (hn : szL N.cs ≤ 1048576) (hk0 : 0 ≤ k) (hk1 : k ≤ 549755813888) :
    Calls Try.prog 20 #[v, .int .i64 k] w (MarkedFm lo hi v k N w) := by
  obtain ⟨s1, rfl, g1⟩ := hv
  have G1 := Lib.hid (fun o => g1.below' (below_alloc w o) (Nat.le_refl _))
  clear g1
  go_enter Try.func20, Try.ntmps20
  go_wp2_with fail
  go_at_call 30; refine (markSS_any lo hi _ N.cs k _ (G1.out _) hn hk0 hk1).mono ?_; rintro e w1 ⟨rfl, i1, t1⟩
  have T1 := Lib.hid ((Turned.alloc' lo hi w _).trans t1)
  have I1 := Lib.hid i1
  clear i1 t1
  go_wp2_with fail
  go_ret
  exact ⟨rfl, ⟨s1, rfl, I1.out⟩, T1.out⟩
end Go.Proofs.Ytnakpfbeeekmiaa
/- Lists of lists: what their marks hold. -/
namespace Go.Proofs.Ytnakpfbeeekmiaa
open Go.RowKit Go.ChangeShapes Go.WideShapes

set_option maxHeartbeats 800000 in
theorem heldSS_any (v : Value) (k : Int) (C : List (List Int)) (w : World) (hv : LV w v (marksL k C)) (o : szL C ≤ 1048576) (hk0 : 0 ≤ k) (hk1 : k ≤ 549755813888) :
    Calls Try.prog 31 #[v, .int .i64 k] w (fun e w' => e = .returned (.int .i64 (k + (totAt C C.length : Nat))) ∧ Below w.heap.size w w') := by
  have hn : C.length ≤ 1048576 := Nat.le_trans (szL_len C) o
  have ho : totAt C C.length ≤ 1048576 := by unfold szL at o; omega
  have hlen := marksL_len k C
  rcases hv with ⟨h0, ao, cap, rfl⟩ | ⟨b, off, cap, U, rfl, hpos, hbl, hcell⟩
  · have h1 : C.length = 0 := by rw [← hlen, h0]; rfl
    have h2 : totAt C C.length = 0 := by rw [h1]; rfl
    rw [h2]
    clear h0 hlen
    go_enter Try.func31, Try.ntmps31
    go_wp2
    refine wp_loop_rounds 1 ?_
    rw [rounds_succ]
    go_wp2
    go_ret
    exact ⟨by simp, Below.refl _ _⟩
  · rw [hlen] at hcell hpos ⊢
    have HC : Hid (∀ W, Below w.heap.size w W → ∀ j, j < C.length → W.cell? ⟨b, off + j, none⟩ = some (U j) ∧ IL W (U j) (marksI (k + (totAt C j : Nat)) (C.getD j []).length)) := Lib.hid fun W hb j hj => by
      have h := hcell j (by omega)
      rw [marksL_at hj] at h
      exact ⟨by rw [hb.cell (p := ⟨b, off + j, none⟩) hbl]; exact h.1, h.2.below hb (Nat.le_refl _)⟩
    clear hcell hlen
    go_enter Try.func31, Try.ntmps31
    go_wp2
    go_loopw [1, 5] (fun kk i wr => ∃ j : Nat, j ≤ C.length ∧ i = .int .i64 j ∧ kk = .int .i64 (k + (totAt C j : Nat)) ∧ Below w.heap.size w wr) (fun _ i _ => C.length - (intOf i).toNat)
    case atStart => exact ⟨0, Nat.zero_le _, rfl, by simp [totAt], Below.refl _ _⟩
    case round =>
      obtain ⟨j, hj, rfl, rfl, hM⟩ := hrel
      by_cases hlt : j < C.length
      · obtain ⟨c0, i0⟩ := HC.out _ hM j hlt
        have HI := Lib.hid i0
        have HM := Lib.hid hM
        obtain ⟨n, hZ⟩ : ∃ n, n = (C.getD j []).length := ⟨_, rfl⟩
        have hz : n ≤ szL C := by rw [hZ]; exact szL_each hlt
        rw [← hZ] at HI
        have hm := totAt_le (C := C) hj
        have ht : totAt C (j + 1) = totAt C j + n := by rw [hZ]; rfl
        have HT := Lib.hid ht
        obtain ⟨t, htt⟩ : ∃ t, t = totAt C j := ⟨_, rfl⟩
        have HTT := Lib.hid htt
        rw [← htt] at hm HI ⊢
        generalize U j = u at c0 HI
        clear hM ht hZ htt i0
        go_wp2_with fail
        go_at_call 22; refine (heldI64_says _ _ n _ HI.out (by omega) (by omega) (by omega)).mono ?_; rintro e w2 ⟨rfl, b2⟩
        have H2 := Lib.hid (HM.out.trans (b2.mono HM.out.size))
        have hneg : decide (k + (t : Int) + (n : Int) < 0) = false := by simp; omega
        clear b2 HI HM c0
        go_wp2_with fail
        go_roundw
        case rel => exact ⟨j + 1, by omega, by go_num, by rw [HT.out, ← HTT.out]; go_num, H2.out⟩
        case measure => simp [intOf]; omega
      · obtain rfl : j = C.length := by omega
        have HM := Lib.hid hM
        clear hM
        go_wp2
        go_ret
        exact ⟨rfl, HM.out⟩
end Go.Proofs.Ytnakpfbeeekmiaa
