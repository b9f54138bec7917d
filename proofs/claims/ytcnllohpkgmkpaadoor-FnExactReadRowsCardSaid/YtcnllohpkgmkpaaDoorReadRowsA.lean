/- What ReadRows needs: Dc0 Tx0 Vl I64 Box Il StL Arr Own Grw Cut Spm0 Pt0. -/
import Derived.Lib.ItoaNum
import Derived.Lib.Join
import Derived.ProofKit
import Derived.WalkKit
import Derived.WalkSmall
import Derived.Deep.Slices
import Derived.Lib.Hide
import Derived.Test.YtcnllohpkgmkpaaDoorRows
import Derived.RegionTactic
import Derived.ChangeAlike
import Derived.Deep.QuietTactic
import Derived.BigQuiet
import Derived.BigRegion
import Derived.Deep.RegionWith
import Derived.IntWalk
import Derived.Outline
import Derived.Deep.LoopGhost
import Derived.Deep.DeepCutAuto
import Derived.Laws.AppendOwn
import Derived.Lib.SplitLaws
import Derived.Lib.IndexBytes
import Derived.Lib.IndexLaws
import Derived.Lib.Bytealg
/- The decimal text of a number, digit by digit from behind (plain). -/
namespace Go.Proofs.YtcnllohpkgmkpaaDoor
open Go

theorem dec_small {u : Nat} (h : u < 10) : Lib.decDigits u = [UInt8.ofNat (48 + u)] := by
  rw [Lib.decDigits, dif_pos h]
theorem dec_big {u : Nat} (h : ¬ u < 10) : Lib.decDigits u = Lib.decDigits (u / 10) ++ [UInt8.ofNat (48 + u % 10)] := by
  rw [Lib.decDigits, dif_neg h]
/-- Behind the digits D, of the text of u, is still q to write. -/
structure DcAt (u q : Nat) (D : List UInt8) : Prop where
  eq : (q ≠ 0 ∨ D = []) → Lib.decDigits u = Lib.decDigits q ++ D
  fin : q = 0 → D ≠ [] → Lib.decDigits u = D
  le : q * 10 ^ D.length ≤ u
theorem dcAt_start (u : Nat) : DcAt u u [] := ⟨fun _ => (List.append_nil _).symm, fun _ h => absurd rfl h, by simp⟩
theorem dcAt_len {u q : Nat} {D : List UInt8} (h : DcAt u q D) (hu : u ≤ 9223372036854775808) (hq : q ≠ 0 ∨ D = []) : D.length ≤ 18 := by
  rcases hq with hq | rfl
  · rcases Nat.lt_or_ge 18 D.length with h1 | h1
    · have h2 : 10 ^ 19 ≤ 10 ^ D.length := Nat.pow_le_pow_right (by omega) h1
      have h3 : 1 * 10 ^ D.length ≤ q * 10 ^ D.length := Nat.mul_le_mul_right _ (by omega)
      have h4 := h.le
      have h5 : (10 : Nat) ^ 19 = 10000000000000000000 := by decide
      omega
    · exact h1
  · simp
theorem dcAt_step {u q : Nat} {D : List UInt8} (h : DcAt u q D) (hq : q ≠ 0 ∨ D = []) : DcAt u (q / 10) (UInt8.ofNat (48 + q % 10) :: D) := by
  have e := h.eq hq
  refine ⟨fun h1 => ?_, fun h1 _ => ?_, ?_⟩
  · have hb : ¬ q < 10 := by
      intro h2
      rcases h1 with h1 | h1
      · omega
      · cases h1
    rw [e, dec_big hb, List.append_assoc]; rfl
  · have hb : q < 10 := by omega
    rw [e, dec_small hb, Nat.mod_eq_of_lt hb]; rfl
  · rw [List.length_cons, Nat.pow_succ]
    have h2 : q / 10 * 10 ≤ q := Nat.div_mul_le_self q 10
    have h3 : q / 10 * 10 * 10 ^ D.length ≤ q * 10 ^ D.length := Nat.mul_le_mul_right _ h2
    have h4 := h.le
    have h5 : q / 10 * (10 ^ D.length * 10) = q / 10 * 10 * 10 ^ D.length := by rw [Nat.mul_assoc, Nat.mul_comm (10 ^ D.length)]
    omega
theorem dcAt_end {u : Nat} {D : List UInt8} (h : DcAt u 0 D) (hD : D ≠ []) : Lib.decDigits u = D := h.fin rfl hD
theorem dcAt_len2 {u q : Nat} {D : List UInt8} (h : DcAt u q D) (hu : u ≤ 9223372036854775808) : D.length ≤ 19 ∨ q ≠ 0 := by
  by_cases hq : q = 0
  · left
    subst hq
    by_cases hD : D = []
    · subst hD; simp
    · have e := h.fin rfl hD
      have hl := Lib.decDigits_eq u
      rw [← e, hl, List.length_map, List.length_range]
      rcases Nat.lt_or_ge 19 (Lib.nDigits u) with h1 | h1
      · exfalso
        have : ∀ n v, Lib.nDigits v = n + 1 → 10 ^ n ≤ v ∨ n = 0 := by
          intro n
          induction n with
          | zero => intro v _; exact Or.inr rfl
          | succ n ih =>
            intro v hv
            left
            by_cases hs : v < 10
            · rw [Lib.nDigits_small hs] at hv; omega
            · rw [Lib.nDigits_big hs] at hv
              rcases ih (v / 10) (by omega) with h2 | h2
              · rw [Nat.pow_succ]; omega
              · subst h2; simp; omega
        rcases this (Lib.nDigits u - 1) u (by omega) with h2 | h2
        · have h3 : 10 ^ 19 ≤ 10 ^ (Lib.nDigits u - 1) := Nat.pow_le_pow_right (by omega) (by omega)
          have h5 : (10 : Nat) ^ 19 = 10000000000000000000 := by decide
          omega
        · omega
      · exact h1
  · exact Or.inr hq
theorem itoa_neg {n : Int} (h : n < 0) : Lib.itoa n = 45 :: Lib.decDigits n.natAbs := by unfold Lib.itoa; rw [if_pos h]
theorem itoa_pos {n : Int} (h : ¬ n < 0) : Lib.itoa n = Lib.decDigits n.natAbs := by
  unfold Lib.itoa; rw [if_neg h]
  congr 1; omega
end Go.Proofs.YtcnllohpkgmkpaaDoor
/- The texts of lists of numbers (plain). -/
namespace Go.Proofs.YtcnllohpkgmkpaaDoor
open Go

def bsOf (D : List UInt8) : ByteArray := ⟨D.toArray⟩
theorem bs_list (D : List UInt8) : (bsOf D).data.toList = D := by simp [bsOf]
theorem bs_size (D : List UInt8) : (bsOf D).size = D.length := by simp [bsOf, ByteArray.size]
theorem bs_append (a b : List UInt8) : bsOf a ++ bsOf b = bsOf (a ++ b) := by
  apply ByteArray.ext
  simp [bsOf]
theorem dec_len {u : Nat} (hu : u ≤ 9223372036854775808) : (Lib.decDigits u).length ≤ 19 := by
  have h : DcAt u 0 (Lib.decDigits u) := by
    refine ⟨fun h => ?_, fun _ _ => rfl, by simp⟩
    rcases h with h | h
    · exact absurd rfl h
    · exfalso
      rw [Lib.decDigits_eq] at h
      have := Lib.nDigits_pos u
      have h2 := congrArg List.length h
      simp at h2; omega
  rcases dcAt_len2 h hu with h1 | h1
  · exact h1
  · exact absurd rfl h1
theorem itoa_len {n : Int} (h : -9223372036854775808 ≤ n ∧ n ≤ 9223372036854775807) : (Lib.itoa n).length ≤ 20 := by
  have := dec_len (u := n.natAbs) (by omega)
  by_cases hn : n < 0
  · rw [itoa_neg hn, List.length_cons]; omega
  · rw [itoa_pos hn]; omega
def noneD : List UInt8 := [110, 111, 110, 101]
/-- The text of a list. -/
def txtL (L : List Int) : List UInt8 := if L.length = 0 then noneD else Lib.join (L.map Lib.itoa) [44]
/-- The text of the first k + 1. -/
def txtK (L : List Int) : Nat → List UInt8
  | 0 => Lib.itoa (L.getD 0 0)
  | k + 1 => txtK L k ++ ([44] ++ Lib.itoa (L.getD (k + 1) 0))
theorem txtK_cons (x : Int) (r : List Int) : ∀ k, k ≤ r.length → txtK (x :: r) k = Lib.itoa x ++ Lib.joinTail [44] ((r.map Lib.itoa).take k)
  | 0, _ => by simp [txtK, Lib.joinTail, List.getD]
  | k + 1, h => by
    have hk : k < r.length := by omega
    have hy : (r.map Lib.itoa)[k]? = some (Lib.itoa (r.getD k 0)) := by simp [List.getD, hk]
    rw [Lib.joinTail_take_succ _ _ _ _ hy]
    show txtK (x :: r) k ++ ([44] ++ Lib.itoa ((x :: r).getD (k + 1) 0)) = _
    rw [txtK_cons x r k (by omega), show (x :: r).getD (k + 1) 0 = r.getD k 0 by simp [List.getD]]
    simp [List.append_assoc]
theorem txtK_end {L : List Int} (h : 0 < L.length) : txtK L (L.length - 1) = txtL L := by
  cases L with
  | nil => simp at h
  | cons x r =>
    unfold txtL
    rw [if_neg (by simp), List.map_cons, Lib.join_cons, show (x :: r).length - 1 = r.length by simp, txtK_cons x r _ (Nat.le_refl _)]
    congr 2
    rw [List.take_of_length_le (by simp)]
theorem txtK_len {L : List Int} (hL : ∀ i, i < L.length → -9223372036854775808 ≤ L.getD i 0 ∧ L.getD i 0 ≤ 9223372036854775807) : ∀ k, k < L.length → (txtK L k).length ≤ 21 * (k + 1)
  | 0, h => by
    have := itoa_len (hL 0 h)
    show (Lib.itoa (L.getD 0 0)).length ≤ _
    omega
  | k + 1, h => by
    have h1 := txtK_len hL k (by omega)
    have h2 := itoa_len (hL (k + 1) h)
    show (txtK L k ++ ([44] ++ Lib.itoa (L.getD (k + 1) 0))).length ≤ _
    have e : ([44] : List UInt8).length = 1 := rfl
    rw [List.length_append, List.length_append, e]
    omega
theorem txtL_len {L : List Int} (hL : ∀ i, i < L.length → -9223372036854775808 ≤ L.getD i 0 ∧ L.getD i 0 ≤ 9223372036854775807) : (txtL L).length ≤ 21 * L.length + 4 := by
  by_cases h : 0 < L.length
  · rw [← txtK_end h]
    have := txtK_len hL (L.length - 1) (by omega)
    omega
  · unfold txtL
    rw [if_pos (by omega)]
    show 4 ≤ _
    omega
/-- The texts, k of which are made. -/
def txS (L : List Int) (k : Nat) : List ByteArray := (List.range L.length).map fun i => if i < k then bsOf (Lib.itoa (L.getD i 0)) else bsOf []
theorem txS_len (L : List Int) (k : Nat) : (txS L k).length = L.length := by simp [txS]
theorem txS_start (L : List Int) : List.replicate L.length (bsOf []) = txS L 0 := by
  refine List.ext_getElem (by simp [txS]) fun i h1 h2 => ?_
  simp [txS]
theorem txS_step (L : List Int) (k : Nat) : (txS L k).set k (bsOf (Lib.itoa (L.getD k 0))) = txS L (k + 1) := by
  refine List.ext_getElem (by simp [txS]) fun i h1 h2 => ?_
  rw [List.getElem_set]
  simp only [txS, List.getElem_map, List.getElem_range]
  by_cases e : k = i
  · subst e; rw [if_pos rfl, if_pos (by omega)]
  · rw [if_neg e]
    by_cases e2 : i < k
    · rw [if_pos e2, if_pos (by omega)]
    · rw [if_neg e2, if_neg (by omega)]
theorem txS_end (L : List Int) : (txS L L.length).map (·.data.toList) = L.map Lib.itoa := by
  refine List.ext_getElem (by simp [txS]) fun i h1 h2 => ?_
  simp only [txS, List.getElem_map, List.getElem_range]
  have h : i < L.length := by simpa using h2
  rw [if_pos h, bs_list]
  simp [List.getD, h]
theorem getD_tail {α : Type} (Z : List α) (d : α) {j : Nat} {x : α} (h : Z[j]? = some x) : j < Z.length ∧ Z.getD j d = x := by
  have hj : j < Z.length := (List.getElem?_eq_some_iff.1 h).1
  exact ⟨hj, by simp [List.getD, h]⟩
end Go.Proofs.YtcnllohpkgmkpaaDoor
/- Slices of one-cell elements: how they read, in which blocks they lie, and what keeps them. -/
namespace Go.Proofs.YtcnllohpkgmkpaaDoor
open Go.RowKit Go.ChangeShapes Go.WideShapes

/-- Of the blocks that were there, those outside [lo, hi) are as they were. -/
structure Turned (lo hi : Nat) (w w' : World) : Prop where
  os : w'.os = w.os
  tape : w'.tape = w.tape
  output : w'.output = w.output
  size : w.heap.size ≤ w'.heap.size
  block : ∀ k, k < w.heap.size → (k < lo ∨ hi ≤ k) → w'.heap[k]? = w.heap[k]?
theorem Turned.refl (lo hi : Nat) (w : World) : Turned lo hi w w := ⟨rfl, rfl, rfl, Nat.le_refl _, fun _ _ _ => rfl⟩
theorem Turned.trans {lo hi : Nat} {a b c : World} (h : Turned lo hi a b) (k : Turned lo hi b c) : Turned lo hi a c :=
  ⟨k.os.trans h.os, k.tape.trans h.tape, k.output.trans h.output, Nat.le_trans h.size k.size, fun i hi hl => (k.block i (Nat.lt_of_lt_of_le hi h.size) hl).trans (h.block i hi hl)⟩
theorem Turned.wide {lo hi lo' hi' : Nat} {a b : World} (h : Turned lo hi a b) (h1 : lo' ≤ lo) (h2 : hi ≤ hi') : Turned lo' hi' a b :=
  ⟨h.os, h.tape, h.output, h.size, fun i hi hl => h.block i hi (by omega)⟩
theorem Turned.of_below {B lo hi : Nat} {w w' : World} (h : Below B w w') (hB : w.heap.size ≤ B) : Turned lo hi w w' :=
  ⟨h.os, h.tape, h.output, h.size, fun k hk _ => h.block k (by omega)⟩
theorem Turned.below {lo hi : Nat} {w w' : World} (h : Turned lo hi w w') (hl : lo ≤ w.heap.size) : Below lo w w' :=
  ⟨h.os, h.tape, h.output, h.size, fun k hk => h.block k (by omega) (Or.inl hk)⟩
theorem Turned.drewN {lo hi : Nat} {a w : World} (h : Turned lo hi a w) (n : Nat) : Turned lo hi a (w.drewN n) :=
  h.trans ⟨rfl, rfl, rfl, Nat.le_refl _, fun _ _ _ => rfl⟩
theorem Turned.setCell {lo hi : Nat} {a w : World} (h : Turned lo hi a w) {p : Addr} (h1 : lo ≤ p.block) (h2 : p.block < hi) (u : Value) : Turned lo hi a (w.setCell p u) :=
  h.trans ⟨rfl, rfl, rfl, by simp [World.setCell], fun k _ hl => Below.heap_setCell _ _ _ _ (by omega)⟩

/-- Old cells and old marks read as before. -/
theorem bcell {W w1 : World} (hb : Below W.heap.size W w1) : (∀ b o, b < W.heap.size → w1.cell? ⟨b, o, none⟩ = W.cell? ⟨b, o, none⟩) ∧ (∀ b o, b < W.heap.size → w1.frozen? ⟨b, o, none⟩ = W.frozen? ⟨b, o, none⟩) :=
  ⟨fun b o h => hb.cell (p := ⟨b, o, none⟩) h, fun b o h => hb.frozen (p := ⟨b, o, none⟩) h⟩
theorem Below.undrew {B : Nat} {w w' : World} {n : Nat} (h : Below B (w.drewN n) w') : Below B w w' := ⟨h.os, h.tape, h.output, h.size, h.block⟩
theorem Below.then {B : Nat} {a b c : World} (h : Below B a b) (k : Below b.heap.size b c) (hB : B ≤ b.heap.size) : Below B a c := h.trans (k.mono hB)
theorem ret_int {k : IntKind} {a b : Int} (h : a = b) : Ending.returned (.int k a) = .returned (.int k b) := by rw [h]
theorem below_alloc (w : World) (o : Obj) : Below w.heap.size w (w.alloc o) := (Below.refl _ _).alloc (Nat.le_refl _) o

section
variable {α : Type} {mk : α → Value} {d : α}
/-- A slice value that reads as the list Z. -/
def VL (mk : α → Value) (d : α) (w : World) (v : Value) (Z : List α) : Prop :=
  (Z = [] ∧ ∃ ao cap, v = .slice ao 0 cap) ∨
  (∃ b off cap, v = .slice (some ⟨b, off, none⟩) Z.length (Z.length + cap) ∧ 0 < Z.length ∧ b < w.heap.size ∧ ∀ i, i < Z.length → w.cell? ⟨b, off + i, none⟩ = some (mk (Z.getD i d)))
/-- .. and lies in a block from lo on, below hi, that may be written. -/
def SI (mk : α → Value) (d : α) (lo hi : Nat) (w : World) (v : Value) (Z : List α) : Prop :=
  hi ≤ w.heap.size ∧ ((Z = [] ∧ ∃ ao cap, v = .slice ao 0 cap) ∨
  (∃ b off cap, v = .slice (some ⟨b, off, none⟩) Z.length (Z.length + cap) ∧ 0 < Z.length ∧ lo ≤ b ∧ b < hi ∧ (∀ i, w.frozen? ⟨b, i, none⟩ = false) ∧ ∀ i, i < Z.length → w.cell? ⟨b, off + i, none⟩ = some (mk (Z.getD i d))))

theorem VL.below {w w' : World} {v : Value} {Z : List α} (h : VL mk d w v Z) {B : Nat} (hb : Below B w w') (hB : w.heap.size ≤ B) : VL mk d w' v Z := by
  rcases h with h | ⟨b, off, cap, h1, h2, h3, h4⟩
  · exact Or.inl h
  · exact Or.inr ⟨b, off, cap, h1, h2, Nat.lt_of_lt_of_le h3 hb.size, fun i hi => by rw [hb.cell (p := ⟨b, off + i, none⟩) (by show b < B; omega)]; exact h4 i hi⟩
theorem VL.drewN {w : World} {v : Value} {Z : List α} (h : VL mk d w v Z) (n : Nat) : VL mk d (w.drewN n) v Z := h
theorem VL.alloc {w : World} {v : Value} {Z : List α} (h : VL mk d w v Z) (o : Obj) : VL mk d (w.alloc o) v Z := h.below ((Below.refl w.heap.size w).alloc (Nat.le_refl _) o) (Nat.le_refl _)
theorem VL.len {w : World} {v : Value} {Z : List α} (h : VL mk d w v Z) : ∃ ao cap, v = .slice ao Z.length cap := by
  rcases h with ⟨rfl, ao, cap, rfl⟩ | ⟨b, off, cap, rfl, _⟩
  · exact ⟨ao, cap, rfl⟩
  · exact ⟨_, _, rfl⟩

theorem SI.vl {lo hi : Nat} {w : World} {v : Value} {Z : List α} (h : SI mk d lo hi w v Z) : VL mk d w v Z := by
  obtain ⟨h0, h | ⟨b, off, cap, h1, h2, h3, h4, h5, h6⟩⟩ := h
  · exact Or.inl h
  · exact Or.inr ⟨b, off, cap, h1, h2, by omega, h6⟩
theorem SI.kept {lo hi lo2 hi2 : Nat} {w w' : World} {v : Value} {Z : List α} (h : SI mk d lo hi w v Z) (ht : Turned lo2 hi2 w w') (hs : hi ≤ lo2 ∨ hi2 ≤ lo) : SI mk d lo hi w' v Z := by
  obtain ⟨h0, h | ⟨b, off, cap, h1, h2, h3, h4, h5, h6⟩⟩ := h
  · exact ⟨Nat.le_trans h0 ht.size, Or.inl h⟩
  · have hk := ht.block b (by omega) (by omega)
    exact ⟨Nat.le_trans h0 ht.size, Or.inr ⟨b, off, cap, h1, h2, h3, h4, fun i => by rw [World.frozen?_of_block (w := w) (a := ⟨b, i, none⟩) hk]; exact h5 i, fun i hi => by rw [World.cell?_of_block (w := w) (a := ⟨b, off + i, none⟩) hk]; exact h6 i hi⟩⟩
theorem SI.below {lo hi B : Nat} {w w' : World} {v : Value} {Z : List α} (h : SI mk d lo hi w v Z) (hb : Below B w w') (hB : w.heap.size ≤ B) : SI mk d lo hi w' v Z :=
  h.kept (Turned.of_below (lo := hi) (hi := hi) hb hB) (Or.inl (Nat.le_refl _))
theorem SI.wide {lo hi lo' hi' : Nat} {w : World} {v : Value} {Z : List α} (h : SI mk d lo hi w v Z) (h1 : lo' ≤ lo) (h2 : hi ≤ hi') (h3 : hi' ≤ w.heap.size) : SI mk d lo' hi' w v Z := by
  obtain ⟨h0, h | ⟨b, off, cap, e1, e2, e3, e4, e5, e6⟩⟩ := h
  · exact ⟨h3, Or.inl h⟩
  · exact ⟨h3, Or.inr ⟨b, off, cap, e1, e2, by omega, by omega, e5, e6⟩⟩
theorem SI.set {lo hi : Nat} {w : World} {v : Value} {Z : List α} (h : SI mk d lo hi w v Z) {p : Addr} (hp : p.block < lo ∨ hi ≤ p.block) (u : Value) : SI mk d lo hi (w.setCell p u) v Z :=
  h.kept ((Turned.refl p.block (p.block + 1) w).setCell (Nat.le_refl _) (Nat.lt_succ_self _) u) (by omega)
theorem SI.len {lo hi : Nat} {w : World} {v : Value} {Z : List α} (h : SI mk d lo hi w v Z) : ∃ ao cap, v = .slice ao Z.length cap := h.vl.len
theorem SI.nil {w : World} (lo : Nat) {hi : Nat} (h : hi ≤ w.heap.size) (ao : Option Addr) (cap : Nat) : SI mk d lo hi w (.slice ao 0 cap) [] := ⟨h, Or.inl ⟨rfl, ao, cap, rfl⟩⟩

/-- A call that hands back a new list. -/
def Made (mk : α → Value) (d : α) (Z : List α) (w : World) (e : Ending) (w' : World) : Prop := ∃ v, e = .returned v ∧ SI mk d w.heap.size w'.heap.size w' v Z ∧ Below w.heap.size w w'

theorem getDlt {Z : List α} {k : Nat} (h : k < Z.length) : Z.getD k d = Z[k] := by simp [List.getD, h]

theorem cell_lt' {w : World} {b o : Nat} {v : Value} (h : w.cell? (Addr.add ⟨b, o, none⟩ 0) = some v) : b < w.heap.size := by
  rcases Nat.lt_or_ge b w.heap.size with h1 | h1
  · exact h1
  · exfalso
    have hn : w.heap[b]? = none := by simp [h1]
    simp [Addr.add, World.cell?, hn] at h

/-- A field, or an argument, that is a slice of one-cell elements each of which reads as one of ours. -/
theorem open_vl {H : Type} {enc : TypeId × Value → H} {P : Program} {w : World} {base : Nat} {held : Bool} {t e : TypeId} {v : Value} {y : DataW H × List MemPlace} {fuel : Nat} (ht : P.underlying t = some (.slice e)) (hc : P.cellsOf e = 1)
    (ok : α → Prop) (hone : ∀ n u z, DataW.trod enc P w base (fun _ => true) held n e [u] = some z → ∃ x, u = mk x ∧ ok x) (hf : DataW.trod enc P w base (fun _ => true) held fuel t [v] = some y) :
    ∃ Z : List α, VL mk d w v Z ∧ Z.length ≤ maxLen ∧ ∀ x ∈ Z, ok x := by
  rcases Deep.open_slice1 ht hc hf with ⟨hcs, hx⟩ | ⟨a, len', cap', m, n, V, D, Pl, hcs, _, hl, hm, hmm, hx, hV⟩
  · simp only [List.cons.injEq, and_true] at hcs
    subst hcs
    exact ⟨[], Or.inl ⟨rfl, none, 0, rfl⟩, Nat.zero_le _, fun x hx => by cases hx⟩
  · simp only [List.cons.injEq, and_true] at hcs
    subst hcs
    simp only [if_true] at hmm
    subst hmm
    have hcell : ∀ i, i < m → ∃ z, V i = mk z ∧ ok z := fun i hi => hone n _ _ (hV i hi).2
    haveI : Inhabited α := ⟨d⟩
    obtain ⟨z, hz⟩ := Deep.choose_lt (α := α) (p := fun i z => V i = mk z ∧ ok z) hcell
    refine ⟨(List.range len').map z, ?_, by simp; omega, fun x hx => ?_⟩
    rotate_left
    · obtain ⟨i, hi, rfl⟩ := List.mem_map.1 hx
      exact (hz i (by have := List.mem_range.1 hi; omega)).2
    by_cases h0 : len' = 0
    · subst h0
      exact Or.inl ⟨rfl, _, _, rfl⟩
    · right
      obtain ⟨b, off, spot⟩ := a
      have hc0 := (hV 0 (by omega)).1
      have hspot : spot = none := by simpa [Addr.add] using World.cell?_spot hc0
      subst hspot
      refine ⟨b, off, m - len', by simp only [List.length_map, List.length_range]; rw [Nat.add_sub_cancel' hl], by simpa using (by omega : 0 < len'), cell_lt' hc0, fun i hi => ?_⟩
      have hi' : i < len' := by simpa using hi
      have h3 := (hV i (by omega)).1
      rw [Go.WideShapes.add_plain] at h3
      rw [h3, (hz i (by omega)).1]
      simp [List.getD, hi']
end

theorem one_f32 {H : Type} {enc : TypeId × Value → H} {P : Program} {w : World} {base : Nat} {held : Bool} {e : TypeId} (he : P.underlying e = some (.float .f32)) :
    ∀ n u z, DataW.trod enc P w base (fun _ => true) held n e [u] = some z → ∃ x, u = Value.float .f32 x ∧ x < 4294967296 := by
  intro n u z h
  cases n with
  | zero => simp [DataW.trod] at h
  | succ n =>
    simp only [DataW.trod, he] at h
    cases u with
    | float k b =>
      cases k with
      | f32 =>
        by_cases hw : (Lit.float .f32 b).wf = true
        · exact ⟨b, rfl, by simpa [Lit.wf] using hw⟩
        · simp [hw] at h
      | f64 => simp at h
    | _ => simp at h
theorem one_i64 {H : Type} {enc : TypeId × Value → H} {P : Program} {w : World} {base : Nat} {held : Bool} {e : TypeId} (he : P.underlying e = some (.int .i64)) :
    ∀ n u z, DataW.trod enc P w base (fun _ => true) held n e [u] = some z → ∃ x, u = Value.int .i64 x ∧ -9223372036854775808 ≤ x ∧ x ≤ 9223372036854775807 := by
  intro n u z h
  cases n with
  | zero => simp [DataW.trod] at h
  | succ n =>
    simp only [DataW.trod, he] at h
    cases u with
    | int k b =>
      cases k with
      | i64 =>
        by_cases hw : (Lit.int .i64 b).wf = true
        · have h1 : IntKind.i64.min = -9223372036854775808 := by decide
          have h2 : IntKind.i64.max = 9223372036854775807 := by decide
          simp only [Lit.wf, Bool.and_eq_true, decide_eq_true_eq, h1, h2] at hw
          exact ⟨b, rfl, hw⟩
        · simp [hw] at h
      | _ => simp at h
    | _ => simp at h
end Go.Proofs.YtcnllohpkgmkpaaDoor
/- Lists of 64-bit integers: how they read; copies, marks; that lists are equal. -/
namespace Go.Proofs.YtcnllohpkgmkpaaDoor
open Go.RowKit Go.ChangeShapes Go.WideShapes

abbrev IL := VL (Value.int .i64) (0 : Int)
abbrev II := SI (Value.int .i64) (0 : Int)
theorem II.il {lo hi : Nat} {w : World} {v : Value} {Z : List Int} (h : II lo hi w v Z) : IL w v Z := SI.vl h
theorem getDI {Z : List Int} {k : Nat} (h : k < Z.length) : Z.getD k 0 = Z[k] := by simp [List.getD, h]
theorem Tryd.infoI : (Tryd.prog.info? 2).map (fun i => (i.zero, i.size, i.bytes)) = some (some (.int .i64 0), 1, 8) := by kernel_rfl

/-- A row of the call's own, of which the first k elements are the list's. -/
def OwnI (g : Nat) (Z : List Int) (k : Nat) (w : World) : Prop :=
  ∃ xs : List Value, w.ownsRow g 2 1 (.slice (some ⟨g, 0, none⟩) Z.length Z.length) Z.length xs ∧ ∀ i, i < k → xs[i]? = some (.int .i64 (Z.getD i 0))
theorem OwnI.len {g : Nat} {Z : List Int} {xs : List Value} {w : World} (h : w.ownsRow g 2 1 (.slice (some ⟨g, 0, none⟩) Z.length Z.length) Z.length xs) : xs.length = Z.length := by have := h.1; omega
theorem OwnI.cell {g : Nat} {Z : List Int} {k : Nat} {w : World} (h : OwnI g Z k w) {i : Nat} (hi : i < Z.length) : ∃ v, w.cell? ⟨g, i, none⟩ = some v := by
  obtain ⟨xs, h1, _⟩ := h
  refine ⟨xs[i]'(by rw [OwnI.len h1]; exact hi), ?_⟩
  rw [h1.cellAt i (by omega)]
  exact List.getElem?_eq_getElem _
theorem OwnI.free {g : Nat} {Z : List Int} {k : Nat} {w : World} (h : OwnI g Z k w) (i : Nat) : w.frozen? ⟨g, i, none⟩ = false := by
  obtain ⟨xs, h1, _⟩ := h
  exact h1.frozenAt i
theorem OwnI.step {g : Nat} {Z : List Int} {k : Nat} {w : World} (h : OwnI g Z k w) (hk : k < Z.length) : OwnI g Z (k + 1) (w.setCell ⟨g, k, none⟩ (.int .i64 (Z.getD k 0))) := by
  obtain ⟨xs, h1, h2⟩ := h
  refine ⟨xs.set k _, (h1.stored k _).1, fun i hi => ?_⟩
  by_cases e : i = k
  · subst e
    rw [List.getElem?_set_self (by rw [OwnI.len h1]; exact hk)]
  · rw [List.getElem?_set_ne (fun h => e h.symm)]
    exact h2 i (by omega)
theorem OwnI.block {g : Nat} {Z : List Int} {k : Nat} {w : World} (h : OwnI g Z k w) : g < w.heap.size := by
  obtain ⟨xs, h1, _⟩ := h
  rcases h1.2 with ⟨h', _⟩ | ⟨g', cap', cur, h', hb, hg, _⟩
  · simp at h'
  · simp only [Value.slice.injEq, Option.some.injEq, Addr.mk.injEq, and_true, true_and] at h'
    obtain ⟨rfl, rfl⟩ := h'
    rcases Nat.lt_or_ge g w.heap.size with h5 | h5
    · exact h5
    · rw [Array.getElem?_eq_none h5] at hg; cases hg
theorem OwnI.si {g : Nat} {Z : List Int} {w : World} (h : OwnI g Z Z.length w) : II g w.heap.size w (.slice (some ⟨g, 0, none⟩) Z.length Z.length) Z := by
  by_cases h0 : Z.length = 0
  · have : Z = [] := List.eq_nil_of_length_eq_zero h0
    subst this
    exact ⟨Nat.le_refl _, Or.inl ⟨rfl, _, _, rfl⟩⟩
  · refine ⟨Nat.le_refl _, Or.inr ⟨g, 0, 0, rfl, by omega, Nat.le_refl _, h.block, h.free, fun i hi => ?_⟩⟩
    obtain ⟨xs, h1, h2⟩ := h
    rw [Nat.zero_add, h1.cellAt i (by omega)]
    exact h2 i hi

def CopyingI (w : World) (Z : List Int) (k : Nat) (wr : World) : Prop := OwnI w.heap.size Z k wr ∧ Below w.heap.size w wr

/-- What a list of n holds behind its marksI from k on. -/
def marksI (k : Int) (n : Nat) : List Int := (List.range n).map fun i => (k + (i : Nat))
theorem marksI_len (k : Int) (n : Nat) : (marksI k n).length = n := by simp [marksI]
theorem marksI_at {k : Int} {n i : Nat} (h : i < n) : (marksI k n).getD i 0 = (k + (i : Nat)) := by simp [marksI, List.getD, h]

/-- The first j of Z's cells bear marks. -/
structure MarkingI (b off : Nat) (Z : List Int) (k : Int) (w : World) (j : Nat) (wr : World) : Prop where
  done : ∀ i, i < j → wr.cell? ⟨b, off + i, none⟩ = some (.int .i64 ((k + (i : Nat))))
  rest : ∀ i, i < Z.length → ∃ u, wr.cell? ⟨b, off + i, none⟩ = some u
  free : ∀ i, wr.frozen? ⟨b, i, none⟩ = false
  turned : Turned b (b + 1) w wr
theorem MarkingI.step {b off : Nat} {Z : List Int} {k : Int} {w wr : World} {j : Nat} (h : MarkingI b off Z k w j wr) (hj : j < Z.length) : MarkingI b off Z k w (j + 1) (wr.setCell ⟨b, off + j, none⟩ (.int .i64 ((k + (j : Nat))))) := by
  obtain ⟨u, hu⟩ := h.rest j hj
  refine ⟨fun i hi => ?_, fun i hi => ?_, fun i => by rw [World.frozen?_setCell]; exact h.free i, h.turned.setCell (Nat.le_refl _) (Nat.lt_succ_self _) _⟩
  · by_cases e : i = j
    · subst e; exact World.cell?_setCell_same _ _ _ hu
    · rw [World.cell?_setCell_other _ _ _ _ (by intro h; injection h with _ h2 _; omega)]; exact h.done i (by omega)
  · by_cases e : i = j
    · subst e; exact ⟨_, World.cell?_setCell_same _ _ _ hu⟩
    · rw [World.cell?_setCell_other _ _ _ _ (by intro h; injection h with _ h2 _; omega)]; exact h.rest i hi

/-- What marking a list does. -/
def MarkedI (lo hi : Nat) (v : Value) (k : Int) (n : Nat) (w : World) (e : Ending) (w' : World) : Prop := e = .returned (.int .i64 (k + (n : Nat))) ∧ II lo hi w' v (marksI k n) ∧ Turned lo hi w w'

set_option maxHeartbeats 400000 in
theorem markI64_any (lo hi : Nat) (v : Value) (Z : List Int) (k : Int) (w : World) (hv : II lo hi w v Z) (hn : Z.length ≤ 1048576) (hk0 : 0 ≤ k) (hk1 : k ≤ 1099511627776) :
    Calls Tryd.prog 31 #[v, .int .i64 k] w (MarkedI lo hi v k Z.length w) := by
  obtain ⟨hhi, ⟨rfl, ao, cap, rfl⟩ | ⟨b, off, cap, rfl, hpos, hlo, hbh, hfz, hcell⟩⟩ := hv
  · go_enter Tryd.func31, Tryd.ntmps31
    go_wp2
    refine wp_loop_rounds 1 ?_
    rw [rounds_succ]
    go_wp2
    go_ret
    exact ⟨by simp, SI.nil _ hhi _ _, Turned.refl _ _ _⟩
  · have h0 : MarkingI b off Z k w 0 w := ⟨fun i hi => by omega, fun i hi => ⟨_, hcell i hi⟩, hfz, Turned.refl _ _ _⟩
    clear hfz hcell
    go_enter Tryd.func31, Tryd.ntmps31
    go_wp2
    go_loopw [1, 5] (fun kk i wr => ∃ j : Nat, j ≤ Z.length ∧ i = .int .i64 j ∧ kk = .int .i64 (k + (j : Nat)) ∧ MarkingI b off Z k w j wr) (fun _ i _ => Z.length - (intOf i).toNat)
    case atStart => exact ⟨0, Nat.zero_le _, rfl, by simp, h0⟩
    case round =>
      clear h0
      obtain ⟨j, hj, rfl, rfl, hM⟩ := hrel
      by_cases hlt : j < Z.length
      · obtain ⟨u, hu⟩ := hM.rest j hlt
        have hf := hM.free (off + j)
        have hM2 := Lib.hid (hM.step hlt)
        clear hM
        go_wp2
        go_roundw
        case rel => exact ⟨j + 1, by omega, by go_num, by go_num, hM2.out⟩
        case measure => simp [intOf]; omega
      · obtain rfl : j = Z.length := by omega
        have hM2 := Lib.hid hM
        clear hM
        go_wp2
        go_ret
        have hM := hM2.out
        have ht : Turned lo hi w _ := hM.turned.wide hlo hbh
        exact ⟨rfl, ⟨Nat.le_trans hhi ht.size, Or.inr ⟨b, off, cap, by rw [marksI_len], by rw [marksI_len]; exact hpos, hlo, hbh, hM.free, fun i hi => by rw [marksI_len] at hi; rw [marksI_at hi]; exact hM.done i hi⟩⟩, ht⟩

set_option maxHeartbeats 400000 in
theorem heldI64_any (v : Value) (k : Int) (n : Nat) (w : World) (hv : IL w v (marksI k n)) (hn : n ≤ 1048576) (hk0 : 0 ≤ k) (hk1 : k ≤ 1099511627776) :
    Calls Tryd.prog 32 #[v, .int .i64 k] w fun e w' => e = .returned (.int .i64 (k + (n : Nat))) ∧ w = w' := by
  rcases hv with ⟨h0, ao, cap, rfl⟩ | ⟨b, off, cap, rfl, hpos, hbl, hcell⟩
  · have hn0 : n = 0 := by have := marksI_len k n; rw [h0] at this; simpa using this.symm
    subst hn0
    clear h0
    go_enter Tryd.func32, Tryd.ntmps32
    go_wp2
    refine wp_loop_rounds 1 ?_
    rw [rounds_succ]
    go_wp2
    go_ret
    exact ⟨by simp, rfl⟩
  · rw [marksI_len] at hpos hcell ⊢
    go_enter Tryd.func32, Tryd.ntmps32
    go_wp2
    go_loop [1, 5] (fun kk i => ∃ j : Nat, j ≤ n ∧ i = .int .i64 j ∧ kk = .int .i64 (k + (j : Nat))) (fun _ i => n - (intOf i).toNat)
    case atStart => exact ⟨0, Nat.zero_le _, rfl, by simp⟩
    case round =>
      obtain ⟨j, hj, rfl, rfl⟩ := hrel
      by_cases hlt : j < n
      · have hc1 := hcell j hlt
        rw [marksI_at hlt] at hc1
        clear hcell
        go_wp2
        go_round
        case rel => exact ⟨j + 1, by omega, by go_num, by go_num⟩
        case measure => simp [intOf]; omega
      · obtain rfl : j = n := by omega
        clear hcell
        go_wp2
        go_ret
        exact ⟨rfl, rfl⟩

set_option maxHeartbeats 400000 in
theorem eqI64_num (b1 off1 cap1 b2 off2 cap2 : Nat) (Z : List Int) (w : World) (hn : Z.length ≤ 1048576) (hc1 : ∀ i, i < Z.length → w.cell? ⟨b1, off1 + i, none⟩ = some (.int .i64 (Z.getD i 0))) (hc2 : ∀ i, i < Z.length → w.cell? ⟨b2, off2 + i, none⟩ = some (.int .i64 (Z.getD i 0))) :
    Calls Tryd.prog 30 #[.slice (some ⟨b1, off1, none⟩) Z.length cap1, .slice (some ⟨b2, off2, none⟩) Z.length cap2] w fun e w' => e = .returned (.bool true) ∧ ∃ n, w' = w.drewN n := by
  go_enter Tryd.func30, Tryd.ntmps30
  go_wp2
  go_loopw [5] (fun i wr => ∃ k : Nat, k ≤ Z.length ∧ i = .int .i64 k ∧ ∃ n, wr = w.drewN n) (fun i _ => Z.length - (intOf i).toNat)
  case atStart => exact ⟨0, Nat.zero_le _, rfl, 0, rfl⟩
  case round =>
    obtain ⟨k, hk, rfl, hwr⟩ := hrel
    by_cases hlt : k < Z.length
    · have c1 : wr.cell? ⟨b1, off1 + k, none⟩ = some (.int .i64 (Z.getD k 0)) := by obtain ⟨n, rfl⟩ := hwr; exact hc1 k hlt
      have c2 : wr.cell? ⟨b2, off2 + k, none⟩ = some (.int .i64 (Z.getD k 0)) := by obtain ⟨n, rfl⟩ := hwr; exact hc2 k hlt
      have HW : Hid (∀ m, ∃ n, wr.drewN m = w.drewN n) := Lib.hid (fun m => by obtain ⟨n, rfl⟩ := hwr; exact ⟨n + m, World.drewN_drewN _ _ _⟩)
      clear hc1 hc2 hwr
      rw [getDI hlt] at c1 c2
      generalize Z[k] = z at c1 c2
      go_wp2
      go_quiet (fail)
      go_wp2
      go_roundw
      case rel => exact ⟨k + 1, by omega, by go_num, HW.out _⟩
      case measure => simp [intOf]; omega
    · obtain rfl : k = Z.length := by omega
      have HW := Lib.hid hwr
      clear hc1 hc2 hwr
      go_wp2
      go_ret
      exact ⟨rfl, HW.out⟩
theorem eqI64_any (v1 v2 : Value) (Z : List Int) (w : World) (hn : Z.length ≤ 1048576) (h1 : IL w v1 Z) (h2 : IL w v2 Z) :
    Calls Tryd.prog 30 #[v1, v2] w fun e w' => e = .returned (.bool true) ∧ ∃ n, w' = w.drewN n := by
  rcases h1 with ⟨rfl, ao, cap, rfl⟩ | ⟨b, off, cap, rfl, hpos, hbl, hcell⟩
  · rcases h2 with ⟨_, ao2, cap2, rfl⟩ | ⟨b2, off2, cap2, rfl, hpos2, hbl2, hcell2⟩
    · go_enter Tryd.func30, Tryd.ntmps30
      go_wp2
      refine wp_loop_rounds 1 ?_
      rw [rounds_succ]
      go_wp2
      go_ret
      exact ⟨rfl, 0, rfl⟩
    · exact absurd hpos2 (by simp)
  · rcases h2 with ⟨rfl, ao2, cap2, rfl⟩ | ⟨b2, off2, cap2, rfl, hpos2, hbl2, hcell2⟩
    · exact absurd hpos (by simp)
    · exact eqI64_num _ _ _ _ _ _ Z w hn hcell hcell2
theorem quiet_below' {w w' : World} (h : ∃ n, w' = w.drewN n) : Below w.heap.size w w' := by
  obtain ⟨n, rfl⟩ := h
  exact below_drewN (Below.refl _ _) n
theorem eqI64_says (v u : Value) (Z : List Int) (w : World) (hn : Z.length ≤ 1048576) (h1 : IL w v Z) (h2 : IL w u Z) : Calls Tryd.prog 30 #[v, u] w fun e w' => e = .returned (.bool true) ∧ Below w.heap.size w w' :=
  (eqI64_any v u Z w hn h1 h2).mono fun _ _ ⟨h1, h2⟩ => ⟨h1, quiet_below' h2⟩
theorem heldI64_says (v : Value) (k : Int) (n : Nat) (w : World) (hv : IL w v (marksI k n)) (hn : n ≤ 1048576) (hk0 : 0 ≤ k) (hk1 : k ≤ 1099511627776) :
    Calls Tryd.prog 32 #[v, .int .i64 k] w fun e w' => e = .returned (.int .i64 (k + (n : Nat))) ∧ Below w.heap.size w w' :=
  (heldI64_any v k n w hv hn hk0 hk1).mono fun _ _ ⟨h1, h2⟩ => ⟨h1, by rw [← h2]; exact Below.refl _ _⟩
theorem IL.long {w : World} {v : Value} {Z : List Int} (h : IL w v Z) : ∃ ao cap, v = .slice ao Z.length cap := VL.len h
theorem IL.below {w w' : World} {v : Value} {Z : List Int} (h : IL w v Z) {B : Nat} (hb : Below B w w') (hB : w.heap.size ≤ B) : IL w' v Z := VL.below h hb hB
theorem II.wide' {lo lo' hi : Nat} {w : World} {v : Value} {Z : List Int} (h : II lo hi w v Z) (h1 : lo' ≤ lo) : II lo' hi w v Z := SI.wide h h1 (Nat.le_refl _) h.1
theorem II.below' {lo hi : Nat} {w w' : World} {v : Value} {Z : List Int} (h : II lo hi w v Z) {B : Nat} (hb : Below B w w') (hB : w.heap.size ≤ B) : II lo hi w' v Z := SI.below h hb hB
theorem II.kept' {lo hi lo2 hi2 : Nat} {w w' : World} {v : Value} {Z : List Int} (h : II lo hi w v Z) (ht : Turned lo2 hi2 w w') (hs : hi ≤ lo2 ∨ hi2 ≤ lo) : II lo hi w' v Z := SI.kept h ht hs
theorem II.len' {lo hi : Nat} {w : World} {v : Value} {Z : List Int} (h : II lo hi w v Z) : ∃ ao cap, v = .slice ao Z.length cap := SI.len h
end Go.Proofs.YtcnllohpkgmkpaaDoor
/- Boxes of structs: what their cells hold, and what keeps it. -/
namespace Go.Proofs.YtcnllohpkgmkpaaDoor
open Go.RowKit Go.ChangeShapes Go.WideShapes

theorem keep_cell {B : Nat} {w w' : World} {g o : Nat} {v : Value} (h : w.cell? ⟨g, o, none⟩ = some v) (hb : Below B w w') (hg : g < B) : w'.cell? ⟨g, o, none⟩ = some v := by
  rw [hb.cell (p := ⟨g, o, none⟩) hg]; exact h
structure Box2 (w : World) (g : Nat) (a b : Value) : Prop where
  c0 : w.cell? ⟨g, 0, none⟩ = some a
  c1 : w.cell? ⟨g, 1, none⟩ = some b
structure Box3 (w : World) (g : Nat) (a b c : Value) : Prop where
  c0 : w.cell? ⟨g, 0, none⟩ = some a
  c1 : w.cell? ⟨g, 1, none⟩ = some b
  c2 : w.cell? ⟨g, 2, none⟩ = some c
structure Box4 (w : World) (g : Nat) (a b c d : Value) : Prop where
  c0 : w.cell? ⟨g, 0, none⟩ = some a
  c1 : w.cell? ⟨g, 1, none⟩ = some b
  c2 : w.cell? ⟨g, 2, none⟩ = some c
  c3 : w.cell? ⟨g, 3, none⟩ = some d
theorem Box2.keep {B : Nat} {w w' : World} {g : Nat} {a b : Value} (h : Box2 w g a b) (hb : Below B w w') (hg : g < B) : Box2 w' g a b := ⟨keep_cell h.c0 hb hg, keep_cell h.c1 hb hg⟩
theorem Box3.keep {B : Nat} {w w' : World} {g : Nat} {a b c : Value} (h : Box3 w g a b c) (hb : Below B w w') (hg : g < B) : Box3 w' g a b c := ⟨keep_cell h.c0 hb hg, keep_cell h.c1 hb hg, keep_cell h.c2 hb hg⟩
theorem Box4.keep {B : Nat} {w w' : World} {g : Nat} {a b c d : Value} (h : Box4 w g a b c d) (hb : Below B w w') (hg : g < B) : Box4 w' g a b c d := ⟨keep_cell h.c0 hb hg, keep_cell h.c1 hb hg, keep_cell h.c2 hb hg, keep_cell h.c3 hb hg⟩
theorem Box2.mk' (w : World) (a b : Value) (T : TypeId) : Box2 (w.alloc (.cells #[a, b] T)) w.heap.size a b := ⟨World.cell?_alloc_new _ _ _ _, World.cell?_alloc_new _ _ _ _⟩
theorem Box3.mk' (w : World) (a b c : Value) (T : TypeId) : Box3 (w.alloc (.cells #[a, b, c] T)) w.heap.size a b c := ⟨World.cell?_alloc_new _ _ _ _, World.cell?_alloc_new _ _ _ _, World.cell?_alloc_new _ _ _ _⟩
theorem Box4.mk' (w : World) (a b c d : Value) (T : TypeId) : Box4 (w.alloc (.cells #[a, b, c, d] T)) w.heap.size a b c d := ⟨World.cell?_alloc_new _ _ _ _, World.cell?_alloc_new _ _ _ _, World.cell?_alloc_new _ _ _ _, World.cell?_alloc_new _ _ _ _⟩
theorem cell_block {w : World} {b o : Nat} {v : Value} (h : w.cell? ⟨b, o, none⟩ = some v) : b < w.heap.size := by
  rcases Nat.lt_or_ge b w.heap.size with h1 | h1
  · exact h1
  · exfalso
    have hn : w.heap[b]? = none := by simp [h1]
    simp [World.cell?, hn] at h
theorem Box2.lt {w : World} {g : Nat} {a b : Value} (h : Box2 w g a b) : g < w.heap.size := cell_block h.c0
theorem Box3.lt {w : World} {g : Nat} {a b c : Value} (h : Box3 w g a b c) : g < w.heap.size := cell_block h.c0
theorem Box4.lt {w : World} {g : Nat} {a b c d : Value} (h : Box4 w g a b c d) : g < w.heap.size := cell_block h.c0
end Go.Proofs.YtcnllohpkgmkpaaDoor
/- What the walks over integers need: answers, bounds, boxes, how lists of integers come in. -/
namespace Go.Proofs.YtcnllohpkgmkpaaDoor
open Go.RowKit Go.ChangeShapes Go.WideShapes

/-- A call that only reads and draws, and answers so. -/
def Tells (b : Bool) (w : World) (e : Ending) (w' : World) : Prop := e = .returned (.bool b) ∧ ∃ n, w' = w.drewN n
theorem Tells.below {b : Bool} {w w' : World} {e : Ending} (h : Tells b w e w') : e = .returned (.bool b) ∧ Below w.heap.size w w' := by
  obtain ⟨h1, n, rfl⟩ := h
  exact ⟨h1, below_drewN (Below.refl _ _) n⟩
theorem tells {b c : Bool} {w : World} (n : Nat) (h : b = c) : Tells c w (.returned (.bool b)) (w.drewN n) := ⟨by rw [h], n, rfl⟩
theorem tells2 {b c : Bool} {w : World} (n m : Nat) (h : b = c) : Tells c w (.returned (.bool b)) ((w.drewN n).drewN m) := ⟨by rw [h], _, World.drewN_drewN _ _ _⟩
/-- A call that answers so, and lets the old memory be. -/
def Says (b : Bool) (w : World) (e : Ending) (w' : World) : Prop := e = .returned (.bool b) ∧ Below w.heap.size w w'
theorem says {b c : Bool} {w w' : World} (h : b = c) (k : Below w.heap.size w w') : Says c w (.returned (.bool b)) w' := ⟨by rw [h], k⟩
theorem Tells.says {b : Bool} {w w' : World} {e : Ending} (h : Tells b w e w') : Says b w e w' := h.below
theorem ret_bool {a b : Bool} (h : a = b) : Ending.returned (.bool a) = .returned (.bool b) := by rw [h]
theorem ret_ib {a b : Int} {c : Bool} (h : a = b) : Ending.returned (.tuple #[.int .i64 a, .bool c]) = .returned (.tuple #[.int .i64 b, .bool c]) := by rw [h]
/-- A call that answers a number, and lets the old memory be. -/
def SaysI (n : Int) (w : World) (e : Ending) (w' : World) : Prop := e = .returned (.int .i64 n) ∧ Below w.heap.size w w'
/-- A number and a bool. -/
def SaysIB (n : Int) (b : Bool) (w : World) (e : Ending) (w' : World) : Prop := e = .returned (.tuple #[.int .i64 n, .bool b]) ∧ Below w.heap.size w w'
/-- A list and a bool; a list, a number and a bool. -/
def SaysJB (Z : List Int) (b : Bool) (w : World) (e : Ending) (w' : World) : Prop := ∃ v, e = .returned (.tuple #[v, .bool b]) ∧ II w.heap.size w'.heap.size w' v Z ∧ Below w.heap.size w w'
def SaysJIB (Z : List Int) (n : Int) (b : Bool) (w : World) (e : Ending) (w' : World) : Prop := ∃ v, e = .returned (.tuple #[v, .int .i64 n, .bool b]) ∧ II w.heap.size w'.heap.size w' v Z ∧ Below w.heap.size w w'
theorem keep_cell' {lo hi : Nat} {w w' : World} {g o : Nat} {v : Value} (h : w.cell? ⟨g, o, none⟩ = some v) (ht : Turned lo hi w w') (hg : g < lo ∨ hi ≤ g) : w'.cell? ⟨g, o, none⟩ = some v := by
  rw [World.cell?_of_block (w := w) (a := ⟨g, o, none⟩) (ht.block g (cell_block h) hg)]; exact h
theorem Box2.kept {lo hi : Nat} {w w' : World} {g : Nat} {a b : Value} (h : Box2 w g a b) (ht : Turned lo hi w w') (hg : g < lo ∨ hi ≤ g) : Box2 w' g a b := ⟨keep_cell' h.c0 ht hg, keep_cell' h.c1 ht hg⟩
/-- A list of integers as it comes in. -/
def FitI (Z : List Int) : Prop := Z.length ≤ maxLen ∧ ∀ x ∈ Z, -9223372036854775808 ≤ x ∧ x ≤ 9223372036854775807
structure OKI (Z : List Int) : Prop where
  size : Z.length ≤ 1048576
  fit : FitI Z
set_option maxRecDepth 100000 in
theorem open_i64s {H : Type} {enc : TypeId × Value → H} {w : World} {v : Value} {d : DataW H} {ps : List MemPlace} {b0 : Nat}
    (hval : Value.okWide Tryd.prog w .any b0 45 v) (hd : DataW.Trod enc Tryd.prog w 0 (fun _ => true) true 45 v d ps) : ∃ Z : List Int, IL w v Z ∧ FitI Z := by
  have hc : Tryd.prog.cellsOf 2 = 1 := by kernel_rfl
  obtain ⟨a0, len, cap, rfl⟩ := okWide_slice Tryd.underlying45 hval
  obtain ⟨fuel, hf⟩ := hd
  obtain ⟨Z, hZ, lZ, fZ⟩ := open_vl (d := (0 : Int)) Tryd.underlying45 hc _ (one_i64 Tryd.underlying2) hf
  exact ⟨Z, hZ, lZ, fZ⟩
theorem inI {Z : List Int} (h : ∀ x ∈ Z, -9223372036854775808 ≤ x ∧ x ≤ 9223372036854775807) (k : Nat) : -9223372036854775808 ≤ Z.getD k 0 ∧ Z.getD k 0 ≤ 9223372036854775807 := by
  by_cases hk : k < Z.length
  · rw [getDI hk]; exact h _ (List.getElem_mem hk)
  · simp [List.getD, List.getElem?_eq_none (Nat.le_of_not_lt hk)]

theorem l00In_is (t : Bool) (n lo hi : Int) (w : World) (h : (decide (lo ≤ n) && decide (n ≤ hi)) = t) : Calls Tryd.prog 84 #[.int .i64 n, .int .i64 lo, .int .i64 hi] w (Tells t w) := by
  subst h
  by_cases h1 : lo ≤ n
  · by_cases h2 : n ≤ hi
    · rw [decide_eq_true h1, decide_eq_true h2]
      go_enter Tryd.func84, Tryd.ntmps84
      go_wp2
      go_ret
      exact tells 0 (by simp)
    · rw [decide_eq_true h1, decide_eq_false h2]
      go_enter Tryd.func84, Tryd.ntmps84
      go_wp2
      go_ret
      exact tells 0 (by simp)
  · rw [decide_eq_false h1]
    go_enter Tryd.func84, Tryd.ntmps84
    go_wp2
    go_ret
    exact tells 0 (by simp)
theorem isFrom_is (t : Bool) (n lo hi : Int) (w : World) (h : (decide (lo ≤ n) && decide (n ≤ hi)) = t) : Calls Tryd.prog 103 #[.int .i64 lo, .int .i64 n, .int .i64 hi] w (Tells t w) := by
  subst h
  by_cases h1 : lo ≤ n
  · by_cases h2 : n ≤ hi
    · rw [decide_eq_true h1, decide_eq_true h2]
      go_enter Tryd.func103, Tryd.ntmps103
      go_wp2
      go_ret
      exact tells 0 (by simp)
    · rw [decide_eq_true h1, decide_eq_false h2]
      go_enter Tryd.func103, Tryd.ntmps103
      go_wp2
      go_ret
      exact tells 0 (by simp)
  · rw [decide_eq_false h1]
    go_enter Tryd.func103, Tryd.ntmps103
    go_wp2
    go_ret
    exact tells 0 (by simp)
end Go.Proofs.YtcnllohpkgmkpaaDoor
/- Lists of strings: how they read; copies; that lists are equal. -/
namespace Go.Proofs.YtcnllohpkgmkpaaDoor
open Go.RowKit Go.ChangeShapes Go.WideShapes

abbrev TL := VL Value.string (bsOf [])
abbrev TI := SI Value.string (bsOf [])
theorem TI.tl {lo hi : Nat} {w : World} {v : Value} {Z : List ByteArray} (h : TI lo hi w v Z) : TL w v Z := SI.vl h
theorem getDT {Z : List ByteArray} {k : Nat} (h : k < Z.length) : Z.getD k (bsOf []) = Z[k] := by simp [List.getD, h]
theorem Tryd.infoT : (Tryd.prog.info? 9).map (fun i => (i.zero, i.size, i.bytes)) = some (some (.string (bsOf [])), 1, 16) := by kernel_rfl

/-- A row of the call's own, of which the first k elements are the list's. -/
def OwnT (g : Nat) (Z : List ByteArray) (k : Nat) (w : World) : Prop :=
  ∃ xs : List Value, w.ownsRow g 9 1 (.slice (some ⟨g, 0, none⟩) Z.length Z.length) Z.length xs ∧ ∀ i, i < k → xs[i]? = some (.string (Z.getD i (bsOf [])))
theorem OwnT.len {g : Nat} {Z : List ByteArray} {xs : List Value} {w : World} (h : w.ownsRow g 9 1 (.slice (some ⟨g, 0, none⟩) Z.length Z.length) Z.length xs) : xs.length = Z.length := by have := h.1; omega
theorem OwnT.cell {g : Nat} {Z : List ByteArray} {k : Nat} {w : World} (h : OwnT g Z k w) {i : Nat} (hi : i < Z.length) : ∃ v, w.cell? ⟨g, i, none⟩ = some v := by
  obtain ⟨xs, h1, _⟩ := h
  refine ⟨xs[i]'(by rw [OwnT.len h1]; exact hi), ?_⟩
  rw [h1.cellAt i (by omega)]
  exact List.getElem?_eq_getElem _
theorem OwnT.free {g : Nat} {Z : List ByteArray} {k : Nat} {w : World} (h : OwnT g Z k w) (i : Nat) : w.frozen? ⟨g, i, none⟩ = false := by
  obtain ⟨xs, h1, _⟩ := h
  exact h1.frozenAt i
theorem OwnT.step {g : Nat} {Z : List ByteArray} {k : Nat} {w : World} (h : OwnT g Z k w) (hk : k < Z.length) : OwnT g Z (k + 1) (w.setCell ⟨g, k, none⟩ (.string (Z.getD k (bsOf [])))) := by
  obtain ⟨xs, h1, h2⟩ := h
  refine ⟨xs.set k _, (h1.stored k _).1, fun i hi => ?_⟩
  by_cases e : i = k
  · subst e
    rw [List.getElem?_set_self (by rw [OwnT.len h1]; exact hk)]
  · rw [List.getElem?_set_ne (fun h => e h.symm)]
    exact h2 i (by omega)
theorem OwnT.block {g : Nat} {Z : List ByteArray} {k : Nat} {w : World} (h : OwnT g Z k w) : g < w.heap.size := by
  obtain ⟨xs, h1, _⟩ := h
  rcases h1.2 with ⟨h', _⟩ | ⟨g', cap', cur, h', hb, hg, _⟩
  · simp at h'
  · simp only [Value.slice.injEq, Option.some.injEq, Addr.mk.injEq, and_true, true_and] at h'
    obtain ⟨rfl, rfl⟩ := h'
    rcases Nat.lt_or_ge g w.heap.size with h5 | h5
    · exact h5
    · rw [Array.getElem?_eq_none h5] at hg; cases hg
theorem OwnT.si {g : Nat} {Z : List ByteArray} {w : World} (h : OwnT g Z Z.length w) : TI g w.heap.size w (.slice (some ⟨g, 0, none⟩) Z.length Z.length) Z := by
  by_cases h0 : Z.length = 0
  · have : Z = [] := List.eq_nil_of_length_eq_zero h0
    subst this
    exact ⟨Nat.le_refl _, Or.inl ⟨rfl, _, _, rfl⟩⟩
  · refine ⟨Nat.le_refl _, Or.inr ⟨g, 0, 0, rfl, by omega, Nat.le_refl _, h.block, h.free, fun i hi => ?_⟩⟩
    obtain ⟨xs, h1, h2⟩ := h
    rw [Nat.zero_add, h1.cellAt i (by omega)]
    exact h2 i hi

def CopyingT (w : World) (Z : List ByteArray) (k : Nat) (wr : World) : Prop := OwnT w.heap.size Z k wr ∧ Below w.heap.size w wr

set_option maxHeartbeats 400000 in
theorem eqStr_num (b1 off1 cap1 b2 off2 cap2 : Nat) (Z : List ByteArray) (w : World) (hn : Z.length ≤ 1048576) (hc1 : ∀ i, i < Z.length → w.cell? ⟨b1, off1 + i, none⟩ = some (.string (Z.getD i (bsOf [])))) (hc2 : ∀ i, i < Z.length → w.cell? ⟨b2, off2 + i, none⟩ = some (.string (Z.getD i (bsOf [])))) :
    Calls Tryd.prog 12 #[.slice (some ⟨b1, off1, none⟩) Z.length cap1, .slice (some ⟨b2, off2, none⟩) Z.length cap2] w fun e w' => e = .returned (.bool true) ∧ ∃ n, w' = w.drewN n := by
  go_enter Tryd.func12, Tryd.ntmps12
  go_wp2
  go_loopw [5] (fun i wr => ∃ k : Nat, k ≤ Z.length ∧ i = .int .i64 k ∧ ∃ n, wr = w.drewN n) (fun i _ => Z.length - (intOf i).toNat)
  case atStart => exact ⟨0, Nat.zero_le _, rfl, 0, rfl⟩
  case round =>
    obtain ⟨k, hk, rfl, hwr⟩ := hrel
    by_cases hlt : k < Z.length
    · have c1 : wr.cell? ⟨b1, off1 + k, none⟩ = some (.string (Z.getD k (bsOf []))) := by obtain ⟨n, rfl⟩ := hwr; exact hc1 k hlt
      have c2 : wr.cell? ⟨b2, off2 + k, none⟩ = some (.string (Z.getD k (bsOf []))) := by obtain ⟨n, rfl⟩ := hwr; exact hc2 k hlt
      have HW : Hid (∀ m, ∃ n, wr.drewN m = w.drewN n) := Lib.hid (fun m => by obtain ⟨n, rfl⟩ := hwr; exact ⟨n + m, World.drewN_drewN _ _ _⟩)
      clear hc1 hc2 hwr
      rw [getDT hlt] at c1 c2
      generalize Z[k] = z at c1 c2
      go_wp2
      go_quiet (fail)
      go_wp2
      go_roundw
      case rel => exact ⟨k + 1, by omega, by go_num, HW.out _⟩
      case measure => simp [intOf]; omega
    · obtain rfl : k = Z.length := by omega
      have HW := Lib.hid hwr
      clear hc1 hc2 hwr
      go_wp2
      go_ret
      exact ⟨rfl, HW.out⟩
theorem eqStr_any (v1 v2 : Value) (Z : List ByteArray) (w : World) (hn : Z.length ≤ 1048576) (h1 : TL w v1 Z) (h2 : TL w v2 Z) :
    Calls Tryd.prog 12 #[v1, v2] w fun e w' => e = .returned (.bool true) ∧ ∃ n, w' = w.drewN n := by
  rcases h1 with ⟨rfl, ao, cap, rfl⟩ | ⟨b, off, cap, rfl, hpos, hbl, hcell⟩
  · rcases h2 with ⟨_, ao2, cap2, rfl⟩ | ⟨b2, off2, cap2, rfl, hpos2, hbl2, hcell2⟩
    · go_enter Tryd.func12, Tryd.ntmps12
      go_wp2
      refine wp_loop_rounds 1 ?_
      rw [rounds_succ]
      go_wp2
      go_ret
      exact ⟨rfl, 0, rfl⟩
    · exact absurd hpos2 (by simp)
  · rcases h2 with ⟨rfl, ao2, cap2, rfl⟩ | ⟨b2, off2, cap2, rfl, hpos2, hbl2, hcell2⟩
    · exact absurd hpos (by simp)
    · exact eqStr_num _ _ _ _ _ _ Z w hn hcell hcell2
theorem quiet_belowT {w w' : World} (h : ∃ n, w' = w.drewN n) : Below w.heap.size w w' := by
  obtain ⟨n, rfl⟩ := h
  exact below_drewN (Below.refl _ _) n
theorem eqStr_says (v u : Value) (Z : List ByteArray) (w : World) (hn : Z.length ≤ 1048576) (h1 : TL w v Z) (h2 : TL w u Z) : Calls Tryd.prog 12 #[v, u] w fun e w' => e = .returned (.bool true) ∧ Below w.heap.size w w' :=
  (eqStr_any v u Z w hn h1 h2).mono fun _ _ ⟨h1, h2⟩ => ⟨h1, quiet_belowT h2⟩
theorem TL.long {w : World} {v : Value} {Z : List ByteArray} (h : TL w v Z) : ∃ ao cap, v = .slice ao Z.length cap := VL.len h
theorem TL.below {w w' : World} {v : Value} {Z : List ByteArray} (h : TL w v Z) {B : Nat} (hb : Below B w w') (hB : w.heap.size ≤ B) : TL w' v Z := VL.below h hb hB
theorem TI.wide' {lo lo' hi : Nat} {w : World} {v : Value} {Z : List ByteArray} (h : TI lo hi w v Z) (h1 : lo' ≤ lo) : TI lo' hi w v Z := SI.wide h h1 (Nat.le_refl _) h.1
theorem TI.below' {lo hi : Nat} {w w' : World} {v : Value} {Z : List ByteArray} (h : TI lo hi w v Z) {B : Nat} (hb : Below B w w') (hB : w.heap.size ≤ B) : TI lo hi w' v Z := SI.below h hb hB
theorem TI.kept' {lo hi lo2 hi2 : Nat} {w w' : World} {v : Value} {Z : List ByteArray} (h : TI lo hi w v Z) (ht : Turned lo2 hi2 w w') (hs : hi ≤ lo2 ∨ hi2 ≤ lo) : TI lo hi w' v Z := SI.kept h ht hs
theorem TI.len' {lo hi : Nat} {w : World} {v : Value} {Z : List ByteArray} (h : TI lo hi w v Z) : ∃ ao cap, v = .slice ao Z.length cap := SI.len h
end Go.Proofs.YtcnllohpkgmkpaaDoor
/- Arrays of the call's own, of one-cell elements: what their cells hold; made, written, kept. -/
namespace Go.Proofs.YtcnllohpkgmkpaaDoor
open Go.RowKit Go.ChangeShapes Go.WideShapes

section
variable {α : Type} {mk : α → Value} {d : α}
/-- Block g holds, from off on, the list Z, and may be written. -/
structure Arr (mk : α → Value) (d : α) (w : World) (g off : Nat) (Z : List α) : Prop where
  cells : ∀ i, i < Z.length → w.cell? ⟨g, off + i, none⟩ = some (mk (Z.getD i d))
  free : ∀ i, w.frozen? ⟨g, i, none⟩ = false
theorem Arr.cell {w : World} {g off : Nat} {Z : List α} (h : Arr mk d w g off Z) {i : Nat} (hi : i < Z.length) : ∃ v, w.cell? ⟨g, off + i, none⟩ = some v := ⟨_, h.cells i hi⟩
theorem Arr.set {w : World} {g off : Nat} {Z : List α} (h : Arr mk d w g off Z) {i : Nat} (hi : i < Z.length) (x : α) : Arr mk d (w.setCell ⟨g, off + i, none⟩ (mk x)) g off (Z.set i x) := by
  refine ⟨fun j hj => ?_, fun j => by rw [World.frozen?_setCell]; exact h.free j⟩
  rw [List.length_set] at hj
  by_cases e : j = i
  · subst e
    rw [World.cell?_setCell_same _ _ _ (h.cells j hj)]
    simp [List.getD, hj]
  · rw [World.cell?_setCell_other _ _ _ _ (by intro hh; injection hh with _ h2 _; omega), h.cells j hj]
    rw [List.getD, List.getD, List.getElem?_set, if_neg (fun hh => e hh.symm)]
theorem Arr.set0 {w : World} {g : Nat} {Z : List α} (h : Arr mk d w g 0 Z) {i : Nat} (hi : i < Z.length) (x : α) : Arr mk d (w.setCell ⟨g, i, none⟩ (mk x)) g 0 (Z.set i x) := by
  have := h.set hi x
  rwa [Nat.zero_add] at this
theorem Arr.cell0 {w : World} {g : Nat} {Z : List α} (h : Arr mk d w g 0 Z) {i : Nat} (hi : i < Z.length) : w.cell? ⟨g, i, none⟩ = some (mk (Z.getD i d)) := by
  have := h.cells i hi
  rwa [Nat.zero_add] at this
theorem Arr.below {w w' : World} {g off B : Nat} {Z : List α} (h : Arr mk d w g off Z) (hb : Below B w w') (hg : g < B) : Arr mk d w' g off Z :=
  ⟨fun i hi => by rw [hb.cell (p := ⟨g, off + i, none⟩) hg]; exact h.cells i hi, fun i => by rw [hb.frozen (p := ⟨g, i, none⟩) hg]; exact h.free i⟩
theorem Arr.drewN {w : World} {g off : Nat} {Z : List α} (h : Arr mk d w g off Z) (n : Nat) : Arr mk d (w.drewN n) g off Z := ⟨h.cells, h.free⟩
theorem Arr.si {w : World} {g lo : Nat} {Z : List α} (h : Arr mk d w g 0 Z) (hl : lo ≤ g) (hg : g < w.heap.size) : SI mk d lo w.heap.size w (.slice (some ⟨g, 0, none⟩) Z.length Z.length) Z := by
  by_cases h0 : Z.length = 0
  · have : Z = [] := List.eq_nil_of_length_eq_zero h0
    subst this
    exact ⟨Nat.le_refl _, Or.inl ⟨rfl, _, _, rfl⟩⟩
  · exact ⟨Nat.le_refl _, Or.inr ⟨g, 0, 0, rfl, by omega, hl, hg, h.free, h.cells⟩⟩
end
theorem made_one (v : Value) (n : Nat) {j : Nat} (hj : j < n) : (madeCells v.cells (n * 1)).toList[j]? = some (v.cells.getD 0 undef) ∨ v.cells.size ≠ 1 := by
  by_cases h : v.cells.size = 1
  · left
    rw [Array.getElem?_toList]
    simp [madeCells, hj, h, Nat.mod_one]
  · exact Or.inr h
theorem Arr.made_f {w : World} {n B e : Nat} (h : w.ownsRow B e 1 (.slice (some ⟨B, 0, none⟩) n n) n (madeCells (Value.float .f32 0).cells (n * 1)).toList) : Arr (Value.float .f32) 0 w B 0 (List.replicate n 0) := by
  refine ⟨fun i hi => ?_, h.frozenAt⟩
  rw [List.length_replicate] at hi
  rw [Nat.zero_add, h.cellAt i (by omega)]
  rcases made_one (.float .f32 0) n hi with h1 | h1
  · rw [h1]; simp [Value.cells, List.getD, hi]
  · exact absurd rfl h1
theorem Arr.made_i {w : World} {n B e : Nat} (h : w.ownsRow B e 1 (.slice (some ⟨B, 0, none⟩) n n) n (madeCells (Value.int .i64 0).cells (n * 1)).toList) : Arr (Value.int .i64) 0 w B 0 (List.replicate n 0) := by
  refine ⟨fun i hi => ?_, h.frozenAt⟩
  rw [List.length_replicate] at hi
  rw [Nat.zero_add, h.cellAt i (by omega)]
  rcases made_one (.int .i64 0) n hi with h1 | h1
  · rw [h1]; simp [Value.cells, List.getD, hi]
  · exact absurd rfl h1
end Go.Proofs.YtcnllohpkgmkpaaDoor
/- Lists that grow by append, of the call's own. -/
namespace Go.Proofs.YtcnllohpkgmkpaaDoor
open Go.RowKit Go.ChangeShapes Go.WideShapes

section
variable {α : Type} {mk : α → Value} {d : α}
/-- v is nil and Z empty, or v is a row, in a block from B on, that begins with Z and may be appended to. -/
def Grows (mk : α → Value) (E : TypeId) (B : Nat) (v : Value) (Z : List α) (w : World) : Prop := w.ownsRow B E 1 v Z.length (Z.map mk)
theorem Grows.drewN {E B : Nat} {v : Value} {Z : List α} {w : World} (h : Grows mk E B v Z w) (n : Nat) : Grows mk E B v Z (w.drewN n) := h
theorem Grows.alloc {E B : Nat} {v : Value} {Z : List α} {w : World} (h : Grows mk E B v Z w) (o : Obj) : (w.alloc o).ownsRow B E 1 v Z.length (Z.map mk) := World.ownsRow.alloc h o
theorem Grows.nil (mk : α → Value) (E B : Nat) (w : World) : Grows mk E B (.slice none 0 0) [] w := World.ownsRow_nil w B E 1
theorem Grows.empty (mk : α → Value) (E B : Nat) (w : World) (h : B ≤ w.heap.size) : Grows mk E B (.slice (some ⟨w.heap.size, 0, none⟩) 0 0) [] (w.alloc (.cells #[] E)) := World.ownsRow_made w #[] 0 h (Nat.zero_le _) rfl
theorem Grows.more {E B m : Nat} {v : Value} {Z news : List α} {w : World} (hm : news.length = m) (h : w.ownsRow B E 1 v (Z.length + m) (Z.map mk ++ news.map mk)) : Grows mk E B v (Z ++ news) w := by
  unfold Grows
  rw [List.length_append, List.map_append, hm]
  exact h
theorem Grows.si {E B : Nat} {v : Value} {Z : List α} {w : World} (h : Grows mk E B v Z w) : SI mk d B w.heap.size w v Z := by
  have h0 := h
  refine ⟨Nat.le_refl _, ?_⟩
  rcases h.2 with ⟨hv, hn⟩ | ⟨g, cap, cur, rfl, hb, hg, hn, hc, hs, ht⟩
  · exact Or.inl ⟨List.eq_nil_of_length_eq_zero hn, none, 0, by rw [hv]⟩
  · by_cases hz : Z.length = 0
    · have : Z = [] := List.eq_nil_of_length_eq_zero hz
      subst this
      exact Or.inl ⟨rfl, _, _, rfl⟩
    · refine Or.inr ⟨g, 0, cap - Z.length, by rw [Nat.add_sub_cancel' hn], by omega, hb, (Array.getElem?_eq_some_iff.1 hg).1, fun i => ?_, fun i hi => ?_⟩
      · simp [World.frozen?, hg]
      · rw [Nat.zero_add]
        simp only [World.cell?, hg]
        have h1 : (cur.toList.take (Z.length * 1))[i]? = (Z.map mk)[i]? := by rw [ht]
        rw [List.getElem?_take, if_pos (by omega)] at h1
        simp only [Option.isSome_none, Bool.false_eq_true, if_false]
        rw [← Array.getElem?_toList, h1]
        simp [List.getD, hi]
theorem Grows.block {E B : Nat} {v : Value} {Z : List α} {w : World} (h : Grows mk E B v Z w) : ∀ k, v.ownBlock = some k → B ≤ k := fun k hk => (World.ownsRow.lt h k hk).1
theorem one_new {w : World} {o : Value} {T : TypeId} : ∀ j u, [o][j]? = some u → (w.alloc (.cells #[o] T)).cell? ((⟨w.heap.size, 0, none⟩ : Addr).add j) = some u := by
  intro j u hu
  cases j with
  | zero =>
    simp at hu
    subst hu
    exact World.cell?_alloc_new _ _ _ _
  | succ j => simp at hu
end
end Go.Proofs.YtcnllohpkgmkpaaDoor
/- Lists that grow, kept over calls. -/
namespace Go.Proofs.YtcnllohpkgmkpaaDoor
open Go.RowKit Go.ChangeShapes Go.WideShapes

theorem Grows.below {α : Type} {mk : α → Value} {E B C : Nat} {v : Value} {Z : List α} {w w' : World} (h : Grows mk E B v Z w) (hb : Below C w w') (hC : w.heap.size ≤ C) : Grows mk E B v Z w' := by
  obtain ⟨h1, h2⟩ := h
  refine ⟨h1, ?_⟩
  rcases h2 with h2 | ⟨g, cap, cur, e, hB, hg, hr⟩
  · exact Or.inl h2
  · refine Or.inr ⟨g, cap, cur, e, hB, (hb.block g ?_).trans hg, hr⟩
    have := (Array.getElem?_eq_some_iff.1 hg).1
    omega
/-- A literal of one element that may be appended to. -/
theorem Grows.one {α : Type} (mk : α → Value) (E B : Nat) (w : World) (x : α) (h : B ≤ w.heap.size) : Grows mk E B (.slice (some ⟨w.heap.size, 0, none⟩) 1 1) [x] (w.alloc (.cells #[mk x] E)) :=
  ⟨by simp, Or.inr ⟨w.heap.size, 1, #[mk x], rfl, h, heap_alloc_new w _, Nat.le_refl _, by decide, rfl, by simp⟩⟩
end Go.Proofs.YtcnllohpkgmkpaaDoor
/- The parts of a text between marks: the model. -/
namespace Go.Proofs.YtcnllohpkgmkpaaDoor
open Go.RowKit Go.ChangeShapes Go.WideShapes

/-- Does a part end at place i? -/
def cutE (s : ByteArray) (m : UInt8) (i : Nat) : Bool := decide (i = s.size) || (decide (s.data.toList[i]? = some m))
/-- The parts that end before place i, and where the next one begins. -/
def cutB (s : ByteArray) (m : UInt8) : Nat → List ByteArray × Nat
  | 0 => ([], 0)
  | i + 1 => if cutE s m i then ((cutB s m i).1 ++ [s.extract (cutB s m i).2 i], i + 1) else cutB s m i
theorem cutB_le (s : ByteArray) (m : UInt8) : ∀ i, (cutB s m i).2 ≤ i ∧ (cutB s m i).1.length ≤ i
  | 0 => ⟨Nat.le_refl _, Nat.le_refl _⟩
  | i + 1 => by
    have h := cutB_le s m i
    unfold cutB
    split
    · refine ⟨Nat.le_refl _, ?_⟩
      rw [List.length_append]
      show _ + 1 ≤ _
      omega
    · omega
theorem cutE_end (s : ByteArray) (m : UInt8) : cutE s m s.size = true := by unfold cutE; simp
theorem cutE_at {s : ByteArray} {m : UInt8} {i : Nat} (h : i < s.size) : cutE s m i = ((s[i]'h).toNat == m.toNat) := by
  unfold cutE
  rw [decide_eq_false (by omega), Bool.false_or, List.getElem?_eq_getElem (by rw [Array.length_toList]; exact h)]
  have e : s.data.toList[i]'(by rw [Array.length_toList]; exact h) = s[i]'h := rfl
  rw [e, Bool.eq_iff_iff, decide_eq_true_eq, beq_iff_eq]
  constructor
  · intro q; injection q with q; rw [q]
  · intro q; congr 1; exact UInt8.toNat_inj.1 q
theorem Tryd.infoCut : (Tryd.prog.info? 9).map (fun i => (i.zero, i.size, i.bytes)) = some (some (.string (bsOf [])), 1, 16) := by kernel_rfl
/-- A list of strings of the call's own, that may grow. -/
def MadeT (Z : List ByteArray) (w : World) (e : Ending) (w' : World) : Prop := ∃ v, e = .returned v ∧ Grows Value.string 9 w.heap.size v Z w' ∧ Below w.heap.size w w'
set_option maxRecDepth 100000 in
set_option maxHeartbeats 4000000 in
theorem l01Cut_any (s : ByteArray) (m : UInt8) (w : World) (hs : s.size ≤ 1048576) :
    Calls Tryd.prog 89 #[.string s, .int .u8 (m.toNat : Int)] w (MadeT (cutB s m (s.size + 1)).1 w) := by
  obtain ⟨i0, hi, hz0, hz1, hz2⟩ := info_parts Tryd.infoCut
  have HLE := Lib.hid (cutB_le s m)
  have G0 : Hid (Grows Value.string 9 w.heap.size (.slice (some ⟨w.heap.size, 0, none⟩) 0 0) (cutB s m 0).1 (w.alloc (.cells #[] 9))) := Lib.hid (Grows.empty Value.string _ _ w (Nat.le_refl _))
  have B0 := Lib.hid (below_alloc w (.cells #[] 9))
  have F0 : Hid ((cutB s m 0).2 = 0) := Lib.hid rfl
  go_enter Tryd.func89, Tryd.ntmps89
  go_wp2_with fail
  go_loopg [5, 6, 7] (s.size + 1) (fun gk v f i wr => ∃ k : Nat, k ≤ s.size + 1 ∧ gk + k = s.size + 1 ∧ i = .int .i64 k ∧ f = .int .i64 (((cutB s m k).2 : Nat) : Int) ∧ Grows Value.string 9 w.heap.size v (cutB s m k).1 wr ∧ Below w.heap.size w wr)
  case atStart => exact ⟨0, Nat.zero_le _, by omega, rfl, by rw [F0.out]; rfl, G0.out, B0.out⟩
  case round =>
    obtain ⟨k, hk, hgk, rfl, rfl, hG, hB⟩ := hrel
    clear G0 B0 F0
    have HB := Lib.hid hB
    have HG := Lib.hid hG
    have HGK := Lib.hid hgk
    have hle := HLE.out k
    have UY := Lib.hid (fun (h : cutE s m k = true) => (show cutB s m (k + 1) = ((cutB s m k).1 ++ [s.extract (cutB s m k).2 k], k + 1) from by rw [cutB, if_pos h]))
    have UN := Lib.hid (fun (h : cutE s m k = false) => (show cutB s m (k + 1) = cutB s m k from by rw [cutB, h]; rfl))
    have CE : Hid (k = s.size → cutE s m k = true) := Lib.hid (fun h => by subst h; exact cutE_end s m)
    have CA := Lib.hid (fun (h : k < s.size) => cutE_at (s := s) (m := m) h)
    clear hgk
    by_cases hlt : k ≤ s.size
    · generalize hP : cutB s m k = P at *
      obtain ⟨Y, f⟩ := P
      dsimp only at *
      have hsz := HB.out.size
      have hYl : Y.length ≤ 1048577 := by omega
      have hf1 : (0 : Int) ≤ (f : Int) := by omega
      have hf2 : (f : Int) ≤ (k : Int) := by omega
      have hf3 : (k : Int) ≤ (s.size : Int) := by omega
      have HYL := Lib.hid hYl
      obtain ⟨x, hx⟩ : ∃ x, x = s.extract f k := ⟨_, rfl⟩
      have HX := Lib.hid hx
      clear hP hG hB hYl hx
      by_cases hke : k = s.size
      · have E1 := Lib.hid (UY.out (CE.out hke))
        have d1 : ((k : Int) == (s.size : Int)) = true := by rw [beq_iff_eq]; omega
        clear hke
        go_wp2_with (at_builtin; refine wpList_append_own _ rfl _ _ 22 rfl w.heap.size 9 i0 (.string (bsOf [])) 1 16 Tryd.underlying22 hi hz0 hz1 hz2 rfl (by decide) _ _ _ rfl (Grows.alloc HG.out _) ⟨wr.heap.size, 0, none⟩ 1 1 [.string (s.extract f k)] rfl rfl ?c1 ?c2 ?c3 ?c4 ?c5 ?_)
        case c1 => exact one_new
        case c2 => intro u hu; simp at hu; subst hu; rfl
        case c3 => have := HYL.out; unfold maxLen; omega
        case c4 => have := HYL.out; omega
        case c5 => simp; omega
        intro v' w' hown hgrow _
        have GN : Hid (Grows Value.string 9 w.heap.size v' (cutB s m (k + 1)).1 w') := Lib.hid (by rw [E1.out]; exact Grows.more (news := [s.extract f k]) rfl hown)
        have BN : Hid (Below w.heap.size w w') := Lib.hid ((HB.out.alloc HB.out.size _).grown hgrow (by simp; omega) (fun g hg => HG.out.block g hg))
        clear hown hgrow
        go_wp2_with fail
        go_roundg (gk - 1)
        case measure => have := HGK.out; omega
        case rel => exact ⟨k + 1, by omega, by have := HGK.out; omega, by go_num, by (rw [E1.out]; go_num), GN.out, BN.out⟩
      · have hks : k < s.size := by omega
        have d1 : ((k : Int) == (s.size : Int)) = false := by rw [beq_eq_false_iff_ne]; omega
        have CA2 := Lib.hid (CA.out hks)
        by_cases hm : (s[k]'hks).toNat = m.toNat
        · have E1 := Lib.hid (UY.out (by rw [CA2.out, beq_iff_eq]; exact hm))
          have d2 : (((s[k]'hks).toNat : Int) == (m.toNat : Int)) = true := by rw [beq_iff_eq]; omega
          clear hke hm
          go_wp2_with (at_builtin; refine wpList_append_own _ rfl _ _ 22 rfl w.heap.size 9 i0 (.string (bsOf [])) 1 16 Tryd.underlying22 hi hz0 hz1 hz2 rfl (by decide) _ _ _ rfl (Grows.alloc HG.out _) ⟨wr.heap.size, 0, none⟩ 1 1 [.string (s.extract f k)] rfl rfl ?c1 ?c2 ?c3 ?c4 ?c5 ?_)
          case c1 => exact one_new
          case c2 => intro u hu; simp at hu; subst hu; rfl
          case c3 => have := HYL.out; unfold maxLen; omega
          case c4 => have := HYL.out; omega
          case c5 => simp; omega
          intro v' w' hown hgrow _
          have GN : Hid (Grows Value.string 9 w.heap.size v' (cutB s m (k + 1)).1 w') := Lib.hid (by rw [E1.out]; exact Grows.more (news := [s.extract f k]) rfl hown)
          have BN : Hid (Below w.heap.size w w') := Lib.hid ((HB.out.alloc HB.out.size _).grown hgrow (by simp; omega) (fun g hg => HG.out.block g hg))
          clear hown hgrow
          go_wp2_with fail
          go_roundg (gk - 1)
          case measure => have := HGK.out; omega
          case rel => exact ⟨k + 1, by omega, by have := HGK.out; omega, by go_num, by (rw [E1.out]; go_num), GN.out, BN.out⟩
        · have E1 := Lib.hid (UN.out (by rw [CA2.out, beq_eq_false_iff_ne]; exact hm))
          have d2 : (((s[k]'hks).toNat : Int) == (m.toNat : Int)) = false := by rw [beq_eq_false_iff_ne]; omega
          clear hke hm
          go_wp2_with fail
          go_roundg (gk - 1)
          case measure => have := HGK.out; omega
          case rel => exact ⟨k + 1, by omega, by have := HGK.out; omega, by go_num, by rw [E1.out], by rw [E1.out]; exact HG.out, HB.out⟩
    · obtain rfl : k = s.size + 1 := by omega
      clear hG hB
      go_wp2_with fail
      refine bodyPost_ret (results_tmp rfl _ _ _) rfl ?_
      exact ⟨_, rfl, HG.out, HB.out⟩
end Go.Proofs.YtcnllohpkgmkpaaDoor
/- The parts of a text between marks (plain). -/
namespace Go.Proofs.YtcnllohpkgmkpaaDoor
open Go

theorem extractm_list (s : ByteArray) (a b : Nat) : (s.extract a b).data.toList = (s.data.toList.take b).drop a := by
  rw [Lib.extract_data, List.drop_take]
/-- The parts of a list between marks m. -/
def spm (m : UInt8) : List UInt8 → List (List UInt8)
  | [] => [[]]
  | c :: r => if c = m then [] :: spm m r else match spm m r with
    | [] => [[c]]
    | p :: ps => (c :: p) :: ps
theorem spm_ne (m : UInt8) : ∀ l, spm m l ≠ []
  | [] => by simp [spm]
  | c :: r => by
    unfold spm
    split
    · simp
    · split <;> simp
theorem spm_miss {m : UInt8} : ∀ {l : List UInt8}, (∀ x ∈ l, x ≠ m) → spm m l = [l]
  | [], _ => rfl
  | c :: r, h => by
    unfold spm
    rw [if_neg (h c (by simp)), spm_miss (l := r) (fun x hx => h x (by simp [hx]))]
theorem spm_hit {m : UInt8} : ∀ {a : List UInt8} (b : List UInt8), (∀ x ∈ a, x ≠ m) → spm m (a ++ m :: b) = a :: spm m b
  | [], b, _ => by simp [spm]
  | c :: r, b, h => by
    rw [List.cons_append]
    rw [spm, if_neg (h c (by simp)), spm_hit (a := r) b (fun x hx => h x (by simp [hx]))]
theorem listm_at {m : UInt8} {l : List UInt8} {i : Nat} (h : l[i]? = some m) : l = l.take i ++ m :: l.drop (i + 1) := by
  have hi : i < l.length := (List.getElem?_eq_some_iff.1 h).1
  have e : l[i] = m := by
    rw [List.getElem?_eq_getElem hi] at h
    injection h
  conv => lhs; rw [← List.take_append_drop i l]
  rw [List.drop_eq_getElem_cons hi, e]
theorem takem_no {m : UInt8} {l : List UInt8} {i : Nat} (h : ∀ k, k < i → l[k]? ≠ some m) : ∀ x ∈ l.take i, x ≠ m := by
  intro x hx e
  obtain ⟨j, hj, rfl⟩ := List.getElem_of_mem hx
  rw [List.length_take] at hj
  refine h j (by omega) ?_
  rw [List.getElem?_eq_getElem (by omega)]
  rw [List.getElem_take] at e
  rw [e]
/-- What is parted so far, and what is left. -/
theorem cutBm_inv (m : UInt8) (s : ByteArray) : ∀ i, i ≤ s.size → spm m s.data.toList = (cutB s m i).1.map (·.data.toList) ++ spm m (s.data.toList.drop (cutB s m i).2) ∧ ∀ j, (cutB s m i).2 ≤ j → j < i → s.data.toList[j]? ≠ some m
  | 0, _ => by
    refine ⟨by simp [cutB], fun j _ h => by omega⟩
  | i + 1, hi => by
    obtain ⟨h1, h2⟩ := cutBm_inv m s i (by omega)
    have hle := (cutB_le s m i).1
    by_cases hE : cutE s m i = true
    · have e : cutB s m (i + 1) = ((cutB s m i).1 ++ [s.extract (cutB s m i).2 i], i + 1) := by rw [cutB, if_pos hE]
      rw [e]
      have hm0 : s.data.toList[i]? = some m := by
        unfold cutE at hE
        rw [decide_eq_false (by omega), Bool.false_or, decide_eq_true_eq] at hE
        exact hE
      generalize cutB s m i = P at *
      obtain ⟨Y, f⟩ := P
      dsimp only at *
      refine ⟨?_, fun j a b => by omega⟩
      have hd : (s.data.toList.drop f)[i - f]? = some m := by rw [List.getElem?_drop, show f + (i - f) = i by omega]; exact hm0
      rw [h1, listm_at hd, spm_hit _ (takem_no fun k hk => by rw [List.getElem?_drop]; exact h2 _ (by omega) (by omega))]
      rw [List.map_append, List.append_assoc, List.map_cons, List.map_nil, extractm_list, List.drop_drop, show f + (i - f + 1) = i + 1 by omega, List.drop_take]
      rfl
    · have e : cutB s m (i + 1) = cutB s m i := by rw [cutB, if_neg hE]
      rw [e]
      refine ⟨h1, fun j a b => ?_⟩
      by_cases hj : j = i
      · subst hj
        intro hc
        apply hE
        unfold cutE
        rw [hc]; simp
      · exact h2 j a (by omega)
theorem cutBm_spm (m : UInt8) (s : ByteArray) : (cutB s m (s.size + 1)).1.map (·.data.toList) = spm m s.data.toList := by
  obtain ⟨h1, h2⟩ := cutBm_inv m s s.size (Nat.le_refl _)
  have e : cutB s m (s.size + 1) = ((cutB s m s.size).1 ++ [s.extract (cutB s m s.size).2 s.size], s.size + 1) := by rw [cutB, if_pos (cutE_end s m)]
  rw [e, h1, List.map_append, List.map_cons, List.map_nil, extractm_list, List.take_of_length_le (by rw [Array.length_toList]; exact Nat.le_refl _)]
  congr 1
  rw [spm_miss]
  intro x hx e
  obtain ⟨j, hj, rfl⟩ := List.getElem_of_mem hx
  rw [List.length_drop, Array.length_toList] at hj
  refine h2 ((cutB s m s.size).2 + j) (by omega) (by have : s.data.size = s.size := rfl; omega) ?_
  rw [← List.getElem?_drop, List.getElem?_eq_getElem (by rw [List.length_drop, Array.length_toList]; exact hj), e]
theorem spm_no {m : UInt8} {l : List UInt8} (h : Lib.indexByte l m = -1) : spm m l = [l] := by
  have hn := Lib.indexByte_none h
  exact spm_miss fun x hx e => by
    obtain ⟨j, hj, rfl⟩ := List.getElem_of_mem hx
    exact hn j (by rw [List.getElem?_eq_getElem hj, e])
theorem spm_yes {m : UInt8} {l : List UInt8} {i : Nat} (h : Lib.indexByte l m = (i : Int)) : spm m l = l.take i :: spm m (l.drop (i + 1)) := by
  obtain ⟨h1, h2⟩ := Lib.indexByte_some h
  conv => lhs; rw [listm_at h1]
  exact spm_hit _ (takem_no h2)
theorem spm_count (m : UInt8) : ∀ l : List UInt8, (spm m l).length = l.count m + 1
  | [] => rfl
  | c :: r => by
    have ih := spm_count m r
    unfold spm
    by_cases h : c = m
    · subst h
      rw [if_pos rfl, List.length_cons, ih, List.count_cons_self]
    · rw [if_neg h, List.count_cons_of_ne h]
      cases hr : spm m r with
      | nil => exact absurd hr (spm_ne m r)
      | cons p ps => rw [hr] at ih; exact ih
theorem spm_part (m : UInt8) : ∀ (l : List UInt8) (p : List UInt8), p ∈ spm m l → p.length ≤ l.length
  | [], p, h => by simp [spm] at h; subst h; simp
  | c :: r, p, h => by
    unfold spm at h
    split at h
    · rcases List.mem_cons.1 h with e | e
      · subst e; simp
      · have h1 := spm_part m r p e
        rw [List.length_cons]; omega
    · obtain ⟨q, qs, hq⟩ : ∃ q qs, spm m r = q :: qs := by
        cases hb : spm m r with
        | nil => exact absurd hb (spm_ne m r)
        | cons q qs => exact ⟨q, qs, rfl⟩
      rw [hq] at h
      simp only at h
      rcases List.mem_cons.1 h with e | e
      · have h1 := spm_part m r q (by rw [hq]; simp)
        subst e
        rw [List.length_cons, List.length_cons]; omega
      · have h1 := spm_part m r p (by rw [hq]; simp [e])
        rw [List.length_cons]; omega
/-- The parts of a text between marks. -/
def ptY (m : UInt8) (s : ByteArray) : List ByteArray := (cutB s m (s.size + 1)).1
theorem ptY_spm (m : UInt8) (s : ByteArray) : (ptY m s).map (·.data.toList) = spm m s.data.toList := cutBm_spm m s
theorem ptY_len (m : UInt8) (s : ByteArray) : (ptY m s).length = s.data.toList.count m + 1 := by
  rw [← spm_count, ← ptY_spm, List.length_map]
theorem ptY_le (m : UInt8) (s : ByteArray) : (ptY m s).length ≤ s.size + 1 := (cutB_le s m (s.size + 1)).2
theorem ptY_data (m : UInt8) (s : ByteArray) (k : Nat) : ((ptY m s).getD k (bsOf [])).data.toList = (spm m s.data.toList).getD k [] := by
  rw [← ptY_spm]
  by_cases hk : k < (ptY m s).length
  · simp [List.getD, hk]
  · simp [List.getD, Nat.not_lt.1 hk, bsOf]
theorem ptY_size (m : UInt8) (s : ByteArray) (k : Nat) : ((ptY m s).getD k (bsOf [])).size ≤ s.size := by
  have e : ((ptY m s).getD k (bsOf [])).size = ((ptY m s).getD k (bsOf [])).data.toList.length := Array.length_toList.symm
  have e2 : s.size = s.data.toList.length := Array.length_toList.symm
  rw [e, e2, ptY_data]
  by_cases hk : k < (spm m s.data.toList).length
  · rw [show (spm m s.data.toList).getD k [] = (spm m s.data.toList)[k] by simp [List.getD, hk]]
    exact spm_part _ _ _ (List.getElem_mem _)
  · simp [List.getD, Nat.not_lt.1 hk]
/-- What is told, one after another. -/
theorem ptY_at {m : UInt8} {s : ByteArray} {C : List UInt8} {pre : List (List UInt8)} (h : pre ++ [C] <+: spm m s.data.toList) : pre.length < (ptY m s).length ∧ C = ((ptY m s).getD pre.length (bsOf [])).data.toList := by
  have hl : (ptY m s).length = (spm m s.data.toList).length := by rw [← ptY_spm, List.length_map]
  have hlen := h.length_le
  rw [List.length_append, List.length_singleton] at hlen
  refine ⟨by omega, ?_⟩
  rw [ptY_data]
  obtain ⟨t, ht⟩ := h
  rw [← ht, List.append_assoc, List.getD, List.getElem?_append_right (Nat.le_refl _), Nat.sub_self]
  rfl
end Go.Proofs.YtcnllohpkgmkpaaDoor
/- Parts of a text (plain). -/
namespace Go.Proofs.YtcnllohpkgmkpaaDoor
open Go

/-- Part k of a text. -/
def ptK (s : ByteArray) (k : Nat) : ByteArray := (ptY 44 s).getD k (bsOf [])
def noneS : ByteArray := ⟨#[110, 111, 110, 101]⟩
theorem none_iff (s : ByteArray) : s.toList = [110, 111, 110, 101] ↔ s = noneS := by
  rw [ByteArray.toList_eq]
  exact ⟨fun h => ByteArray.ext (Array.toList_inj.1 h), fun h => by rw [h]; rfl⟩
end Go.Proofs.YtcnllohpkgmkpaaDoor
