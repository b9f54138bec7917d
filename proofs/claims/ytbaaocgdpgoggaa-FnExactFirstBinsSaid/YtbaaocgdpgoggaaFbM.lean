/- Bins by the first fit: the memory. -/
import Derived.Test.YtbaaocgdpgoggaaFb0
import Derived.Test.YtbaaocgdpgoggaaGrw
import Derived.Test.YtbaaocgdpgoggaaGp0
import Derived.Deep.OwnRows
import Derived.Maps.AppendAt
namespace Go.Proofs.Ytbaaocgdpgoggaa
open Go.RowKit Go.ChangeShapes Go.WideShapes

theorem Grows.lit {B : Nat} {v : Value} {Y : List Nat} {w : World} (h : Grows (Value.int .i64) 2 B v (intsN Y) w) (h0 : 0 < Y.length) : ∃ g cap, v = .slice (some ⟨g, 0, none⟩) Y.length cap ∧ B ≤ g ∧ g < w.heap.size := by
  have h3 := h
  obtain ⟨_, h2⟩ := h
  rw [intsN_len] at h2
  rcases h2 with ⟨_, hz⟩ | ⟨g, cap, cur, rfl, hB, hg, hn, hc, hsz, _⟩
  · omega
  · exact ⟨g, cap, rfl, hB, (Array.getElem?_eq_some_iff.1 hg).1⟩
structure FbAt (W : World) (B n : Nat) (Z : List Int) (p : Value) (L : List Nat) (wr : World) : Prop where
  turned : Turned B (B + 1) W wr
  lt : B < W.heap.size
  arr : Arr (Value.int .i64) 0 wr B 0 Z
  zl : Z.length = n
  own : Grows (Value.int .i64) 2 W.heap.size p (intsN L) wr
theorem FbAt.below {W wr w' : World} {B n : Nat} {Z : List Int} {p : Value} {L : List Nat} (h : FbAt W B n Z p L wr) (b : Below wr.heap.size wr w') : FbAt W B n Z p L w' := by
  have hs := h.turned.size
  have hl := h.lt
  exact ⟨h.turned.trans (Turned.of_below b (Nat.le_refl _)), hl, h.arr.below b (by omega), h.zl, Grows.below h.own b (Nat.le_refl _)⟩
theorem FbAt.more {W wr w' : World} {B n x : Nat} {Z : List Int} {p v' : Value} {L : List Nat} {o : Obj} (h : FbAt W B n Z p L wr)
    (hown : w'.ownsRow W.heap.size 2 1 v' ((intsN L).length + 1) ((intsN L).map (Value.int .i64) ++ [.int .i64 (x : Int)])) (hg : (wr.alloc o).grownBy w' p.ownBlock) : FbAt W B n Z v' (L ++ [x]) w' := by
  have hs := h.turned.size
  have hl := h.lt
  have low : Below W.heap.size wr w' := (Below.refl W.heap.size wr |>.alloc hs o).grown hg (by simp; omega) (fun g e => h.own.block g e)
  refine ⟨⟨low.os.trans h.turned.os, low.tape.trans h.turned.tape, low.output.trans h.turned.output, Nat.le_trans hs low.size, fun k hk hne => (low.block k hk).trans (h.turned.block k hk hne)⟩, hl, h.arr.below low hl, h.zl, ?_⟩
  rw [intsN_app]
  exact Grows.more (news := [(x : Int)]) rfl hown
theorem FbAt.left {W wr : World} {B n g m c j x : Nat} {Z : List Int} {L : List Nat} (hm : m = L.length) (h : FbAt W B n Z (.slice (some ⟨g, 0, none⟩) m c) L wr) : FbAt W B n Z (.slice (some ⟨g, 0, none⟩) m c) (L.set j x) (wr.setCell ⟨g, j, none⟩ (.int .i64 (x : Int))) := by
  have hs := h.turned.size
  have hl := h.lt
  obtain ⟨hg1, hg2⟩ := World.ownsRow.lt h.own g rfl
  have e : intsN (L.set j x) = (intsN L).set j (x : Int) := by unfold intsN; rw [List.map_set]
  refine ⟨⟨h.turned.os, h.turned.tape, h.turned.output, by simp; omega, fun k hk hne => (Below.heap_setCell _ _ _ _ (by show k ≠ g; omega)).trans (h.turned.block k hk hne)⟩, hl, ⟨fun i hi => ?_, fun i => by rw [World.frozen?_setCell]; exact h.arr.free i⟩, h.zl, ?_⟩
  · rw [World.cell?_setCell_other _ _ _ _ (by intro q; injection q with q1 _ _; omega)]
    exact h.arr.cells i hi
  · have k1 := h.own
    unfold Grows at k1 ⊢
    rw [intsN_len] at k1
    rw [e, List.length_set, List.map_set, intsN_len, ← hm]
    rw [← hm] at k1
    exact (k1.stored j (.int .i64 (x : Int))).1
theorem FbAt.bin {W wr : World} {B n i : Nat} {x : Int} {Z : List Int} {p : Value} {L : List Nat} (h : FbAt W B n Z p L wr) (hi : i < n) : FbAt W B n (Z.set i x) p L (wr.setCell ⟨B, i, none⟩ (.int .i64 x)) := by
  have hl := h.lt
  refine ⟨h.turned.setCell (Nat.le_refl _) (Nat.lt_succ_self _) _, hl, h.arr.set0 (by rw [h.zl]; exact hi) x, by rw [List.length_set]; exact h.zl, ?_⟩
  obtain ⟨g1, g2⟩ := h.own
  refine ⟨g1, ?_⟩
  rcases g2 with g2 | ⟨g, cap, cur, e, hB, hg, hr⟩
  · exact Or.inl g2
  · exact Or.inr ⟨g, cap, cur, e, hB, (Below.heap_setCell _ _ _ _ (by show g ≠ B; omega)).trans hg, hr⟩
theorem FbAt.drew {W wr : World} {B n : Nat} {Z : List Int} {p : Value} {L : List Nat} (h : FbAt W B n Z p L wr) (m : Nat) : FbAt W B n Z p L (wr.drewN m) := h.below (below_drewN (Below.refl _ _) m)
theorem fb_start (X : World) (n : Nat) : Arr (Value.int .i64) 0 (X.alloc (.cells (madeCells #[.int .i64 0] n) 2)) X.heap.size 0 (List.replicate n 0) := by
  refine ⟨fun i hi => ?_, fun i => World.frozen?_alloc_new _ _ _ _⟩
  rw [List.length_replicate] at hi
  rw [Nat.zero_add, World.cell?_alloc_new]
  simp [madeCells, hi, Nat.mod_one, List.getD]
/-- A list of naturals as one reads it. -/
theorem FbAt.il {W wr : World} {B n : Nat} {Z : List Int} {p : Value} {L : List Nat} (h : FbAt W B n Z p L wr) : IL wr p (intsN L) := SI.vl (Grows.si h.own)
theorem FbAt.at {W wr : World} {B n g m c : Nat} {Z : List Int} {L : List Nat} (hm : m = L.length) (h : FbAt W B n Z (.slice (some ⟨g, 0, none⟩) m c) L wr) {j : Nat} (hj : j < L.length) : wr.cell? ⟨g, j, none⟩ = some (.int .i64 ((L.getD j 0 : Nat) : Int)) := by
  have hc : j < (intsN L).length := by rw [intsN_len]; exact hj
  have k1 := h.own
  unfold Grows at k1
  rw [intsN_len, ← hm] at k1
  rw [k1.cellAt j (by omega)]
  rw [List.getElem?_map, List.getElem?_eq_getElem hc]
  have := intsN_at hj
  simp only [List.getD, List.getElem?_eq_getElem hc, Option.getD_some] at this
  rw [this]
  rfl
theorem FbAt.lit {W wr : World} {B n : Nat} {Z : List Int} {p : Value} {L : List Nat} (h : FbAt W B n Z p L wr) : ∃ pa pn pc, p = .slice pa pn pc ∧ pn = L.length := by
  obtain ⟨x, y, e⟩ := SI.len (Grows.si (d := (0 : Int)) h.own)
  exact ⟨x, _, y, e, intsN_len L⟩
theorem FbAt.lit2 {W wr : World} {B n : Nat} {Z : List Int} {p : Value} {L : List Nat} (h : FbAt W B n Z p L wr) : ∃ pa pn pc, p = .slice pa pn pc ∧ pn = L.length ∧ (0 < L.length → ∃ g, pa = some ⟨g, 0, none⟩ ∧ W.heap.size ≤ g ∧ g < wr.heap.size) := by
  by_cases h0 : 0 < L.length
  · obtain ⟨g, c, e, h1, h2⟩ := Grows.lit h.own h0
    exact ⟨_, _, c, e, rfl, fun _ => ⟨g, rfl, h1, h2⟩⟩
  · obtain ⟨a, n, c, e, hn⟩ := h.lit
    exact ⟨a, n, c, e, hn, fun q => absurd q h0⟩
theorem FbAt.free {W wr : World} {B n g m c : Nat} {Z : List Int} {L : List Nat} (hm : m = L.length) (h : FbAt W B n Z (.slice (some ⟨g, 0, none⟩) m c) L wr) (j : Nat) : wr.frozen? ⟨g, j, none⟩ = false := by
  have k1 := h.own
  unfold Grows at k1
  rw [intsN_len, ← hm] at k1
  exact k1.frozenAt j
end Go.Proofs.Ytbaaocgdpgoggaa
