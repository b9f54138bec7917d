/- Lists of lists of integers: how they read, in which blocks they lie, how they come in. -/
import Derived.Test.YtiobbclciboggaaIl
namespace Go.Proofs.Ytiobbclciboggaa
open Go.RowKit Go.ChangeShapes Go.WideShapes

theorem Try.infoL : (Try.prog.info? 24).map (fun i => (i.zero, i.size, i.bytes)) = some (some (.slice none 0 0), 1, 24) := by kernel_rfl

abbrev vnil : Value := .slice none 0 0
/-- A list of integers that lies in block g, and may be written; an empty one lies anywhere. -/
def IB (g : Nat) (w : World) (u : Value) (Z : List Int) : Prop :=
  (Z = [] ∧ ∃ ao cap, u = .slice ao 0 cap) ∨
  (∃ off cap, u = .slice (some ⟨g, off, none⟩) Z.length (Z.length + cap) ∧ 0 < Z.length ∧ g < w.heap.size ∧ (∀ i, w.frozen? ⟨g, i, none⟩ = false) ∧ ∀ i, i < Z.length → w.cell? ⟨g, off + i, none⟩ = some (.int .i64 (Z.getD i 0)))
theorem IB.il {g : Nat} {w : World} {u : Value} {Z : List Int} (h : IB g w u Z) : IL w u Z := by
  rcases h with h | ⟨off, cap, h1, h2, h3, h4, h5⟩
  · exact Or.inl h
  · exact Or.inr ⟨g, off, cap, h1, h2, h3, h5⟩
theorem IB.ii {g lo hi : Nat} {w : World} {u : Value} {Z : List Int} (h : IB g w u Z) (h1 : Z = [] ∨ (lo ≤ g ∧ g < hi)) (h2 : hi ≤ w.heap.size) : II lo hi w u Z := by
  rcases h with ⟨e, ao, cap, rfl⟩ | ⟨off, cap, rfl, k2, k3, k4, k5⟩
  · subst e
    exact SI.nil _ h2 _ _
  · have h3 : lo ≤ g ∧ g < hi := by
      rcases h1 with h1 | h1
      · subst h1; simp at k2
      · exact h1
    exact ⟨h2, Or.inr ⟨g, off, cap, rfl, k2, h3.1, h3.2, k4, k5⟩⟩
theorem IB.keep {g : Nat} {w w' : World} {u : Value} {Z : List Int} (h : IB g w u Z) (hs : w.heap.size ≤ w'.heap.size) (hb : 0 < Z.length → g < w.heap.size → w'.heap[g]? = w.heap[g]?) : IB g w' u Z := by
  rcases h with h | ⟨off, cap, rfl, k2, k3, k4, k5⟩
  · exact Or.inl h
  · have hk := hb k2 k3
    exact Or.inr ⟨off, cap, rfl, k2, by omega, fun i => by rw [World.frozen?_of_block (w := w) (a := ⟨g, i, none⟩) hk]; exact k4 i, fun i hi => by rw [World.cell?_of_block (w := w) (a := ⟨g, off + i, none⟩) hk]; exact k5 i hi⟩
theorem IB.kept {g lo hi : Nat} {w w' : World} {u : Value} {Z : List Int} (h : IB g w u Z) (ht : Turned lo hi w w') (hg : Z = [] ∨ g < lo ∨ hi ≤ g) : IB g w' u Z :=
  h.keep ht.size fun hp hl => ht.block g hl (by rcases hg with e | e; · subst e; simp at hp
                                                · exact e)
theorem IB.below {g B : Nat} {w w' : World} {u : Value} {Z : List Int} (h : IB g w u Z) (hb : Below B w w') (hB : w.heap.size ≤ B) : IB g w' u Z :=
  h.keep hb.size fun _ hl => hb.block g (by omega)
theorem II.ib {lo hi : Nat} {w : World} {u : Value} {Z : List Int} (h : II lo hi w u Z) : ∃ g, IB g w u Z ∧ (Z = [] ∨ (lo ≤ g ∧ g < hi)) := by
  obtain ⟨h0, ⟨rfl, ao, cap, rfl⟩ | ⟨b, off, cap, rfl, k2, k3, k4, k5, k6⟩⟩ := h
  · exact ⟨0, Or.inl ⟨rfl, _, _, rfl⟩, Or.inl rfl⟩
  · exact ⟨b, Or.inr ⟨off, cap, rfl, k2, by omega, k5, k6⟩, Or.inr ⟨k3, k4⟩⟩

/-- A slice value that reads as a list of lists. -/
def LV (w : World) (v : Value) (C : List (List Int)) : Prop :=
  (C = [] ∧ ∃ ao cap, v = .slice ao 0 cap) ∨
  (∃ b off cap, ∃ U : Nat → Value, v = .slice (some ⟨b, off, none⟩) C.length (C.length + cap) ∧ 0 < C.length ∧ b < w.heap.size ∧ ∀ i, i < C.length → w.cell? ⟨b, off + i, none⟩ = some (U i) ∧ IL w (U i) (C.getD i []))
/-- .. that lies in blocks from lo on, below hi, each list in one of its own, all of which may be written. -/
def LD (lo hi : Nat) (w : World) (v : Value) (C : List (List Int)) : Prop :=
  hi ≤ w.heap.size ∧ ((C = [] ∧ ∃ ao cap, v = .slice ao 0 cap) ∨
  (∃ b off cap, ∃ U : Nat → Value, ∃ G : Nat → Nat, v = .slice (some ⟨b, off, none⟩) C.length (C.length + cap) ∧ 0 < C.length ∧ lo ≤ b ∧ b < hi ∧ (∀ i, w.frozen? ⟨b, i, none⟩ = false) ∧
    (∀ i, i < C.length → w.cell? ⟨b, off + i, none⟩ = some (U i) ∧ IB (G i) w (U i) (C.getD i []) ∧ (C.getD i [] = [] ∨ (lo ≤ G i ∧ G i < hi ∧ G i ≠ b))) ∧
    ∀ i j, i < j → j < C.length → C.getD i [] = [] ∨ C.getD j [] = [] ∨ G i ≠ G j))
theorem LD.lv {lo hi : Nat} {w : World} {v : Value} {C : List (List Int)} (h : LD lo hi w v C) : LV w v C := by
  obtain ⟨h0, h | ⟨b, off, cap, U, G, h1, h2, h3, h4, h5, h6, h7⟩⟩ := h
  · exact Or.inl h
  · exact Or.inr ⟨b, off, cap, U, h1, h2, by omega, fun i hi => ⟨(h6 i hi).1, (h6 i hi).2.1.il⟩⟩
theorem LV.below {w w' : World} {v : Value} {C : List (List Int)} (h : LV w v C) {B : Nat} (hb : Below B w w') (hB : w.heap.size ≤ B) : LV w' v C := by
  rcases h with h | ⟨b, off, cap, U, h1, h2, h3, h4⟩
  · exact Or.inl h
  · exact Or.inr ⟨b, off, cap, U, h1, h2, Nat.lt_of_lt_of_le h3 hb.size, fun i hi => ⟨by rw [hb.cell (p := ⟨b, off + i, none⟩) (by show b < B; omega)]; exact (h4 i hi).1, (h4 i hi).2.below hb hB⟩⟩
theorem LV.drewN {w : World} {v : Value} {C : List (List Int)} (h : LV w v C) (n : Nat) : LV (w.drewN n) v C := h
theorem LV.long {w : World} {v : Value} {C : List (List Int)} (h : LV w v C) : ∃ ao cap, v = .slice ao C.length cap := by
  rcases h with ⟨rfl, ao, cap, rfl⟩ | ⟨b, off, cap, U, rfl, _⟩
  · exact ⟨ao, cap, rfl⟩
  · exact ⟨_, _, rfl⟩
theorem LD.len' {lo hi : Nat} {w : World} {v : Value} {C : List (List Int)} (h : LD lo hi w v C) : ∃ ao cap, v = .slice ao C.length cap := h.lv.long
theorem LD.nil {w : World} (lo : Nat) {hi : Nat} (h : hi ≤ w.heap.size) (ao : Option Addr) (cap : Nat) : LD lo hi w (.slice ao 0 cap) [] := ⟨h, Or.inl ⟨rfl, ao, cap, rfl⟩⟩
theorem LD.kept' {lo hi lo2 hi2 : Nat} {w w' : World} {v : Value} {C : List (List Int)} (h : LD lo hi w v C) (ht : Turned lo2 hi2 w w') (hs : hi ≤ lo2 ∨ hi2 ≤ lo) : LD lo hi w' v C := by
  obtain ⟨h0, h | ⟨b, off, cap, U, G, h1, h2, h3, h4, h5, h6, h7⟩⟩ := h
  · exact ⟨Nat.le_trans h0 ht.size, Or.inl h⟩
  · have hk := ht.block b (by omega) (by omega)
    refine ⟨Nat.le_trans h0 ht.size, Or.inr ⟨b, off, cap, U, G, h1, h2, h3, h4, fun i => by rw [World.frozen?_of_block (w := w) (a := ⟨b, i, none⟩) hk]; exact h5 i, fun i hi => ⟨by rw [World.cell?_of_block (w := w) (a := ⟨b, off + i, none⟩) hk]; exact (h6 i hi).1, (h6 i hi).2.1.kept ht ?_, (h6 i hi).2.2⟩, h7⟩⟩
    rcases (h6 i hi).2.2 with e | e
    · exact Or.inl e
    · right; omega
theorem LD.below' {lo hi B : Nat} {w w' : World} {v : Value} {C : List (List Int)} (h : LD lo hi w v C) (hb : Below B w w') (hB : w.heap.size ≤ B) : LD lo hi w' v C :=
  h.kept' (Turned.of_below (lo := hi) (hi := hi) hb hB) (Or.inl (Nat.le_refl _))
theorem LD.wide {lo hi lo' hi' : Nat} {w : World} {v : Value} {C : List (List Int)} (h : LD lo hi w v C) (k1 : lo' ≤ lo) (k2 : hi ≤ hi') (k3 : hi' ≤ w.heap.size) : LD lo' hi' w v C := by
  obtain ⟨h0, h | ⟨b, off, cap, U, G, h1, h2, h3, h4, h5, h6, h7⟩⟩ := h
  · exact ⟨k3, Or.inl h⟩
  · refine ⟨k3, Or.inr ⟨b, off, cap, U, G, h1, h2, by omega, by omega, h5, fun i hi => ⟨(h6 i hi).1, (h6 i hi).2.1, ?_⟩, h7⟩⟩
    rcases (h6 i hi).2.2 with e | ⟨e1, e2, e3⟩
    · exact Or.inl e
    · exact Or.inr ⟨by omega, by omega, e3⟩
theorem LD.wide' {lo lo' hi : Nat} {w : World} {v : Value} {C : List (List Int)} (h : LD lo hi w v C) (h1 : lo' ≤ lo) : LD lo' hi w v C := LD.wide h h1 (Nat.le_refl _) h.1
/-- A call that hands back a new list of lists. -/
def MadeL (C : List (List Int)) (w : World) (e : Ending) (w' : World) : Prop := ∃ v, e = .returned v ∧ LD w.heap.size w'.heap.size w' v C ∧ Below w.heap.size w w'

/-- How many integers the first k lists hold. -/
def totAt (C : List (List Int)) : Nat → Nat
  | 0 => 0
  | k + 1 => totAt C k + (C.getD k []).length
def szL (C : List (List Int)) : Nat := C.length + totAt C C.length
theorem totAt_le {C : List (List Int)} : ∀ {k n : Nat}, k ≤ n → totAt C k ≤ totAt C n
  | k, 0, h => by obtain rfl : k = 0 := by omega
                  exact Nat.le_refl _
  | k, n + 1, h => by
    rcases Nat.lt_or_ge n k with h1 | h1
    · obtain rfl : k = n + 1 := by omega
      exact Nat.le_refl _
    · exact Nat.le_trans (totAt_le h1) (by rw [totAt]; omega)
theorem szL_each {C : List (List Int)} {i : Nat} (h : i < C.length) : (C.getD i []).length ≤ szL C := by
  have := totAt_le (C := C) (k := i + 1) (n := C.length) h
  unfold szL
  rw [totAt] at this
  omega
theorem szL_len (C : List (List Int)) : C.length ≤ szL C := Nat.le_add_right _ _

/-- A list of lists as it comes in. -/
def FitL (C : List (List Int)) : Prop := C.length ≤ maxLen ∧ ∀ i, i < C.length → FitI (C.getD i [])
structure OKL (C : List (List Int)) : Prop where
  size : szL C ≤ 1048576
  fit : FitL C
theorem OKL.each {C : List (List Int)} (o : OKL C) {i : Nat} (h : i < C.length) : OKI (C.getD i []) := ⟨Nat.le_trans (szL_each h) o.size, o.fit.2 i h⟩
theorem OKL.len {C : List (List Int)} (o : OKL C) : C.length ≤ 1048576 := Nat.le_trans (szL_len C) o.size
theorem OKL.short {C : List (List Int)} (o : OKL C) (i : Nat) : (C.getD i []).length ≤ 1048576 := by
  by_cases h : i < C.length
  · exact (o.each h).size
  · simp [List.getD, List.getElem?_eq_none (Nat.le_of_not_lt h)]
theorem OKL.in {C : List (List Int)} (o : OKL C) (i j : Nat) : -9223372036854775808 ≤ (C.getD i []).getD j 0 ∧ (C.getD i []).getD j 0 ≤ 9223372036854775807 := by
  by_cases h : i < C.length
  · exact inI (o.fit.2 i h).2 j
  · simp [List.getD, List.getElem?_eq_none (Nat.le_of_not_lt h)]
set_option maxRecDepth 100000 in
theorem open_lv {H : Type} {enc : TypeId × Value → H} {w : World} {base : Nat} {held : Bool} {v : Value} {y : DataW H × List MemPlace} {fuel : Nat}
    (hf : DataW.trod enc Try.prog w base (fun _ => true) held fuel 22 [v] = some y) : ∃ C : List (List Int), LV w v C ∧ FitL C := by
  have hc : Try.prog.cellsOf 2 = 1 := by kernel_rfl
  have hc2 : Try.prog.cellsOf 24 = 1 := by kernel_rfl
  rcases Deep.open_slice1 Try.underlying22 hc2 hf with ⟨hcs, hx⟩ | ⟨a, len', cap', m, n, V, D, Pl, hcs, _, hl, hm, hmm, hx, hV⟩
  · simp only [List.cons.injEq, and_true] at hcs
    subst hcs
    exact ⟨[], Or.inl ⟨rfl, none, 0, rfl⟩, Nat.zero_le _, fun i hi => by simp at hi⟩
  · simp only [List.cons.injEq, and_true] at hcs
    subst hcs
    simp only [if_true] at hmm
    subst hmm
    have hcell : ∀ i, i < len' → ∃ Z : List Int, IL w (V i) Z ∧ FitI Z := fun i hi => by
      have h2 := (hV i (by omega)).2
      obtain ⟨Z, hZ, lZ, fZ⟩ := open_vl (d := (0 : Int)) Try.underlying24 hc _ (one_i64 Try.underlying2) h2
      exact ⟨Z, hZ, lZ, fZ⟩
    obtain ⟨z, hz⟩ := Deep.choose_lt (α := List Int) (p := fun i z => IL w (V i) z ∧ FitI z) hcell
    have hg : ∀ i, i < len' → ((List.range len').map z).getD i [] = z i := fun i hi => by simp [List.getD, hi]
    refine ⟨(List.range len').map z, ?_, ?_, fun i hi => ?_⟩
    · by_cases h0 : len' = 0
      · subst h0
        exact Or.inl ⟨rfl, _, _, rfl⟩
      · right
        obtain ⟨b, off, spot⟩ := a
        have hc0 := (hV 0 (by omega)).1
        have hspot : spot = none := by simpa [Addr.add] using World.cell?_spot hc0
        subst hspot
        refine ⟨b, off, m - len', V, by simp only [List.length_map, List.length_range]; rw [Nat.add_sub_cancel' hl], by simpa using (by omega : 0 < len'), cell_lt' hc0, fun i hi => ?_⟩
        have hi' : i < len' := by simpa using hi
        have h3 := (hV i (by omega)).1
        rw [Go.WideShapes.add_plain] at h3
        exact ⟨h3, by rw [hg i hi']; exact (hz i hi').1⟩
    · simp only [List.length_map, List.length_range]
      omega
    · have hi' : i < len' := by simpa using hi
      rw [hg i hi']
      exact (hz i hi').2
end Go.Proofs.Ytiobbclciboggaa
