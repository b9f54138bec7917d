/- Lists of jobs: how they read, in which blocks they lie, and what keeps them. -/
import Derived.Test.YtdmlhjhhkiajaaaDoorStF
import Derived.Test.YtdmlhjhhkiajaaaDoorBox
import Derived.Lib.SmallJoins
import Derived.Deep.Slices
import Derived.Deep.Fields
import Derived.ChangeSame
namespace Go.Proofs.YtdmlhjhhkiajaaaDoor
open Go.RowKit Go.ChangeShapes Go.WideShapes Go.Joins Go.Deep

structure Ac where
  f : Int
  t : Int
  r : Int
  c : Int
def zA : Ac := ⟨0, 0, 0, 0⟩
structure Ac.ok (a : Ac) : Prop where
  f : in64 a.f
  t : in64 a.t
  r : in64 a.r
  c : in64 a.c
/-- Four cells that hold a job. -/
structure ArcAt (w : World) (b o : Nat) (a : Ac) : Prop where
  c0 : w.cell? ⟨b, o, none⟩ = some (.int .i64 a.f)
  c1 : w.cell? ⟨b, o + 1, none⟩ = some (.int .i64 a.t)
  c2 : w.cell? ⟨b, o + 2, none⟩ = some (.int .i64 a.r)
  c3 : w.cell? ⟨b, o + 3, none⟩ = some (.int .i64 a.c)
theorem ArcAt.keep {B : Nat} {w w' : World} {b o : Nat} {a : Ac} (h : ArcAt w b o a) (hb : Below B w w') (hg : b < B) : ArcAt w' b o a := ⟨keep_cell h.c0 hb hg, keep_cell h.c1 hb hg, keep_cell h.c2 hb hg, keep_cell h.c3 hb hg⟩
theorem ArcAt.of_block {w w' : World} {b o : Nat} {a : Ac} (h : ArcAt w b o a) (hk : w'.heap[b]? = w.heap[b]?) : ArcAt w' b o a :=
  ⟨by rw [World.cell?_of_block (w := w) (a := ⟨b, o, none⟩) hk]; exact h.c0, by rw [World.cell?_of_block (w := w) (a := ⟨b, o + 1, none⟩) hk]; exact h.c1, by rw [World.cell?_of_block (w := w) (a := ⟨b, o + 2, none⟩) hk]; exact h.c2, by rw [World.cell?_of_block (w := w) (a := ⟨b, o + 3, none⟩) hk]; exact h.c3⟩
/-- A slice value that reads as these jobs. -/
def AV (w : World) (v : Value) (Z : List Ac) : Prop :=
  (Z = [] ∧ ∃ ao cap, v = .slice ao 0 cap) ∨
  (∃ b off cap, v = .slice (some ⟨b, off, none⟩) Z.length (Z.length + cap) ∧ 0 < Z.length ∧ b < w.heap.size ∧ ∀ i, i < Z.length → ArcAt w b (off + i * 4) (Z.getD i zA))
/-- .. and lies in a block from lo on, below hi, that may be written. -/
def AI (lo hi : Nat) (w : World) (v : Value) (Z : List Ac) : Prop :=
  hi ≤ w.heap.size ∧ ((Z = [] ∧ ∃ ao cap, v = .slice ao 0 cap) ∨
  (∃ b off cap, v = .slice (some ⟨b, off, none⟩) Z.length (Z.length + cap) ∧ 0 < Z.length ∧ lo ≤ b ∧ b < hi ∧ (∀ i, w.frozen? ⟨b, i, none⟩ = false) ∧ ∀ i, i < Z.length → ArcAt w b (off + i * 4) (Z.getD i zA)))
theorem AV.below {w w' : World} {v : Value} {Z : List Ac} (h : AV w v Z) {B : Nat} (hb : Below B w w') (hB : w.heap.size ≤ B) : AV w' v Z := by
  rcases h with h | ⟨b, off, cap, h1, h2, h3, h4⟩
  · exact Or.inl h
  · exact Or.inr ⟨b, off, cap, h1, h2, Nat.lt_of_lt_of_le h3 hb.size, fun i hi => (h4 i hi).keep hb (by omega)⟩
theorem ArcAt.dn {w : World} {b o : Nat} {a : Ac} (h : ArcAt w b o a) (n : Nat) : ArcAt (w.drewN n) b o a := ⟨h.c0, h.c1, h.c2, h.c3⟩
theorem AV.dn {w : World} {v : Value} {Z : List Ac} (h : AV w v Z) (n : Nat) : AV (w.drewN n) v Z := h.below (below_drewN (Below.refl w.heap.size w) n) (Nat.le_refl _)
theorem AV.long {w : World} {v : Value} {Z : List Ac} (h : AV w v Z) : ∃ ao cap, v = .slice ao Z.length cap := by
  rcases h with ⟨rfl, ao, cap, rfl⟩ | ⟨b, off, cap, rfl, _⟩
  · exact ⟨ao, cap, rfl⟩
  · exact ⟨_, _, rfl⟩
theorem AI.av {lo hi : Nat} {w : World} {v : Value} {Z : List Ac} (h : AI lo hi w v Z) : AV w v Z := by
  obtain ⟨h0, h | ⟨b, off, cap, h1, h2, h3, h4, h5, h6⟩⟩ := h
  · exact Or.inl h
  · exact Or.inr ⟨b, off, cap, h1, h2, by omega, h6⟩
theorem AI.kept' {lo hi lo2 hi2 : Nat} {w w' : World} {v : Value} {Z : List Ac} (h : AI lo hi w v Z) (ht : Turned lo2 hi2 w w') (hs : hi ≤ lo2 ∨ hi2 ≤ lo) : AI lo hi w' v Z := by
  obtain ⟨h0, h | ⟨b, off, cap, h1, h2, h3, h4, h5, h6⟩⟩ := h
  · exact ⟨Nat.le_trans h0 ht.size, Or.inl h⟩
  · have hk := ht.block b (by omega) (by omega)
    exact ⟨Nat.le_trans h0 ht.size, Or.inr ⟨b, off, cap, h1, h2, h3, h4, fun i => by rw [World.frozen?_of_block (w := w) (a := ⟨b, i, none⟩) hk]; exact h5 i, fun i hi => (h6 i hi).of_block hk⟩⟩
theorem AI.below' {lo hi : Nat} {w w' : World} {v : Value} {Z : List Ac} (h : AI lo hi w v Z) {B : Nat} (hb : Below B w w') (hB : w.heap.size ≤ B) : AI lo hi w' v Z :=
  h.kept' (Turned.of_below (lo := hi) (hi := hi) hb hB) (Or.inl (Nat.le_refl _))
theorem AI.wide {lo hi lo' hi' : Nat} {w : World} {v : Value} {Z : List Ac} (h : AI lo hi w v Z) (h1 : lo' ≤ lo) (h2 : hi ≤ hi') (h3 : hi' ≤ w.heap.size) : AI lo' hi' w v Z := by
  obtain ⟨h0, h | ⟨b, off, cap, e1, e2, e3, e4, e5, e6⟩⟩ := h
  · exact ⟨h3, Or.inl h⟩
  · exact ⟨h3, Or.inr ⟨b, off, cap, e1, e2, by omega, by omega, e5, e6⟩⟩
theorem AI.wide' {lo lo' hi : Nat} {w : World} {v : Value} {Z : List Ac} (h : AI lo hi w v Z) (h1 : lo' ≤ lo) : AI lo' hi w v Z := h.wide h1 (Nat.le_refl _) h.1
theorem AI.set {lo hi : Nat} {w : World} {v : Value} {Z : List Ac} (h : AI lo hi w v Z) {p : Addr} (hp : p.block < lo ∨ hi ≤ p.block) (u : Value) : AI lo hi (w.setCell p u) v Z :=
  h.kept' ((Turned.refl p.block (p.block + 1) w).setCell (Nat.le_refl _) (Nat.lt_succ_self _) u) (by omega)
theorem AI.len' {lo hi : Nat} {w : World} {v : Value} {Z : List Ac} (h : AI lo hi w v Z) : ∃ ao cap, v = .slice ao Z.length cap := h.av.long
theorem AI.nil {w : World} (lo : Nat) {hi : Nat} (h : hi ≤ w.heap.size) (ao : Option Addr) (cap : Nat) : AI lo hi w (.slice ao 0 cap) [] := ⟨h, Or.inl ⟨rfl, ao, cap, rfl⟩⟩
def MadeA (Z : List Ac) (w : World) (e : Ending) (w' : World) : Prop := ∃ v, e = .returned v ∧ AI w.heap.size w'.heap.size w' v Z ∧ Below w.heap.size w w'
theorem getDA {Z : List Ac} {k : Nat} (h : k < Z.length) : Z.getD k zA = Z[k] := by simp [List.getD, h]

/-- Block g holds, from cell 0 on, these jobs, and may be written. -/
structure ArrA (w : World) (g : Nat) (Z : List Ac) : Prop where
  cells : ∀ i, i < Z.length → ArcAt w g (i * 4) (Z.getD i zA)
  free : ∀ i, w.frozen? ⟨g, i, none⟩ = false
def stA (w : World) (g o : Nat) (a : Ac) : World := (((w.setCell ⟨g, o, none⟩ (.int .i64 a.f)).setCell ⟨g, o + 1, none⟩ (.int .i64 a.t)).setCell ⟨g, o + 2, none⟩ (.int .i64 a.r)).setCell ⟨g, o + 3, none⟩ (.int .i64 a.c)
theorem stA_other {w : World} {g o b k : Nat} {a : Ac} (h : b ≠ g ∨ k < o ∨ o + 4 ≤ k) : (stA w g o a).cell? ⟨b, k, none⟩ = w.cell? ⟨b, k, none⟩ := by
  unfold stA
  rw [World.cell?_setCell_other _ _ _ _ (by intro h; injection h with h1 h2 _; omega), World.cell?_setCell_other _ _ _ _ (by intro h; injection h with h1 h2 _; omega), World.cell?_setCell_other _ _ _ _ (by intro h; injection h with h1 h2 _; omega), World.cell?_setCell_other _ _ _ _ (by intro h; injection h with h1 h2 _; omega)]
theorem stA_self {w : World} {g o : Nat} {a b : Ac} (h : ArcAt w g o b) : ArcAt (stA w g o a) g o a := by
  unfold stA
  refine ⟨?_, ?_, ?_, ?_⟩
  · rw [World.cell?_setCell_other _ _ _ _ (by intro h; injection h with h1 h2 _; omega), World.cell?_setCell_other _ _ _ _ (by intro h; injection h with h1 h2 _; omega), World.cell?_setCell_other _ _ _ _ (by intro h; injection h with h1 h2 _; omega)]
    exact World.cell?_setCell_same _ _ _ h.c0
  · rw [World.cell?_setCell_other _ _ _ _ (by intro h; injection h with h1 h2 _; omega), World.cell?_setCell_other _ _ _ _ (by intro h; injection h with h1 h2 _; omega)]
    exact World.cell?_setCell_same _ _ _ (by rw [World.cell?_setCell_other _ _ _ _ (by intro h; injection h with h1 h2 _; omega)]; exact h.c1)
  · rw [World.cell?_setCell_other _ _ _ _ (by intro h; injection h with h1 h2 _; omega)]
    exact World.cell?_setCell_same _ _ _ (by rw [World.cell?_setCell_other _ _ _ _ (by intro h; injection h with h1 h2 _; omega), World.cell?_setCell_other _ _ _ _ (by intro h; injection h with h1 h2 _; omega)]; exact h.c2)
  · exact World.cell?_setCell_same _ _ _ (by rw [World.cell?_setCell_other _ _ _ _ (by intro h; injection h with h1 h2 _; omega), World.cell?_setCell_other _ _ _ _ (by intro h; injection h with h1 h2 _; omega), World.cell?_setCell_other _ _ _ _ (by intro h; injection h with h1 h2 _; omega)]; exact h.c3)
theorem stA_frozen {w : World} {g o : Nat} {a : Ac} (p : Addr) : (stA w g o a).frozen? p = w.frozen? p := by unfold stA; rw [World.frozen?_setCell, World.frozen?_setCell, World.frozen?_setCell, World.frozen?_setCell]
theorem stA_arc {w : World} {g o b k : Nat} {a x : Ac} (h : ArcAt w b k x) (hd : b ≠ g ∨ k + 4 ≤ o ∨ o + 4 ≤ k) : ArcAt (stA w g o a) b k x :=
  ⟨by rw [stA_other (by omega)]; exact h.c0, by rw [stA_other (by omega)]; exact h.c1, by rw [stA_other (by omega)]; exact h.c2, by rw [stA_other (by omega)]; exact h.c3⟩
theorem stA_turned {lo hi : Nat} {w0 w : World} {g o : Nat} {a : Ac} (h : Turned lo hi w0 w) (h1 : lo ≤ g) (h2 : g < hi) : Turned lo hi w0 (stA w g o a) := by
  unfold stA
  exact (((h.setCell h1 h2 _).setCell h1 h2 _).setCell h1 h2 _).setCell h1 h2 _
theorem stA_below {B : Nat} {w0 w : World} {g o : Nat} {a : Ac} (h : Below B w0 w) (h1 : B ≤ g) : Below B w0 (stA w g o a) := by
  unfold stA
  exact (((h.setCell h1 _).setCell h1 _).setCell h1 _).setCell h1 _
theorem stA_size {w : World} {g o : Nat} {a : Ac} : (stA w g o a).heap.size = w.heap.size := by unfold stA; simp [World.setCell]
theorem ArrA.set {w : World} {g : Nat} {Z : List Ac} (h : ArrA w g Z) {i : Nat} (hi : i < Z.length) (a : Ac) : ArrA (stA w g (i * 4) a) g (Z.set i a) := by
  refine ⟨fun j hj => ?_, fun j => by rw [stA_frozen]; exact h.free j⟩
  rw [List.length_set] at hj
  by_cases e : j = i
  · subst e
    have := stA_self (a := a) (h.cells j hj)
    rw [show (Z.set j a).getD j zA = a by simp [List.getD, hj]]; exact this
  · rw [show (Z.set i a).getD j zA = Z.getD j zA by rw [List.getD, List.getD, List.getElem?_set, if_neg (fun hh => e hh.symm)]]
    exact stA_arc (h.cells j hj) (by omega)
theorem ArrA.keep {w w' : World} {g B : Nat} {Z : List Ac} (h : ArrA w g Z) (hb : Below B w w') (hg : g < B) : ArrA w' g Z :=
  ⟨fun i hi => (h.cells i hi).keep hb hg, fun i => by rw [hb.frozen (p := ⟨g, i, none⟩) hg]; exact h.free i⟩
theorem ArrA.ai {w : World} {g lo : Nat} {Z : List Ac} (h : ArrA w g Z) (hl : lo ≤ g) (hg : g < w.heap.size) : AI lo w.heap.size w (.slice (some ⟨g, 0, none⟩) Z.length Z.length) Z := by
  by_cases h0 : Z.length = 0
  · have : Z = [] := List.eq_nil_of_length_eq_zero h0
    subst this
    exact ⟨Nat.le_refl _, Or.inl ⟨rfl, _, _, rfl⟩⟩
  · exact ⟨Nat.le_refl _, Or.inr ⟨g, 0, 0, rfl, by omega, hl, hg, h.free, fun i hi => by rw [Nat.zero_add]; exact h.cells i hi⟩⟩
theorem four_cell {j : Nat} : (#[Value.int .i64 0, .int .i64 0, .int .i64 0, .int .i64 0] : Array Value).getD (j % 4) default = .int .i64 0 := by
  have h : j % 4 < 4 := Nat.mod_lt _ (by omega)
  generalize j % 4 = m at h
  match m, h with
  | 0, _ => rfl
  | 1, _ => rfl
  | 2, _ => rfl
  | 3, _ => rfl
theorem made_four {n j : Nat} (hj : j < n * 4) : (madeCells (Value.agg #[.int .i64 0, .int .i64 0, .int .i64 0, .int .i64 0]).cells (n * 4)).toList[j]? = some (.int .i64 0) := by
  rw [Array.getElem?_toList]
  have h := four_cell (j := j)
  simp only [Array.getD_eq_getD_getElem?] at h
  simp [madeCells, hj, Value.cells]
  simpa using h
theorem ArrA.made {w : World} {n B e : Nat} (h : w.ownsRow B e 4 (.slice (some ⟨B, 0, none⟩) n n) n (madeCells (Value.agg #[.int .i64 0, .int .i64 0, .int .i64 0, .int .i64 0]).cells (n * 4)).toList) : ArrA w B (List.replicate n zA) := by
  refine ⟨fun i hi => ?_, h.frozenAt⟩
  rw [List.length_replicate] at hi
  have e : (List.replicate n zA).getD i zA = zA := by simp [List.getD, hi]
  rw [e]
  exact ⟨by rw [h.cellAt _ (by omega), made_four (by omega)]; rfl, by rw [h.cellAt _ (by omega), made_four (by omega)]; rfl, by rw [h.cellAt _ (by omega), made_four (by omega)]; rfl, by rw [h.cellAt _ (by omega), made_four (by omega)]; rfl⟩

set_option maxRecDepth 100000 in
theorem open_av {H : Type} {enc : TypeId × Value → H} {w : World} {v : Value} {y : DataW H × List MemPlace} {fuel : Nat}
    (hf : DataW.trod enc Tryd.prog w 0 (fun _ => true) true fuel 46 [v] = some y) : ∃ Z : List Ac, AV w v Z ∧ Z.length ≤ maxLen ∧ ∀ a ∈ Z, a.ok := by
  rcases open_slice_fields Tryd.underlying46 Tryd.underlying110 (by kernel_rfl) (by kernel_rfl) hf with hcs | ⟨a, len, cap, hcs, hl, hm, hi⟩
  · simp only [List.cons.injEq, and_true] at hcs
    subst hcs
    exact ⟨[], Or.inl ⟨rfl, none, 0, rfl⟩, Nat.zero_le _, fun x hx => by cases hx⟩
  · simp only [List.cons.injEq, and_true] at hcs
    subst hcs
    by_cases h0 : len = 0
    · subst h0
      exact ⟨[], Or.inl ⟨rfl, _, _, rfl⟩, Nat.zero_le _, fun x hx => by cases hx⟩
    obtain ⟨b, off, spot⟩ := a
    have hspot : spot = none := by
      obtain ⟨n, hj⟩ := hi 0 (by omega)
      obtain ⟨v, y, hc, _⟩ := hj 0 _ rfl
      simpa [Addr.add] using World.cell?_spot hc
    subst hspot
    have hcell : ∀ i, i < len → ∃ x : Ac, ArcAt w b (off + i * 4) x ∧ x.ok := by
      intro i hil
      obtain ⟨n, hj⟩ := hi i hil
      obtain ⟨v0, y0, c0, t0⟩ := hj 0 _ rfl
      obtain ⟨v1, y1, c1, t1⟩ := hj 1 _ rfl
      obtain ⟨v2, y2, c2, t2⟩ := hj 2 _ rfl
      obtain ⟨v3, y3, c3, t3⟩ := hj 3 _ rfl
      obtain ⟨x0, rfl, b0⟩ := one_i64 Tryd.underlying2 _ _ _ t0
      obtain ⟨x1, rfl, b1⟩ := one_i64 Tryd.underlying2 _ _ _ t1
      obtain ⟨x2, rfl, b2⟩ := one_i64 Tryd.underlying2 _ _ _ t2
      obtain ⟨x3, rfl, b3⟩ := one_i64 Tryd.underlying2 _ _ _ t3
      rw [Go.WideShapes.add_plain] at c0 c1 c2 c3
      exact ⟨⟨x0, x1, x2, x3⟩, ⟨c0, c1, c2, c3⟩, ⟨b0, b1, b2, b3⟩⟩
    haveI : Inhabited Ac := ⟨zA⟩
    obtain ⟨z, hz⟩ := Deep.choose_lt (α := Ac) (p := fun i x => ArcAt w b (off + i * 4) x ∧ x.ok) hcell
    refine ⟨(List.range len).map z, Or.inr ⟨b, off, cap - len, by simp only [List.length_map, List.length_range]; rw [Nat.add_sub_cancel' hl], by simpa using (by omega : 0 < len), cell_block (hz 0 (by omega)).1.c0, fun i hil => ?_⟩, by simp; omega, fun x hx => ?_⟩
    · have hil' : i < len := by simpa using hil
      rw [show ((List.range len).map z).getD i zA = z i by simp [List.getD, hil']]
      exact (hz i hil').1
    · obtain ⟨i, hil, rfl⟩ := List.mem_map.1 hx
      exact (hz i (List.mem_range.1 hil)).2
end Go.Proofs.YtdmlhjhhkiajaaaDoor
