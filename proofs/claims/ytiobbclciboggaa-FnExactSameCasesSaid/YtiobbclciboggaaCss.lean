/- Lists of cases: how they read; sizes; how one comes in. -/
import Derived.Test.YtiobbclciboggaaCs
import Derived.Test.YtiobbclciboggaaIl
import Derived.Deep.Slices
import Derived.Deep.Strs
import Derived.Deep.LoopGhost
namespace Go.Proofs.Ytiobbclciboggaa
open Go.RowKit Go.ChangeShapes Go.WideShapes Go.Joins Go.Deep

def zC : Cs := ⟨ByteArray.empty, ⟨0, []⟩, []⟩
/-- Four cells that hold a case. -/
structure C4 (w : World) (b o : Nat) (s : ByteArray) (n : Int) (u1 u2 : Value) : Prop where
  c0 : w.cell? ⟨b, o, none⟩ = some (.string s)
  c1 : w.cell? ⟨b, o + 1, none⟩ = some (.int .i64 n)
  c2 : w.cell? ⟨b, o + 2, none⟩ = some u1
  c3 : w.cell? ⟨b, o + 3, none⟩ = some u2
theorem C4.keep {B : Nat} {w w' : World} {b o : Nat} {s : ByteArray} {n : Int} {u1 u2 : Value} (h : C4 w b o s n u1 u2) (hb : Below B w w') (hg : b < B) : C4 w' b o s n u1 u2 := ⟨keep_cell h.c0 hb hg, keep_cell h.c1 hb hg, keep_cell h.c2 hb hg, keep_cell h.c3 hb hg⟩
/-- They read as this case. -/
def CAt (w : World) (b o : Nat) (C : Cs) : Prop := ∃ x1 n1 k1 x2 n2 k2, C4 w b o C.name C.form.letters (.slice x1 n1 k1) (.slice x2 n2 k2) ∧ n1 = C.form.cs.length ∧ n2 = C.proof.length ∧ LV w (.slice x1 n1 k1) C.form.cs ∧ LV w (.slice x2 n2 k2) C.proof
theorem CAt.mk' {w : World} {b o : Nat} {C : Cs} {u1 u2 : Value} (h : C4 w b o C.name C.form.letters u1 u2) (h1 : LV w u1 C.form.cs) (h2 : LV w u2 C.proof) : CAt w b o C := by
  obtain ⟨x1, k1, rfl⟩ := h1.long
  obtain ⟨x2, k2, rfl⟩ := h2.long
  exact ⟨x1, _, k1, x2, _, k2, h, rfl, rfl, h1, h2⟩
theorem CAt.below {w w' : World} {b o : Nat} {C : Cs} (h : CAt w b o C) {B : Nat} (hb : Below B w w') (hB : w.heap.size ≤ B) : CAt w' b o C := by
  obtain ⟨x1, n1, k1, x2, n2, k2, h0, e1, e2, h1, h2⟩ := h
  exact ⟨x1, n1, k1, x2, n2, k2, h0.keep hb (Nat.lt_of_lt_of_le (cell_block h0.c0) hB), e1, e2, h1.below hb hB, h2.below hb hB⟩
theorem CAt.block {w : World} {b o : Nat} {C : Cs} (h : CAt w b o C) : b < w.heap.size := by
  obtain ⟨x1, n1, k1, x2, n2, k2, h0, -⟩ := h
  exact cell_block h0.c0
/-- A slice value that reads as these cases. -/
def CsLV (w : World) (v : Value) (L : List Cs) : Prop :=
  (L = [] ∧ ∃ ao cap, v = .slice ao 0 cap) ∨
  (∃ b off cap, v = .slice (some ⟨b, off, none⟩) L.length (L.length + cap) ∧ 0 < L.length ∧ b < w.heap.size ∧ ∀ i, i < L.length → CAt w b (off + i * 4) (L.getD i zC))
def CsLD (lo hi : Nat) (w : World) (v : Value) (L : List Cs) : Prop := lo ≤ hi ∧ CsLV w v L
theorem CsLV.below {w w' : World} {v : Value} {L : List Cs} (h : CsLV w v L) {B : Nat} (hb : Below B w w') (hB : w.heap.size ≤ B) : CsLV w' v L := by
  rcases h with h | ⟨b, off, cap, h1, h2, h3, h4⟩
  · exact Or.inl h
  · exact Or.inr ⟨b, off, cap, h1, h2, Nat.lt_of_lt_of_le h3 hb.size, fun i hi => (h4 i hi).below hb hB⟩
theorem CsLV.long {w : World} {v : Value} {L : List Cs} (h : CsLV w v L) : ∃ ao cap, v = .slice ao L.length cap := by
  rcases h with ⟨rfl, ao, cap, rfl⟩ | ⟨b, off, cap, rfl, _⟩
  · exact ⟨ao, cap, rfl⟩
  · exact ⟨_, _, rfl⟩
theorem CsLD.csv {lo hi : Nat} {w : World} {v : Value} {L : List Cs} (h : CsLD lo hi w v L) : CsLV w v L := h.2
theorem CsLD.below {lo hi : Nat} {w w' : World} {v : Value} {L : List Cs} (h : CsLD lo hi w v L) {B : Nat} (hb : Below B w w') (hB : w.heap.size ≤ B) : CsLD lo hi w' v L := ⟨h.1, h.2.below hb hB⟩
theorem CsLD.wide {lo lo' hi : Nat} {w : World} {v : Value} {L : List Cs} (h : CsLD lo hi w v L) (h1 : lo' ≤ lo) : CsLD lo' hi w v L := ⟨Nat.le_trans h1 h.1, h.2⟩
theorem CsLD.len' {lo hi : Nat} {w : World} {v : Value} {L : List Cs} (h : CsLD lo hi w v L) : ∃ ao cap, v = .slice ao L.length cap := h.2.long
def MadeCL (L : List Cs) (w : World) (e : Ending) (w' : World) : Prop := ∃ v, e = .returned v ∧ CsLD w.heap.size w'.heap.size w' v L ∧ Below w.heap.size w w'
def totC (L : List Cs) : Nat → Nat
  | 0 => 0
  | k + 1 => totC L k + szC (L.getD k zC)
def szCs (L : List Cs) : Nat := L.length + totC L L.length
theorem totC_le {L : List Cs} : ∀ {k n : Nat}, k ≤ n → totC L k ≤ totC L n
  | k, 0, h => by obtain rfl : k = 0 := by omega
                  exact Nat.le_refl _
  | k, n + 1, h => by
    rcases Nat.lt_or_ge n k with h1 | h1
    · obtain rfl : k = n + 1 := by omega
      exact Nat.le_refl _
    · exact Nat.le_trans (totC_le h1) (by rw [totC]; omega)
theorem szCs_each {L : List Cs} {i : Nat} (h : i < L.length) : szC (L.getD i zC) ≤ szCs L := by
  have := totC_le (L := L) (k := i + 1) (n := L.length) h
  unfold szCs
  rw [totC] at this
  omega
theorem szCs_len (L : List Cs) : L.length ≤ szCs L := Nat.le_add_right _ _
def FitCs (L : List Cs) : Prop := L.length ≤ maxLen ∧ ∀ i, i < L.length → FitC (L.getD i zC)
structure OKCs (L : List Cs) : Prop where
  size : szCs L ≤ 1048576
  fit : FitCs L
theorem OKCs.each {L : List Cs} (o : OKCs L) {i : Nat} (h : i < L.length) : OKC (L.getD i zC) := ⟨Nat.le_trans (szCs_each h) o.size, o.fit.2 i h⟩
theorem OKCs.len {L : List Cs} (o : OKCs L) : L.length ≤ 1048576 := Nat.le_trans (szCs_len L) o.size

set_option maxRecDepth 100000 in
theorem case_of_trod {H : Type} {enc : TypeId × Value → H} {w : World} {base : Nat} {held : Bool} {cs : List Value} {x : DataW H × List MemPlace} {fuel : Nat}
    (hf : DataW.trod enc Try.prog w base (fun _ => true) held fuel 93 cs = some x) : ∃ (C : Cs) (s1 s2 : Value), cs = [.string C.name, .int .i64 C.form.letters, s1, s2] ∧ LV w s1 C.form.cs ∧ LV w s2 C.proof ∧ FitC C := by
  obtain ⟨y0, y1, y2, n, -, hl, h0, h1, h2⟩ := Go.Deep.trod_struct3 Try.underlying93 hf
  have hl4 : cs.length = 4 := hl.trans (by kernel_rfl)
  obtain ⟨c0, c1, c2, c3, rfl⟩ : ∃ c0 c1 c2 c3, cs = [c0, c1, c2, c3] := by
    match cs, hl4 with
    | [c0, c1, c2, c3], _ => exact ⟨_, _, _, _, rfl⟩
  have k0 : Try.prog.cellsOf 9 = 1 := by kernel_rfl
  have k1 : Try.prog.cellsOf 91 = 2 := by kernel_rfl
  have k2 : Try.prog.cellsOf 22 = 1 := by kernel_rfl
  simp only [k0, k1, k2] at h0 h1 h2
  have h0' : DataW.trod enc Try.prog w base (fun _ => true) held n 9 [c0] = some y0 := h0
  have h1' : DataW.trod enc Try.prog w base (fun _ => true) held n 91 [c1, c2] = some y1 := h1
  have h2' : DataW.trod enc Try.prog w base (fun _ => true) held n 22 [c3] = some y2 := h2
  obtain ⟨s, e0, -, hs⟩ := DataW.trod_string Try.underlying9 h0'
  simp only [List.cons.injEq, and_true] at e0
  subst e0
  obtain ⟨z0, z1, n2, -, -, t0, t1⟩ := trod_struct2 Try.underlying91 h1'
  have k3 : Try.prog.cellsOf 2 = 1 := by kernel_rfl
  simp only [k3, k2] at t0 t1
  have t0' : DataW.trod enc Try.prog w base (fun _ => true) held n2 2 [c1] = some z0 := t0
  have t1' : DataW.trod enc Try.prog w base (fun _ => true) held n2 22 [c2] = some z1 := t1
  obtain ⟨a, e1, -, -⟩ := DataW.trod_int Try.underlying2 t0'
  simp only [List.cons.injEq, and_true] at e1
  subst e1
  obtain ⟨Z, hZ, lZ⟩ := open_lv t1'
  obtain ⟨Y, hY, lY⟩ := open_lv h2'
  exact ⟨⟨s, ⟨a, Z⟩, Y⟩, _, _, rfl, hZ, hY, hs, lZ, lY⟩
set_option maxRecDepth 100000 in
theorem open_cases {H : Type} {enc : TypeId × Value → H} {w : World} {v : Value} {d : DataW H} {ps : List MemPlace} {b0 : Nat}
    (hval : Value.okWide Try.prog w .any b0 43 v) (hd : DataW.Trod enc Try.prog w 0 (fun _ => true) true 43 v d ps) : ∃ L : List Cs, CsLV w v L ∧ FitCs L := by
  obtain ⟨a0, len, cap, rfl⟩ := okWide_slice Try.underlying43 hval
  obtain ⟨fuel, hf⟩ := hd
  have hc : Try.prog.cellsOf 93 = 4 := by kernel_rfl
  rcases open_slice Try.underlying43 hf with ⟨hcs, hx⟩ | ⟨a, len', cap', m, n, D, Pl, hcs, _, hl, hm, hmm, hx, hV⟩
  · simp only [Value.cells] at hcs
    simp only [List.cons.injEq, and_true] at hcs
    rw [hcs]
    exact ⟨[], Or.inl ⟨rfl, none, 0, rfl⟩, Nat.zero_le _, fun i hi => by simp at hi⟩
  · simp only [Value.cells] at hcs
    simp only [List.cons.injEq, and_true] at hcs
    rw [hcs]
    clear hcs hval
    rw [if_pos rfl] at hmm
    subst hmm
    rw [hc] at hV
    obtain ⟨b, off, spot⟩ := a
    by_cases h0 : len' = 0
    · subst h0
      exact ⟨[], Or.inl ⟨rfl, _, _, rfl⟩, Nat.zero_le _, fun i hi => by simp at hi⟩
    have hspot : spot = none := by
      obtain ⟨cs', h1, h2⟩ := hV 0 (by omega)
      obtain ⟨-, hl4, h3⟩ := World.cells?_some h1
      have h4 := h3 0 (by omega)
      rw [List.getElem?_eq_getElem (by omega)] at h4
      simpa [Addr.add] using World.cell?_spot h4
    subst hspot
    have hcell : ∀ i, i < len' → ∃ C : Cs, CAt w b (off + i * 4) C ∧ FitC C := fun i hi => by
      obtain ⟨cs', h1, h2⟩ := hV i (by omega)
      obtain ⟨C, s1, s2, rfl, l1, l2, fC⟩ := case_of_trod h2
      obtain ⟨-, hl4, h3⟩ := World.cells?_some h1
      have q0 := h3 0 (by omega)
      have q1 := h3 1 (by omega)
      have q2 := h3 2 (by omega)
      have q3 := h3 3 (by omega)
      rw [Go.WideShapes.add_plain, Go.WideShapes.add_plain] at q0 q1 q2 q3
      exact ⟨C, CAt.mk' ⟨q0, q1, q2, q3⟩ l1 l2, fC⟩
    haveI : Inhabited Cs := ⟨zC⟩
    obtain ⟨z, hz⟩ := Deep.choose_lt (α := Cs) (p := fun i z => CAt w b (off + i * 4) z ∧ FitC z) hcell
    have hg : ∀ i, i < len' → ((List.range len').map z).getD i zC = z i := fun i hi => by simp [List.getD, hi]
    refine ⟨(List.range len').map z, Or.inr ⟨b, off, m - len', by simp only [List.length_map, List.length_range]; rw [Nat.add_sub_cancel' hl], by simpa using (by omega : 0 < len'), (hz 0 (by omega)).1.block, fun i hi => ?_⟩, by simp only [List.length_map, List.length_range]; omega, fun i hi => ?_⟩
    · have hi' : i < len' := by simpa using hi
      rw [hg i hi']
      exact (hz i hi').1
    · have hi' : i < len' := by simpa using hi
      rw [hg i hi']
      exact (hz i hi').2
end Go.Proofs.Ytiobbclciboggaa
