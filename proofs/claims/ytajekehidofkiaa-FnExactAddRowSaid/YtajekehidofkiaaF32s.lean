/- Slices of singles: how they read, and a copy of one. -/
import Derived.Test.YtajekehidofkiaaSame
import Derived.Deep.Slices
import Derived.ProofKit
namespace Go.Proofs.Ytajekehidofkiaa
open Go.RowKit Go.ChangeShapes Go.WideShapes

theorem run_store_float (P : Program) (w : World) (a : Addr) (m : Mode) (k : FloatKind) (b : Nat) : (store a (.float k b) m).run P w = stored P w a (.float k b) m := run_store P w a _ m rfl
attribute [local go_sem] run_store_float

/-- A slice value that reads as the singles Z. -/
def SL (w : World) (v : Value) (Z : List Nat) : Prop :=
  (Z = [] ∧ ∃ ao cap, v = .slice ao 0 cap) ∨
  (∃ b off cap, v = .slice (some ⟨b, off, none⟩) Z.length (Z.length + cap) ∧ 0 < Z.length ∧ b < w.heap.size ∧ ∀ i, i < Z.length → w.cell? ⟨b, off + i, none⟩ = some (.float .f32 (Z.getD i 0)))

theorem SL.below {w w' : World} {v : Value} {Z : List Nat} (h : SL w v Z) {B : Nat} (hb : Below B w w') (hB : w.heap.size ≤ B) : SL w' v Z := by
  rcases h with h | ⟨b, off, cap, h1, h2, h3, h4⟩
  · exact Or.inl h
  · exact Or.inr ⟨b, off, cap, h1, h2, Nat.lt_of_lt_of_le h3 (by have := hb.size; exact this), fun i hi => by rw [hb.cell (p := ⟨b, off + i, none⟩) (by show b < B; omega)]; exact h4 i hi⟩

theorem cell_lt {w : World} {b o : Nat} {v : Value} (h : w.cell? (Addr.add ⟨b, o, none⟩ 0) = some v) : b < w.heap.size := by
  rcases Nat.lt_or_ge b w.heap.size with h1 | h1
  · exact h1
  · exfalso
    have hn : w.heap[b]? = none := by simp [h1]
    simp [Addr.add, World.cell?, hn] at h

/-- .. out of an argument's reading. -/
theorem open_f32s_len {H : Type} {enc : TypeId × Value → H} {P : Program} {w : World} {t e : TypeId} {v : Value} {d : DataW H} {ps : List MemPlace} {b0 : Nat}
    (ht : P.underlying t = some (.slice e)) (he : P.underlying e = some (.float .f32)) (hc : P.cellsOf e = 1) (hval : Value.okWide P w .any b0 t v)
    (hd : DataW.Trod enc P w 0 (fun _ => true) true t v d ps)   : ∃ Z : List Nat, SL w v Z ∧ Z.length ≤ maxLen := by
  obtain ⟨a0, len, cap, rfl⟩ := okWide_slice ht hval
  obtain ⟨fuel, hf⟩ := hd
  rcases Deep.open_slice1 ht hc hf with ⟨hcs, hx⟩ | ⟨a, len', cap', m, n, V, D, Pl, hcs, _, hl, hm, hmm, hx, hV⟩
  · simp [Value.cells] at hcs
    obtain ⟨rfl, rfl, rfl⟩ := hcs
    exact ⟨[], Or.inl ⟨rfl, none, 0, rfl⟩, Nat.zero_le _⟩
  · simp [Value.cells] at hcs
    obtain ⟨rfl, rfl, rfl⟩ := hcs
    simp only [if_true] at hmm
    subst hmm
    have hcell : ∀ i, i < m → ∃ z, V i = .float .f32 z := by
      intro i hi
      obtain ⟨_, h2⟩ := hV i hi
      cases n with
      | zero => simp [DataW.trod] at h2
      | succ n =>
        simp only [DataW.trod, he] at h2
        cases hvi : V i with
        | float k b =>
          rw [hvi] at h2
          cases k with
          | f32 => exact ⟨b, rfl⟩
          | f64 => simp at h2
        | _ => rw [hvi] at h2; simp at h2
    obtain ⟨z, hz⟩ := Deep.choose_lt (α := Nat) (p := fun i z => V i = .float .f32 z) hcell
    refine ⟨(List.range len).map z, ?_, by simp; omega⟩
    by_cases h0 : len = 0
    · subst h0
      exact Or.inl ⟨rfl, _, _, rfl⟩
    · right
      obtain ⟨b, off, spot⟩ := a
      have hc0 := (hV 0 (by omega)).1
      have hspot : spot = none := by simpa [Addr.add] using World.cell?_spot hc0
      subst hspot
      refine ⟨b, off, m - len, by simp only [List.length_map, List.length_range]; rw [Nat.add_sub_cancel' hl], by simpa using (by omega : 0 < len), cell_lt hc0, fun i hi => ?_⟩
      have hi' : i < len := by simpa using hi
      have h3 := (hV i (by omega)).1
      rw [Go.WideShapes.add_plain] at h3
      rw [h3, hz i (by omega)]
      simp [List.getD, hi']

theorem Try.infoF : (Try.prog.info? 47).map (fun i => (i.zero, i.size, i.bytes)) = some (some (.float .f32 0), 1, 4) := by kernel_rfl

/-- A row of the call's own, of which the first k elements are the list's. -/
def Own (g : Nat) (Z : List Nat) (k : Nat) (w : World) : Prop :=
  ∃ xs : List Value, w.ownsRow g 47 1 (.slice (some ⟨g, 0, none⟩) Z.length Z.length) Z.length xs ∧ ∀ i, i < k → xs[i]? = some (.float .f32 (Z.getD i 0))
theorem Own.len {g : Nat} {Z : List Nat} {xs : List Value} {w : World} (h : w.ownsRow g 47 1 (.slice (some ⟨g, 0, none⟩) Z.length Z.length) Z.length xs) : xs.length = Z.length := by have := h.1; omega
theorem Own.cell {g : Nat} {Z : List Nat} {k : Nat} {w : World} (h : Own g Z k w) {i : Nat} (hi : i < Z.length) : ∃ v, w.cell? ⟨g, i, none⟩ = some v := by
  obtain ⟨xs, h1, _⟩ := h
  refine ⟨xs[i]'(by rw [Own.len h1]; exact hi), ?_⟩
  rw [h1.cellAt i (by omega)]
  exact List.getElem?_eq_getElem _
theorem Own.free {g : Nat} {Z : List Nat} {k : Nat} {w : World} (h : Own g Z k w) (i : Nat) : w.frozen? ⟨g, i, none⟩ = false := by
  obtain ⟨xs, h1, _⟩ := h
  exact h1.frozenAt i
theorem Own.step {g : Nat} {Z : List Nat} {k : Nat} {w : World} (h : Own g Z k w) (hk : k < Z.length) : Own g Z (k + 1) (w.setCell ⟨g, k, none⟩ (.float .f32 (Z.getD k 0))) := by
  obtain ⟨xs, h1, h2⟩ := h
  refine ⟨xs.set k _, (h1.stored k _).1, fun i hi => ?_⟩
  by_cases e : i = k
  · subst e
    rw [List.getElem?_set_self (by rw [Own.len h1]; exact hk)]
  · rw [List.getElem?_set_ne (fun h => e h.symm)]
    exact h2 i (by omega)
theorem Own.block {g : Nat} {Z : List Nat} {k : Nat} {w : World} (h : Own g Z k w) : g < w.heap.size := by
  obtain ⟨xs, h1, _⟩ := h
  rcases h1.2 with ⟨h', _⟩ | ⟨g', cap', cur, h', hb, hg, _⟩
  · simp at h'
  · simp only [Value.slice.injEq, Option.some.injEq, Addr.mk.injEq, and_true, true_and] at h'
    obtain ⟨rfl, rfl⟩ := h'
    rcases Nat.lt_or_ge g w.heap.size with h5 | h5
    · exact h5
    · rw [Array.getElem?_eq_none h5] at hg; cases hg
theorem Own.reads {g : Nat} {Z : List Nat} {w : World} (h : Own g Z Z.length w) : SL w (.slice (some ⟨g, 0, none⟩) Z.length Z.length) Z := by
  by_cases h0 : Z.length = 0
  · have : Z = [] := List.eq_nil_of_length_eq_zero h0
    subst this
    exact Or.inl ⟨rfl, _, _, rfl⟩
  · refine Or.inr ⟨g, 0, 0, rfl, by omega, h.block, fun i hi => ?_⟩
    obtain ⟨xs, h1, h2⟩ := h
    rw [Nat.zero_add, h1.cellAt i (by omega)]
    exact h2 i hi

def Copied (Z : List Nat) (w : World) (e : Ending) (w' : World) : Prop := ∃ v, e = .returned v ∧ SL w' v Z ∧ Below w.heap.size w w'

theorem getD_at {Z : List Nat} {k : Nat} (h : k < Z.length) : Z.getD k 0 = Z[k] := by simp [List.getD, h]
def Copying (w : World) (Z : List Nat) (k : Nat) (wr : World) : Prop := Own w.heap.size Z k wr ∧ Below w.heap.size w wr
set_option maxHeartbeats 400000 in
theorem toF32_zero (ao : Option Addr) (cap : Nat) (w : World) :
    Calls Try.prog 29 #[.slice ao 0 cap] w (Copied [] w) := by
  obtain ⟨i0, hi, hz0, hz1, hz2⟩ := info_parts Try.infoF
  go_enter Try.func29, Try.ntmps29
  go_wp2_with (at_make; refine wpList_make_full _ rfl _ _ 44 rfl w.heap.size 47 i0 (.float .f32 0) 1 Try.underlying44 hi hz0 hz1 _ _ _ _ 0 rfl rfl rfl rfl (by omega) (by unfold maxLen; omega) (Nat.le_refl _) ?_; intro w1 hown hgrow)
  have hb : Below w.heap.size w w1 := (Below.refl _ _).grown hgrow (Nat.le_refl _) (fun g hg => by cases hg)
  have HB := Lib.hid hb
  clear hb hown hgrow
  refine wp_loop_rounds 1 ?_
  rw [rounds_succ]
  go_wp2
  refine bodyPost_ret (results_tmp rfl _ _ _) rfl ?_
  exact ⟨_, rfl, Or.inl ⟨rfl, _, _, rfl⟩, HB.out⟩
set_option maxHeartbeats 400000 in
theorem toF32_any (v : Value) (Z : List Nat) (w : World) (hv : SL w v Z) (hn : Z.length ≤ 1048576) :
    Calls Try.prog 29 #[v] w (Copied Z w) := by
  obtain ⟨i0, hi, hz0, hz1, hz2⟩ := info_parts Try.infoF
  rcases hv with ⟨rfl, ao, cap, rfl⟩ | ⟨b, off, cap, rfl, hpos, hbl, hcell⟩
  · exact toF32_zero ao cap w
  · go_enter Try.func29, Try.ntmps29
    go_wp2_with (at_make; refine wpList_make_full _ rfl _ _ 44 rfl w.heap.size 47 i0 (.float .f32 0) 1 Try.underlying44 hi hz0 hz1 _ _ _ _ Z.length rfl rfl rfl rfl (by rw [hz2]; omega) (by unfold maxLen; omega) (Nat.le_refl _) ?_; intro w1 hown hgrow)
    have h0 : Copying w Z 0 w1 := ⟨⟨_, hown, fun i hi => by omega⟩, (Below.refl _ _).grown hgrow (Nat.le_refl _) (fun g hg => by cases hg)⟩
    clear hown hgrow
    go_loopw [4] (fun i wr => ∃ k : Nat, k ≤ Z.length ∧ i = .int .i64 k ∧ Copying w Z k wr) (fun i _ => Z.length - (intOf i).toNat)
    case atStart => exact ⟨0, Nat.zero_le _, rfl, h0⟩
    case round =>
      clear h0
      obtain ⟨k, hk, rfl, hO, hnx⟩ := hrel
      by_cases hlt : k < Z.length
      · have hc1 : wr.cell? ⟨b, off + k, none⟩ = some (.float .f32 (Z.getD k 0)) := by rw [hnx.cell (p := ⟨b, off + k, none⟩) hbl]; exact hcell k hlt
        obtain ⟨v0, hv0⟩ := hO.cell hlt
        have hfz := hO.free k
        have hO2 := Lib.hid (hO.step hlt)
        have hnx2 := Lib.hid (fun u => hnx.setCell (p := ⟨w.heap.size, k, none⟩) (Nat.le_refl _) u)
        clear hO hnx
        go_wp2
        go_roundw
        case rel => exact ⟨k + 1, by omega, by go_num, by have h := hO2.out; rw [getD_at hlt] at h; exact h, hnx2.out _⟩
        case measure => simp [intOf]; omega
      · obtain rfl : k = Z.length := by omega
        have hr := Lib.hid hO.reads
        have hb := Lib.hid hnx
        clear hO hnx
        go_wp2
        refine bodyPost_ret (results_tmp rfl _ _ _) rfl ?_
        exact ⟨_, rfl, hr.out, hb.out⟩
end Go.Proofs.Ytajekehidofkiaa
