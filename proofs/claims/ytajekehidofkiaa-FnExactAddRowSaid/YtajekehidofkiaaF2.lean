/- Copies of lists of singles, in blocks of their own; marks that are laid into them, and found again. -/
import Derived.Test.YtajekehidofkiaaEqF
import Derived.Test.YtajekehidofkiaaVl
namespace Go.Proofs.Ytajekehidofkiaa
open Go.RowKit Go.ChangeShapes Go.WideShapes
attribute [local go_sem] run_store_float

abbrev FI := SI (Value.float .f32) (0 : Nat)
theorem sl_of_vl {w : World} {v : Value} {Z : List Nat} (h : VL (Value.float .f32) (0 : Nat) w v Z) : SL w v Z := h
theorem FI.sl {lo hi : Nat} {w : World} {v : Value} {Z : List Nat} (h : FI lo hi w v Z) : SL w v Z := SI.vl h

theorem Own.si {g : Nat} {Z : List Nat} {w : World} (h : Own g Z Z.length w) : FI g w.heap.size w (.slice (some ⟨g, 0, none⟩) Z.length Z.length) Z := by
  by_cases h0 : Z.length = 0
  · have : Z = [] := List.eq_nil_of_length_eq_zero h0
    subst this
    exact ⟨Nat.le_refl _, Or.inl ⟨rfl, _, _, rfl⟩⟩
  · refine ⟨Nat.le_refl _, Or.inr ⟨g, 0, 0, rfl, by omega, Nat.le_refl _, h.block, h.free, fun i hi => ?_⟩⟩
    obtain ⟨xs, h1, h2⟩ := h
    rw [Nat.zero_add, h1.cellAt i (by omega)]
    exact h2 i hi

set_option maxHeartbeats 400000 in
theorem toF32_nil (ao : Option Addr) (cap : Nat) (w : World) :
    Calls Try.prog 29 #[.slice ao 0 cap] w (Made (Value.float .f32) 0 [] w) :=
  (toF32_zero ao cap w).mono fun e w' ⟨v, he, hv, hb⟩ => by
    rcases hv with ⟨_, ao', cap', rfl⟩ | ⟨b, off, cap', rfl, h0, _⟩
    · exact ⟨_, he, SI.nil _ (Nat.le_refl _) _ _, hb⟩
    · exact absurd h0 (by simp)
set_option maxHeartbeats 400000 in
theorem toF32_si (v : Value) (Z : List Nat) (w : World) (hv : SL w v Z) (hn : Z.length ≤ 1048576) :
    Calls Try.prog 29 #[v] w (Made (Value.float .f32) 0 Z w) := by
  obtain ⟨i0, hi, hz0, hz1, hz2⟩ := info_parts Try.infoF
  rcases hv with ⟨rfl, ao, cap, rfl⟩ | ⟨b, off, cap, rfl, hpos, hbl, hcell⟩
  · exact toF32_nil ao cap w
  · go_enter Try.func29, Try.ntmps29
    go_wp2_with (at_make; refine wpList_make_full _ rfl _ _ 44 rfl w.heap.size 47 i0 (.float .f32 0) 1 Try.underlying44 hi hz0 hz1 _ _ _ _ Z.length rfl rfl rfl rfl (by rw [hz2]; omega) (by unfold maxLen; omega) (Nat.le_refl _) ?_; intro w1 hown hgrow)
    have h0 : Copying w Z 0 w1 := ⟨⟨_, hown, fun i hi => by omega⟩, (Below.refl _ _).grown hgrow (Nat.le_refl _) (fun g hg => by cases hg)⟩
    clear hown hgrow
    go_loopw [4] (fun i wr => ∃ k : Nat, k ≤ Z.length ∧ i = .int .i64 k ∧ Copying w Z k wr) (fun i _ => Z.length - (intOf i).toNat)
    case atStart => exact ⟨0, Nat.zero_le _, rfl, h0⟩
    case round =>
      clear h0
      obtain ⟨k, hk, rfl, hO, hnx⟩ := hrel
      by_cases hlt : k < Z.length
      · have hc1 : wr.cell? ⟨b, off + k, none⟩ = some (.float .f32 (Z.getD k 0)) := by rw [hnx.cell (p := ⟨b, off + k, none⟩) hbl]; exact hcell k hlt
        obtain ⟨v0, hv0⟩ := hO.cell hlt
        have hfz := hO.free k
        have hO2 := Lib.hid (hO.step hlt)
        have hnx2 := Lib.hid (fun u => hnx.setCell (p := ⟨w.heap.size, k, none⟩) (Nat.le_refl _) u)
        clear hO hnx
        go_wp2
        go_roundw
        case rel => exact ⟨k + 1, by omega, by go_num, by have h := hO2.out; rw [getD_at hlt] at h; exact h, hnx2.out _⟩
        case measure => simp [intOf]; omega
      · obtain rfl : k = Z.length := by omega
        have hr := Lib.hid hO.si
        have hb := Lib.hid hnx
        clear hO hnx
        go_wp2
        refine bodyPost_ret (results_tmp rfl _ _ _) rfl ?_
        exact ⟨_, rfl, hr.out, hb.out⟩

/-! ### marks -/
/-- The bits of a whole number as a single. -/
def mkF (n : Int) : Nat := floatOfInt .f32 n
theorem mkF_self (n : Int) : (FloatKind.f32.format.order (mkF n) (mkF n) != some Ordering.eq) = false := by
  have h : (Ieee.single.read (mkF n)).isNaN = false := Fl.read_write_nan Ieee.single (d := .number (n < 0) n.natAbs 0) rfl
  show (Ieee.single.order (mkF n) (mkF n) != some Ordering.eq) = false
  rw [Fl.ord_self h]; rfl
/-- What a list of n holds behind its marks from k on. -/
def marks (k : Int) (n : Nat) : List Nat := (List.range n).map fun i => mkF (k + (i : Nat))
theorem marks_len (k : Int) (n : Nat) : (marks k n).length = n := by simp [marks]
theorem marks_at {k : Int} {n i : Nat} (h : i < n) : (marks k n).getD i 0 = mkF (k + (i : Nat)) := by simp [marks, List.getD, h]

/-- The first j of Z's cells bear marks. -/
structure Marking (b off : Nat) (Z : List Nat) (k : Int) (w : World) (j : Nat) (wr : World) : Prop where
  done : ∀ i, i < j → wr.cell? ⟨b, off + i, none⟩ = some (.float .f32 (mkF (k + (i : Nat))))
  rest : ∀ i, i < Z.length → ∃ u, wr.cell? ⟨b, off + i, none⟩ = some u
  free : ∀ i, wr.frozen? ⟨b, i, none⟩ = false
  turned : Turned b (b + 1) w wr
theorem Marking.step {b off : Nat} {Z : List Nat} {k : Int} {w wr : World} {j : Nat} (h : Marking b off Z k w j wr) (hj : j < Z.length) : Marking b off Z k w (j + 1) (wr.setCell ⟨b, off + j, none⟩ (.float .f32 (mkF (k + (j : Nat))))) := by
  obtain ⟨u, hu⟩ := h.rest j hj
  refine ⟨fun i hi => ?_, fun i hi => ?_, fun i => by rw [World.frozen?_setCell]; exact h.free i, h.turned.setCell (Nat.le_refl _) (Nat.lt_succ_self _) _⟩
  · by_cases e : i = j
    · subst e; exact World.cell?_setCell_same _ _ _ hu
    · rw [World.cell?_setCell_other _ _ _ _ (by intro h; injection h with _ h2 _; omega)]; exact h.done i (by omega)
  · by_cases e : i = j
    · subst e; exact ⟨_, World.cell?_setCell_same _ _ _ hu⟩
    · rw [World.cell?_setCell_other _ _ _ _ (by intro h; injection h with _ h2 _; omega)]; exact h.rest i hi

/-- What marking a list does. -/
def Marked (lo hi : Nat) (v : Value) (k : Int) (n : Nat) (w : World) (e : Ending) (w' : World) : Prop := e = .returned (.int .i64 (k + (n : Nat))) ∧ FI lo hi w' v (marks k n) ∧ Turned lo hi w w'

set_option maxHeartbeats 400000 in
theorem markF32_any (lo hi : Nat) (v : Value) (Z : List Nat) (k : Int) (w : World) (hv : FI lo hi w v Z) (hn : Z.length ≤ 1048576) (hk0 : 0 ≤ k) (hk1 : k ≤ 4194304) :
    Calls Try.prog 34 #[v, .int .i64 k] w (Marked lo hi v k Z.length w) := by
  obtain ⟨hhi, ⟨rfl, ao, cap, rfl⟩ | ⟨b, off, cap, rfl, hpos, hlo, hbh, hfz, hcell⟩⟩ := hv
  · go_enter Try.func34, Try.ntmps34
    go_wp2
    refine wp_loop_rounds 1 ?_
    rw [rounds_succ]
    go_wp2
    go_ret
    exact ⟨by simp, SI.nil _ hhi _ _, Turned.refl _ _ _⟩
  · have h0 : Marking b off Z k w 0 w := ⟨fun i hi => by omega, fun i hi => ⟨_, hcell i hi⟩, hfz, Turned.refl _ _ _⟩
    clear hfz hcell
    go_enter Try.func34, Try.ntmps34
    go_wp2
    go_loopw [1, 5] (fun kk i wr => ∃ j : Nat, j ≤ Z.length ∧ i = .int .i64 j ∧ kk = .int .i64 (k + (j : Nat)) ∧ Marking b off Z k w j wr) (fun _ i _ => Z.length - (intOf i).toNat)
    case atStart => exact ⟨0, Nat.zero_le _, rfl, by simp, h0⟩
    case round =>
      clear h0
      obtain ⟨j, hj, rfl, rfl, hM⟩ := hrel
      by_cases hlt : j < Z.length
      · obtain ⟨u, hu⟩ := hM.rest j hlt
        have hf := hM.free (off + j)
        have hM2 := Lib.hid (hM.step hlt)
        clear hM
        go_wp2
        go_roundw
        case rel => exact ⟨j + 1, by omega, by go_num, by go_num, hM2.out⟩
        case measure => simp [intOf]; omega
      · obtain rfl : j = Z.length := by omega
        have hM2 := Lib.hid hM
        clear hM
        go_wp2
        go_ret
        have hM := hM2.out
        have ht : Turned lo hi w _ := hM.turned.wide hlo hbh
        exact ⟨rfl, ⟨Nat.le_trans hhi ht.size, Or.inr ⟨b, off, cap, by rw [marks_len], by rw [marks_len]; exact hpos, hlo, hbh, hM.free, fun i hi => by rw [marks_len] at hi; rw [marks_at hi]; exact hM.done i hi⟩⟩, ht⟩

set_option maxHeartbeats 400000 in
theorem heldF32_any (v : Value) (k : Int) (n : Nat) (w : World) (hv : SL w v (marks k n)) (hn : n ≤ 1048576) (hk0 : 0 ≤ k) (hk1 : k ≤ 4194304) :
    Calls Try.prog 62 #[v, .int .i64 k] w fun e w' => e = .returned (.int .i64 (k + (n : Nat))) ∧ w = w' := by
  rcases hv with ⟨h0, ao, cap, rfl⟩ | ⟨b, off, cap, rfl, hpos, hbl, hcell⟩
  · have hn0 : n = 0 := by have := marks_len k n; rw [h0] at this; simpa using this.symm
    subst hn0
    clear h0
    go_enter Try.func62, Try.ntmps62
    go_wp2
    refine wp_loop_rounds 1 ?_
    rw [rounds_succ]
    go_wp2
    go_ret
    exact ⟨by simp, rfl⟩
  · rw [marks_len] at hpos hcell ⊢
    go_enter Try.func62, Try.ntmps62
    go_wp2
    go_loop [1, 5] (fun kk i => ∃ j : Nat, j ≤ n ∧ i = .int .i64 j ∧ kk = .int .i64 (k + (j : Nat))) (fun _ i => n - (intOf i).toNat)
    case atStart => exact ⟨0, Nat.zero_le _, rfl, by simp⟩
    case round =>
      obtain ⟨j, hj, rfl, rfl⟩ := hrel
      by_cases hlt : j < n
      · have hc1 := hcell j hlt
        rw [marks_at hlt] at hc1
        have hne := mkF_self (k + (j : Nat))
        unfold mkF at hne hc1
        clear hcell
        go_wp2
        go_round
        case rel => exact ⟨j + 1, by omega, by go_num, by go_num⟩
        case measure => simp [intOf]; omega
      · obtain rfl : j = n := by omega
        clear hcell
        go_wp2
        go_ret
        exact ⟨rfl, rfl⟩
end Go.Proofs.Ytajekehidofkiaa
