/- Lists of 64-bit integers: how they read; copies, marks; that lists are equal. -/
import Derived.Test.YtfingpllakbpnaaDoorRows
import Derived.Test.YtfingpllakbpnaaDoorVl
import Derived.ProofKit
import Derived.RegionTactic
import Derived.ChangeAlike
import Derived.Deep.QuietTactic
import Derived.BigQuiet
import Derived.BigRegion
import Derived.Deep.RegionWith
namespace Go.Proofs.YtfingpllakbpnaaDoor
open Go.RowKit Go.ChangeShapes Go.WideShapes

abbrev IL := VL (Value.int .i64) (0 : Int)
abbrev II := SI (Value.int .i64) (0 : Int)
theorem II.il {lo hi : Nat} {w : World} {v : Value} {Z : List Int} (h : II lo hi w v Z) : IL w v Z := SI.vl h
theorem getDI {Z : List Int} {k : Nat} (h : k < Z.length) : Z.getD k 0 = Z[k] := by simp [List.getD, h]
theorem Tryd.infoI : (Tryd.prog.info? 2).map (fun i => (i.zero, i.size, i.bytes)) = some (some (.int .i64 0), 1, 8) := by kernel_rfl

/-- A row of the call's own, of which the first k elements are the list's. -/
def OwnI (g : Nat) (Z : List Int) (k : Nat) (w : World) : Prop :=
  ∃ xs : List Value, w.ownsRow g 2 1 (.slice (some ⟨g, 0, none⟩) Z.length Z.length) Z.length xs ∧ ∀ i, i < k → xs[i]? = some (.int .i64 (Z.getD i 0))
theorem OwnI.len {g : Nat} {Z : List Int} {xs : List Value} {w : World} (h : w.ownsRow g 2 1 (.slice (some ⟨g, 0, none⟩) Z.length Z.length) Z.length xs) : xs.length = Z.length := by have := h.1; omega
theorem OwnI.cell {g : Nat} {Z : List Int} {k : Nat} {w : World} (h : OwnI g Z k w) {i : Nat} (hi : i < Z.length) : ∃ v, w.cell? ⟨g, i, none⟩ = some v := by
  obtain ⟨xs, h1, _⟩ := h
  refine ⟨xs[i]'(by rw [OwnI.len h1]; exact hi), ?_⟩
  rw [h1.cellAt i (by omega)]
  exact List.getElem?_eq_getElem _
theorem OwnI.free {g : Nat} {Z : List Int} {k : Nat} {w : World} (h : OwnI g Z k w) (i : Nat) : w.frozen? ⟨g, i, none⟩ = false := by
  obtain ⟨xs, h1, _⟩ := h
  exact h1.frozenAt i
theorem OwnI.step {g : Nat} {Z : List Int} {k : Nat} {w : World} (h : OwnI g Z k w) (hk : k < Z.length) : OwnI g Z (k + 1) (w.setCell ⟨g, k, none⟩ (.int .i64 (Z.getD k 0))) := by
  obtain ⟨xs, h1, h2⟩ := h
  refine ⟨xs.set k _, (h1.stored k _).1, fun i hi => ?_⟩
  by_cases e : i = k
  · subst e
    rw [List.getElem?_set_self (by rw [OwnI.len h1]; exact hk)]
  · rw [List.getElem?_set_ne (fun h => e h.symm)]
    exact h2 i (by omega)
theorem OwnI.block {g : Nat} {Z : List Int} {k : Nat} {w : World} (h : OwnI g Z k w) : g < w.heap.size := by
  obtain ⟨xs, h1, _⟩ := h
  rcases h1.2 with ⟨h', _⟩ | ⟨g', cap', cur, h', hb, hg, _⟩
  · simp at h'
  · simp only [Value.slice.injEq, Option.some.injEq, Addr.mk.injEq, and_true, true_and] at h'
    obtain ⟨rfl, rfl⟩ := h'
    rcases Nat.lt_or_ge g w.heap.size with h5 | h5
    · exact h5
    · rw [Array.getElem?_eq_none h5] at hg; cases hg
theorem OwnI.si {g : Nat} {Z : List Int} {w : World} (h : OwnI g Z Z.length w) : II g w.heap.size w (.slice (some ⟨g, 0, none⟩) Z.length Z.length) Z := by
  by_cases h0 : Z.length = 0
  · have : Z = [] := List.eq_nil_of_length_eq_zero h0
    subst this
    exact ⟨Nat.le_refl _, Or.inl ⟨rfl, _, _, rfl⟩⟩
  · refine ⟨Nat.le_refl _, Or.inr ⟨g, 0, 0, rfl, by omega, Nat.le_refl _, h.block, h.free, fun i hi => ?_⟩⟩
    obtain ⟨xs, h1, h2⟩ := h
    rw [Nat.zero_add, h1.cellAt i (by omega)]
    exact h2 i hi

def CopyingI (w : World) (Z : List Int) (k : Nat) (wr : World) : Prop := OwnI w.heap.size Z k wr ∧ Below w.heap.size w wr
set_option maxHeartbeats 400000 in
theorem toI64_zero (ao : Option Addr) (cap : Nat) (w : World) :
    Calls Tryd.prog 9 #[.slice ao 0 cap] w (Made (Value.int .i64) (0 : Int) [] w) := by
  obtain ⟨i0, hi, hz0, hz1, hz2⟩ := info_parts Tryd.infoI
  go_enter Tryd.func9, Tryd.ntmps9
  go_wp2_with (at_make; refine wpList_make_full _ rfl _ _ 25 rfl w.heap.size 2 i0 (.int .i64 0) 1 Tryd.underlying25 hi hz0 hz1 _ _ _ _ 0 rfl rfl rfl rfl (by omega) (by unfold maxLen; omega) (Nat.le_refl _) ?_; intro w1 hown hgrow)
  have hb : Below w.heap.size w w1 := (Below.refl _ _).grown hgrow (Nat.le_refl _) (fun g hg => by cases hg)
  have HB := Lib.hid hb
  clear hb hown hgrow
  refine wp_loop_rounds 1 ?_
  rw [rounds_succ]
  go_wp2
  refine bodyPost_ret (results_tmp rfl _ _ _) rfl ?_
  exact ⟨_, rfl, SI.nil _ (Nat.le_refl _) _ _, HB.out⟩
set_option maxHeartbeats 400000 in
theorem toI64_si (v : Value) (Z : List Int) (w : World) (hv : IL w v Z) (hn : Z.length ≤ 1048576) :
    Calls Tryd.prog 9 #[v] w (Made (Value.int .i64) 0 Z w) := by
  obtain ⟨i0, hi, hz0, hz1, hz2⟩ := info_parts Tryd.infoI
  rcases hv with ⟨rfl, ao, cap, rfl⟩ | ⟨b, off, cap, rfl, hpos, hbl, hcell⟩
  · exact toI64_zero ao cap w
  · go_enter Tryd.func9, Tryd.ntmps9
    go_wp2_with (at_make; refine wpList_make_full _ rfl _ _ 25 rfl w.heap.size 2 i0 (.int .i64 0) 1 Tryd.underlying25 hi hz0 hz1 _ _ _ _ Z.length rfl rfl rfl rfl (by rw [hz2]; omega) (by unfold maxLen; omega) (Nat.le_refl _) ?_; intro w1 hown hgrow)
    have h0 : CopyingI w Z 0 w1 := ⟨⟨_, hown, fun i hi => by omega⟩, (Below.refl _ _).grown hgrow (Nat.le_refl _) (fun g hg => by cases hg)⟩
    clear hown hgrow
    go_loopw [4] (fun i wr => ∃ k : Nat, k ≤ Z.length ∧ i = .int .i64 k ∧ CopyingI w Z k wr) (fun i _ => Z.length - (intOf i).toNat)
    case atStart => exact ⟨0, Nat.zero_le _, rfl, h0⟩
    case round =>
      clear h0
      obtain ⟨k, hk, rfl, hO, hnx⟩ := hrel
      by_cases hlt : k < Z.length
      · have hc1 : wr.cell? ⟨b, off + k, none⟩ = some (.int .i64 (Z.getD k 0)) := by rw [hnx.cell (p := ⟨b, off + k, none⟩) hbl]; exact hcell k hlt
        obtain ⟨v0, hv0⟩ := hO.cell hlt
        have hfz := hO.free k
        have hO2 := Lib.hid (hO.step hlt)
        have hnx2 := Lib.hid (fun u => hnx.setCell (p := ⟨w.heap.size, k, none⟩) (Nat.le_refl _) u)
        clear hO hnx
        go_wp2
        go_roundw
        case rel => exact ⟨k + 1, by omega, by go_num, by have h := hO2.out; rw [getDI hlt] at h; exact h, hnx2.out _⟩
        case measure => simp [intOf]; omega
      · obtain rfl : k = Z.length := by omega
        have hr := Lib.hid hO.si
        have hb := Lib.hid hnx
        clear hO hnx
        go_wp2
        refine bodyPost_ret (results_tmp rfl _ _ _) rfl ?_
        exact ⟨_, rfl, hr.out, hb.out⟩

/-- What a list of n holds behind its marksI from k on. -/
def marksI (k : Int) (n : Nat) : List Int := (List.range n).map fun i => (k + (i : Nat))
theorem marksI_len (k : Int) (n : Nat) : (marksI k n).length = n := by simp [marksI]
theorem marksI_at {k : Int} {n i : Nat} (h : i < n) : (marksI k n).getD i 0 = (k + (i : Nat)) := by simp [marksI, List.getD, h]

/-- The first j of Z's cells bear marks. -/
structure MarkingI (b off : Nat) (Z : List Int) (k : Int) (w : World) (j : Nat) (wr : World) : Prop where
  done : ∀ i, i < j → wr.cell? ⟨b, off + i, none⟩ = some (.int .i64 ((k + (i : Nat))))
  rest : ∀ i, i < Z.length → ∃ u, wr.cell? ⟨b, off + i, none⟩ = some u
  free : ∀ i, wr.frozen? ⟨b, i, none⟩ = false
  turned : Turned b (b + 1) w wr
theorem MarkingI.step {b off : Nat} {Z : List Int} {k : Int} {w wr : World} {j : Nat} (h : MarkingI b off Z k w j wr) (hj : j < Z.length) : MarkingI b off Z k w (j + 1) (wr.setCell ⟨b, off + j, none⟩ (.int .i64 ((k + (j : Nat))))) := by
  obtain ⟨u, hu⟩ := h.rest j hj
  refine ⟨fun i hi => ?_, fun i hi => ?_, fun i => by rw [World.frozen?_setCell]; exact h.free i, h.turned.setCell (Nat.le_refl _) (Nat.lt_succ_self _) _⟩
  · by_cases e : i = j
    · subst e; exact World.cell?_setCell_same _ _ _ hu
    · rw [World.cell?_setCell_other _ _ _ _ (by intro h; injection h with _ h2 _; omega)]; exact h.done i (by omega)
  · by_cases e : i = j
    · subst e; exact ⟨_, World.cell?_setCell_same _ _ _ hu⟩
    · rw [World.cell?_setCell_other _ _ _ _ (by intro h; injection h with _ h2 _; omega)]; exact h.rest i hi

/-- What marking a list does. -/
def MarkedI (lo hi : Nat) (v : Value) (k : Int) (n : Nat) (w : World) (e : Ending) (w' : World) : Prop := e = .returned (.int .i64 (k + (n : Nat))) ∧ II lo hi w' v (marksI k n) ∧ Turned lo hi w w'

set_option maxHeartbeats 400000 in
theorem markI64_any (lo hi : Nat) (v : Value) (Z : List Int) (k : Int) (w : World) (hv : II lo hi w v Z) (hn : Z.length ≤ 1048576) (hk0 : 0 ≤ k) (hk1 : k ≤ 1099511627776) :
    Calls Tryd.prog 14 #[v, .int .i64 k] w (MarkedI lo hi v k Z.length w) := by
  obtain ⟨hhi, ⟨rfl, ao, cap, rfl⟩ | ⟨b, off, cap, rfl, hpos, hlo, hbh, hfz, hcell⟩⟩ := hv
  · go_enter Tryd.func14, Tryd.ntmps14
    go_wp2
    refine wp_loop_rounds 1 ?_
    rw [rounds_succ]
    go_wp2
    go_ret
    exact ⟨by simp, SI.nil _ hhi _ _, Turned.refl _ _ _⟩
  · have h0 : MarkingI b off Z k w 0 w := ⟨fun i hi => by omega, fun i hi => ⟨_, hcell i hi⟩, hfz, Turned.refl _ _ _⟩
    clear hfz hcell
    go_enter Tryd.func14, Tryd.ntmps14
    go_wp2
    go_loopw [1, 5] (fun kk i wr => ∃ j : Nat, j ≤ Z.length ∧ i = .int .i64 j ∧ kk = .int .i64 (k + (j : Nat)) ∧ MarkingI b off Z k w j wr) (fun _ i _ => Z.length - (intOf i).toNat)
    case atStart => exact ⟨0, Nat.zero_le _, rfl, by simp, h0⟩
    case round =>
      clear h0
      obtain ⟨j, hj, rfl, rfl, hM⟩ := hrel
      by_cases hlt : j < Z.length
      · obtain ⟨u, hu⟩ := hM.rest j hlt
        have hf := hM.free (off + j)
        have hM2 := Lib.hid (hM.step hlt)
        clear hM
        go_wp2
        go_roundw
        case rel => exact ⟨j + 1, by omega, by go_num, by go_num, hM2.out⟩
        case measure => simp [intOf]; omega
      · obtain rfl : j = Z.length := by omega
        have hM2 := Lib.hid hM
        clear hM
        go_wp2
        go_ret
        have hM := hM2.out
        have ht : Turned lo hi w _ := hM.turned.wide hlo hbh
        exact ⟨rfl, ⟨Nat.le_trans hhi ht.size, Or.inr ⟨b, off, cap, by rw [marksI_len], by rw [marksI_len]; exact hpos, hlo, hbh, hM.free, fun i hi => by rw [marksI_len] at hi; rw [marksI_at hi]; exact hM.done i hi⟩⟩, ht⟩

set_option maxHeartbeats 400000 in
theorem heldI64_any (v : Value) (k : Int) (n : Nat) (w : World) (hv : IL w v (marksI k n)) (hn : n ≤ 1048576) (hk0 : 0 ≤ k) (hk1 : k ≤ 1099511627776) :
    Calls Tryd.prog 15 #[v, .int .i64 k] w fun e w' => e = .returned (.int .i64 (k + (n : Nat))) ∧ w = w' := by
  rcases hv with ⟨h0, ao, cap, rfl⟩ | ⟨b, off, cap, rfl, hpos, hbl, hcell⟩
  · have hn0 : n = 0 := by have := marksI_len k n; rw [h0] at this; simpa using this.symm
    subst hn0
    clear h0
    go_enter Tryd.func15, Tryd.ntmps15
    go_wp2
    refine wp_loop_rounds 1 ?_
    rw [rounds_succ]
    go_wp2
    go_ret
    exact ⟨by simp, rfl⟩
  · rw [marksI_len] at hpos hcell ⊢
    go_enter Tryd.func15, Tryd.ntmps15
    go_wp2
    go_loop [1, 5] (fun kk i => ∃ j : Nat, j ≤ n ∧ i = .int .i64 j ∧ kk = .int .i64 (k + (j : Nat))) (fun _ i => n - (intOf i).toNat)
    case atStart => exact ⟨0, Nat.zero_le _, rfl, by simp⟩
    case round =>
      obtain ⟨j, hj, rfl, rfl⟩ := hrel
      by_cases hlt : j < n
      · have hc1 := hcell j hlt
        rw [marksI_at hlt] at hc1
        clear hcell
        go_wp2
        go_round
        case rel => exact ⟨j + 1, by omega, by go_num, by go_num⟩
        case measure => simp [intOf]; omega
      · obtain rfl : j = n := by omega
        clear hcell
        go_wp2
        go_ret
        exact ⟨rfl, rfl⟩

set_option maxHeartbeats 400000 in
theorem eqI64_num (b1 off1 cap1 b2 off2 cap2 : Nat) (Z : List Int) (w : World) (hn : Z.length ≤ 1048576) (hc1 : ∀ i, i < Z.length → w.cell? ⟨b1, off1 + i, none⟩ = some (.int .i64 (Z.getD i 0))) (hc2 : ∀ i, i < Z.length → w.cell? ⟨b2, off2 + i, none⟩ = some (.int .i64 (Z.getD i 0))) :
    Calls Tryd.prog 11 #[.slice (some ⟨b1, off1, none⟩) Z.length cap1, .slice (some ⟨b2, off2, none⟩) Z.length cap2] w fun e w' => e = .returned (.bool true) ∧ ∃ n, w' = w.drewN n := by
  go_enter Tryd.func11, Tryd.ntmps11
  go_wp2
  go_loopw [5] (fun i wr => ∃ k : Nat, k ≤ Z.length ∧ i = .int .i64 k ∧ ∃ n, wr = w.drewN n) (fun i _ => Z.length - (intOf i).toNat)
  case atStart => exact ⟨0, Nat.zero_le _, rfl, 0, rfl⟩
  case round =>
    obtain ⟨k, hk, rfl, hwr⟩ := hrel
    by_cases hlt : k < Z.length
    · have c1 : wr.cell? ⟨b1, off1 + k, none⟩ = some (.int .i64 (Z.getD k 0)) := by obtain ⟨n, rfl⟩ := hwr; exact hc1 k hlt
      have c2 : wr.cell? ⟨b2, off2 + k, none⟩ = some (.int .i64 (Z.getD k 0)) := by obtain ⟨n, rfl⟩ := hwr; exact hc2 k hlt
      have HW : Hid (∀ m, ∃ n, wr.drewN m = w.drewN n) := Lib.hid (fun m => by obtain ⟨n, rfl⟩ := hwr; exact ⟨n + m, World.drewN_drewN _ _ _⟩)
      clear hc1 hc2 hwr
      rw [getDI hlt] at c1 c2
      generalize Z[k] = z at c1 c2
      go_wp2
      go_quiet (fail)
      go_wp2
      go_roundw
      case rel => exact ⟨k + 1, by omega, by go_num, HW.out _⟩
      case measure => simp [intOf]; omega
    · obtain rfl : k = Z.length := by omega
      have HW := Lib.hid hwr
      clear hc1 hc2 hwr
      go_wp2
      go_ret
      exact ⟨rfl, HW.out⟩
theorem eqI64_any (v1 v2 : Value) (Z : List Int) (w : World) (hn : Z.length ≤ 1048576) (h1 : IL w v1 Z) (h2 : IL w v2 Z) :
    Calls Tryd.prog 11 #[v1, v2] w fun e w' => e = .returned (.bool true) ∧ ∃ n, w' = w.drewN n := by
  rcases h1 with ⟨rfl, ao, cap, rfl⟩ | ⟨b, off, cap, rfl, hpos, hbl, hcell⟩
  · rcases h2 with ⟨_, ao2, cap2, rfl⟩ | ⟨b2, off2, cap2, rfl, hpos2, hbl2, hcell2⟩
    · go_enter Tryd.func11, Tryd.ntmps11
      go_wp2
      refine wp_loop_rounds 1 ?_
      rw [rounds_succ]
      go_wp2
      go_ret
      exact ⟨rfl, 0, rfl⟩
    · exact absurd hpos2 (by simp)
  · rcases h2 with ⟨rfl, ao2, cap2, rfl⟩ | ⟨b2, off2, cap2, rfl, hpos2, hbl2, hcell2⟩
    · exact absurd hpos (by simp)
    · exact eqI64_num _ _ _ _ _ _ Z w hn hcell hcell2
theorem quiet_below' {w w' : World} (h : ∃ n, w' = w.drewN n) : Below w.heap.size w w' := by
  obtain ⟨n, rfl⟩ := h
  exact below_drewN (Below.refl _ _) n
theorem eqI64_says (v u : Value) (Z : List Int) (w : World) (hn : Z.length ≤ 1048576) (h1 : IL w v Z) (h2 : IL w u Z) : Calls Tryd.prog 11 #[v, u] w fun e w' => e = .returned (.bool true) ∧ Below w.heap.size w w' :=
  (eqI64_any v u Z w hn h1 h2).mono fun _ _ ⟨h1, h2⟩ => ⟨h1, quiet_below' h2⟩
theorem heldI64_says (v : Value) (k : Int) (n : Nat) (w : World) (hv : IL w v (marksI k n)) (hn : n ≤ 1048576) (hk0 : 0 ≤ k) (hk1 : k ≤ 1099511627776) :
    Calls Tryd.prog 15 #[v, .int .i64 k] w fun e w' => e = .returned (.int .i64 (k + (n : Nat))) ∧ Below w.heap.size w w' :=
  (heldI64_any v k n w hv hn hk0 hk1).mono fun _ _ ⟨h1, h2⟩ => ⟨h1, by rw [← h2]; exact Below.refl _ _⟩
theorem IL.long {w : World} {v : Value} {Z : List Int} (h : IL w v Z) : ∃ ao cap, v = .slice ao Z.length cap := VL.len h
theorem IL.below {w w' : World} {v : Value} {Z : List Int} (h : IL w v Z) {B : Nat} (hb : Below B w w') (hB : w.heap.size ≤ B) : IL w' v Z := VL.below h hb hB
theorem II.wide' {lo lo' hi : Nat} {w : World} {v : Value} {Z : List Int} (h : II lo hi w v Z) (h1 : lo' ≤ lo) : II lo' hi w v Z := SI.wide h h1 (Nat.le_refl _) h.1
theorem II.below' {lo hi : Nat} {w w' : World} {v : Value} {Z : List Int} (h : II lo hi w v Z) {B : Nat} (hb : Below B w w') (hB : w.heap.size ≤ B) : II lo hi w' v Z := SI.below h hb hB
theorem II.kept' {lo hi lo2 hi2 : Nat} {w w' : World} {v : Value} {Z : List Int} (h : II lo hi w v Z) (ht : Turned lo2 hi2 w w') (hs : hi ≤ lo2 ∨ hi2 ≤ lo) : II lo hi w' v Z := SI.kept h ht hs
theorem II.len' {lo hi : Nat} {w : World} {v : Value} {Z : List Int} (h : II lo hi w v Z) : ∃ ao cap, v = .slice ao Z.length cap := SI.len h
end Go.Proofs.YtfingpllakbpnaaDoor
