/- Lists of jobs: copies, marks; that lists are equal. -/
import Derived.Test.YtdmlhjhhkiajaaaDoorRows
import Derived.Test.YtdmlhjhhkiajaaaDoorJob
import Derived.ProofKit
import Derived.RegionTactic
import Derived.ChangeAlike
import Derived.Deep.QuietTactic
import Derived.BigQuiet
import Derived.BigRegion
import Derived.Deep.RegionWith
import Derived.Deep.LoopGhost
import Derived.Outline
import Derived.Deep.RegionHeld3
import Derived.Deep.DeepCutAuto
namespace Go.Proofs.YtdmlhjhhkiajaaaDoor
open Go.RowKit Go.ChangeShapes Go.WideShapes

theorem Tryd.infoA : (Tryd.prog.info? 108).map (fun i => (i.zero, i.size, i.bytes)) = some (some (.agg #[.int .i64 0, .int .i64 0, .int .i64 0, .int .i64 0]), 4, 32) := by kernel_rfl
def Ac.v (a : Ac) : Value := .agg #[.int .i64 a.f, .int .i64 a.t, .int .i64 a.r, .int .i64 a.c]

theorem toJob_any (a : Ac) (w : World) :
    Calls Tryd.prog 85 #[.agg #[.int .i64 a.f, .int .i64 a.t, .int .i64 a.r, .int .i64 a.c]] w fun e w' => e = .returned (.agg #[.int .i64 a.f, .int .i64 a.t, .int .i64 a.r, .int .i64 a.c]) ∧ Below w.heap.size w w' := by
  have HB := Lib.hid (fun A B C => ((below_alloc w A).alloc (by simp) B).alloc (by simp; omega) C)
  go_enter Tryd.func85, Tryd.ntmps85
  go_wp2_with fail
  refine bodyPost_ret (v := .agg #[.int .i64 a.f, .int .i64 a.t, .int .i64 a.r, .int .i64 a.c]) (by simp [results, Tryd.results85, go_sem]) rfl ?_
  exact ⟨rfl, HB.out _ _ _⟩

structure CopyingA (w : World) (Z : List Ac) (k : Nat) (wr : World) : Prop where
  lt : w.heap.size < wr.heap.size
  arr : ∃ Y, ArrA wr w.heap.size Y ∧ Y.length = Z.length ∧ ∀ i, i < k → Y.getD i zA = Z.getD i zA
  below : Below w.heap.size w wr
theorem CopyingA.keep {w w1 w2 : World} {Z : List Ac} {k : Nat} (h : CopyingA w Z k w1) (b : Below w1.heap.size w1 w2) : CopyingA w Z k w2 := by
  obtain ⟨hl, ⟨Y, h1, h2, h3⟩, hb⟩ := h
  exact ⟨Nat.lt_of_lt_of_le hl b.size, ⟨Y, h1.keep b hl, h2, h3⟩, hb.trans (b.mono (Nat.le_of_lt hl))⟩
theorem CopyingA.step {w w1 : World} {Z : List Ac} {k : Nat} (h : CopyingA w Z k w1) (hk : k < Z.length) : CopyingA w Z (k + 1) (stA w1 w.heap.size (k * 4) (Z.getD k zA)) := by
  obtain ⟨hl, ⟨Y, h1, h2, h3⟩, hb⟩ := h
  refine ⟨by rw [stA_size]; exact hl, ⟨Y.set k (Z.getD k zA), h1.set (by omega) _, by rw [List.length_set]; exact h2, fun i hi => ?_⟩, stA_below hb (Nat.le_refl _)⟩
  by_cases e : i = k
  · subst e
    rw [show (Y.set i (Z.getD i zA)).getD i zA = Z.getD i zA by simp [List.getD, h2, hk]]
  · rw [show (Y.set k (Z.getD k zA)).getD i zA = Y.getD i zA by simp only [List.getD, List.getElem?_set, if_neg (Ne.symm e)]]
    exact h3 i (by omega)
theorem CopyingA.ai {w w1 : World} {Z : List Ac} (h : CopyingA w Z Z.length w1) : AI w.heap.size w1.heap.size w1 (.slice (some ⟨w.heap.size, 0, none⟩) Z.length Z.length) Z := by
  obtain ⟨hl, ⟨Y, h1, h2, h3⟩, hb⟩ := h
  have e : Y = Z := by
    refine List.ext_getElem h2 fun i hi hj => ?_
    have := h3 i hj
    rwa [getDA hi, getDA hj] at this
  subst e
  exact h1.ai (Nat.le_refl _) hl
set_option maxHeartbeats 400000 in
theorem toJobS_zero (ao : Option Addr) (cap : Nat) (w : World) :
    Calls Tryd.prog 40 #[.slice ao 0 cap] w (MadeA [] w) := by
  obtain ⟨i0, hi, hz0, hz1, hz2⟩ := info_parts Tryd.infoA
  go_enter Tryd.func40, Tryd.ntmps40
  go_wp2_with (at_make; refine wpList_make_full _ rfl _ _ 49 rfl w.heap.size 108 i0 (.agg #[.int .i64 0, .int .i64 0, .int .i64 0, .int .i64 0]) 4 Tryd.underlying49 hi hz0 hz1 _ _ _ _ 0 rfl rfl rfl rfl (by omega) (by unfold maxLen; omega) (Nat.le_refl _) ?_; intro w1 hown hgrow)
  have HB := Lib.hid ((Below.refl _ _).grown hgrow (Nat.le_refl _) (fun g hg => by cases hg))
  clear hown hgrow
  refine wp_loop_rounds 1 ?_
  rw [rounds_succ]
  go_wp2
  refine bodyPost_ret (results_tmp rfl _ _ _) rfl ?_
  exact ⟨_, rfl, AI.nil _ (Nat.le_refl _) _ _, HB.out⟩
set_option maxHeartbeats 400000 in
theorem toJobS_any (v : Value) (Z : List Ac) (w : World) (hv : AV w v Z) (hn : Z.length ≤ 1048576) :
    Calls Tryd.prog 40 #[v] w (MadeA Z w) := by
  obtain ⟨i0, hi, hz0, hz1, hz2⟩ := info_parts Tryd.infoA
  rcases hv with ⟨rfl, ao, cap, rfl⟩ | ⟨b, off, cap, rfl, hpos, hbl, hcell⟩
  · exact toJobS_zero ao cap w
  · go_enter Tryd.func40, Tryd.ntmps40
    go_wp2_with (at_make; refine wpList_make_full _ rfl _ _ 49 rfl w.heap.size 108 i0 (.agg #[.int .i64 0, .int .i64 0, .int .i64 0, .int .i64 0]) 4 Tryd.underlying49 hi hz0 hz1 _ _ _ _ Z.length rfl rfl rfl rfl (by rw [hz2]; omega) (by unfold maxLen; omega) (Nat.le_refl _) ?_; intro w1 hown hgrow)
    have H0 : Hid (CopyingA w Z 0 w1) := Lib.hid ⟨(hown.lt _ rfl).2, ⟨_, ArrA.made hown, by simp, fun i hi => by omega⟩, (Below.refl _ _).grown hgrow (Nat.le_refl _) (fun g hg => by cases hg)⟩
    clear hown hgrow
    have HC := Lib.hid hcell
    clear hcell
    go_loopw [4] (fun i wr => ∃ k : Nat, k ≤ Z.length ∧ i = .int .i64 k ∧ CopyingA w Z k wr) (fun i _ => Z.length - (intOf i).toNat)
    case atStart => exact ⟨0, Nat.zero_le _, rfl, H0.out⟩
    case round =>
      clear H0
      obtain ⟨k, hk, rfl, hO⟩ := hrel
      by_cases hlt : k < Z.length
      · have HO := Lib.hid hO
        obtain ⟨c0, c1, c2, c3⟩ := (HC.out k hlt).keep hO.below hbl
        obtain ⟨a, ha⟩ : ∃ a, a = Z.getD k zA := ⟨_, rfl⟩
        rw [← ha] at c0 c1 c2 c3
        have HA := Lib.hid ha
        clear hO ha
        go_wp2_with fail
        go_at_call 85; refine (toJob_any a _).mono ?_; rintro e w2 ⟨rfl, bb⟩
        clear c0 c1 c2 c3
        have H2 := Lib.hid (HO.out.keep bb)
        obtain ⟨Y, hY, hYl, -⟩ := H2.out.arr
        have hfz := hY.free
        obtain ⟨d0, d1, d2, d3⟩ := hY.cells k (by omega)
        have f0 := hfz (k * 4)
        have f1 := hfz (k * 4 + 1)
        have f2 := hfz (k * 4 + 2)
        have f3 := hfz (k * 4 + 3)
        have H3 := Lib.hid (H2.out.step hlt)
        clear hY hfz bb
        generalize Y.getD k zA = old at d0 d1 d2 d3
        rw [← HA.out] at H3
        go_wp2_with fail
        go_roundw
        case rel => exact ⟨k + 1, by omega, by go_num, H3.out⟩
        case measure => simp [intOf]; omega
      · obtain rfl : k = Z.length := by omega
        have hr := Lib.hid hO
        clear hO
        go_wp2
        refine bodyPost_ret (results_tmp rfl _ _ _) rfl ?_
        exact ⟨_, rfl, hr.out.ai, hr.out.below⟩

theorem szJobS_yes (v : Value) (n : Nat) (m : Int) (w : World) (h : ∃ ao cap, v = .slice ao n cap) (hm : (n : Int) ≤ m) (hb : m ≤ 1048576) :
    Calls Tryd.prog 38 #[v, .int .i64 m] w fun e w' => e = .returned (.int .i64 (m - n)) ∧ w = w' := by
  obtain ⟨ao, cap, rfl⟩ := h
  go_enter Tryd.func38, Tryd.ntmps38
  go_wp2
  go_ret
  exact ⟨rfl, rfl⟩
theorem szJobS_no (v : Value) (n : Nat) (m : Int) (w : World) (h : ∃ ao cap, v = .slice ao n cap) (hm : m < n) (h0 : 0 ≤ m) (hb : m ≤ 1048576) (hn : n ≤ maxLen) :
    Calls Tryd.prog 38 #[v, .int .i64 m] w fun e w' => e = .returned (.int .i64 (-1)) ∧ w = w' := by
  obtain ⟨ao, cap, rfl⟩ := h
  unfold maxLen at hn
  go_enter Tryd.func38, Tryd.ntmps38
  go_wp2
  go_ret
  exact ⟨rfl, rfl⟩

theorem eqJob_same (a : Ac) (w : World) :
    Calls Tryd.prog 87 #[.agg #[.int .i64 a.f, .int .i64 a.t, .int .i64 a.r, .int .i64 a.c], .agg #[.int .i64 a.f, .int .i64 a.t, .int .i64 a.r, .int .i64 a.c]] w fun e w' => e = .returned (.bool true) ∧ Below w.heap.size w w' := by
  have HB := Lib.hid (fun A B => (below_alloc w A).alloc (by simp) B)
  go_enter Tryd.func87, Tryd.ntmps87
  go_wp2_with fail
  go_ret
  exact ⟨rfl, HB.out _ _⟩
/-- Two jobs' cells. -/
theorem ArcAt.two {B : Nat} {w w' : World} {b1 o1 b2 o2 : Nat} {a c : Ac} (h : ArcAt w b1 o1 a) (k : ArcAt w b2 o2 c) (hb : Below B w w') (l1 : b1 < B) (l2 : b2 < B) :
    (w'.cell? ⟨b1, o1, none⟩ = some (.int .i64 a.f) ∧ w'.cell? ⟨b1, o1 + 1, none⟩ = some (.int .i64 a.t) ∧ w'.cell? ⟨b1, o1 + 2, none⟩ = some (.int .i64 a.r) ∧ w'.cell? ⟨b1, o1 + 3, none⟩ = some (.int .i64 a.c)) ∧ w'.cell? ⟨b2, o2, none⟩ = some (.int .i64 c.f) ∧ w'.cell? ⟨b2, o2 + 1, none⟩ = some (.int .i64 c.t) ∧ w'.cell? ⟨b2, o2 + 2, none⟩ = some (.int .i64 c.r) ∧ w'.cell? ⟨b2, o2 + 3, none⟩ = some (.int .i64 c.c) :=
  ⟨⟨(h.keep hb l1).c0, (h.keep hb l1).c1, (h.keep hb l1).c2, (h.keep hb l1).c3⟩, (k.keep hb l2).c0, (k.keep hb l2).c1, (k.keep hb l2).c2, (k.keep hb l2).c3⟩
set_option maxHeartbeats 800000 in
theorem eqJobS_num (b1 off1 cap1 b2 off2 cap2 : Nat) (Z : List Ac) (w : World) (hn : Z.length ≤ 1048576) (h1 : b1 < w.heap.size) (h2 : b2 < w.heap.size) (hc1 : ∀ i, i < Z.length → ArcAt w b1 (off1 + i * 4) (Z.getD i zA)) (hc2 : ∀ i, i < Z.length → ArcAt w b2 (off2 + i * 4) (Z.getD i zA)) :
    Calls Tryd.prog 42 #[.slice (some ⟨b1, off1, none⟩) Z.length cap1, .slice (some ⟨b2, off2, none⟩) Z.length cap2] w fun e w' => e = .returned (.bool true) ∧ Below w.heap.size w w' := by
  have C1 := Lib.hid hc1
  have C2 := Lib.hid hc2
  clear hc1 hc2
  go_enter Tryd.func42, Tryd.ntmps42
  go_wp2
  go_loopw [5] (fun i wr => ∃ k : Nat, k ≤ Z.length ∧ i = .int .i64 k ∧ Below w.heap.size w wr) (fun i _ => Z.length - (intOf i).toNat)
  case atStart => exact ⟨0, Nat.zero_le _, rfl, Below.refl _ _⟩
  case round =>
    obtain ⟨k, hk, rfl, hwr⟩ := hrel
    by_cases hlt : k < Z.length
    · have e1 := (C1.out k hlt).keep hwr h1
      have e2 := (C2.out k hlt).keep hwr h2
      have HW := Lib.hid hwr
      clear hwr
      generalize Z.getD k zA = a at e1 e2
      obtain ⟨c0, c1, c2, c3⟩ := e1
      obtain ⟨d0, d1, d2, d3⟩ := e2
      have E1 := Lib.hid (show ArcAt wr b1 (off1 + k * 4) a from ⟨c0, c1, c2, c3⟩)
      have E2 := Lib.hid (show ArcAt wr b2 (off2 + k * 4) a from ⟨d0, d1, d2, d3⟩)
      go_wp2_with fail
      go_region_held3 (fun w' => (w'.cell? ⟨b1, off1 + k * 4, none⟩ = some (.int .i64 a.f) ∧ w'.cell? ⟨b1, off1 + k * 4 + 1, none⟩ = some (.int .i64 a.t) ∧ w'.cell? ⟨b1, off1 + k * 4 + 2, none⟩ = some (.int .i64 a.r) ∧ w'.cell? ⟨b1, off1 + k * 4 + 3, none⟩ = some (.int .i64 a.c)) ∧ w'.cell? ⟨b2, off2 + k * 4, none⟩ = some (.int .i64 a.f) ∧ w'.cell? ⟨b2, off2 + k * 4 + 1, none⟩ = some (.int .i64 a.t) ∧ w'.cell? ⟨b2, off2 + k * 4 + 2, none⟩ = some (.int .i64 a.r) ∧ w'.cell? ⟨b2, off2 + k * 4 + 3, none⟩ = some (.int .i64 a.c)) (first | exact ⟨⟨c0, c1, c2, c3⟩, d0, d1, d2, d3⟩ | exact S2.out) (first
        | (go_at_call 87; refine (eqJob_same a _).mono ?_; rintro e w3 ⟨rfl, b⟩; have bz := (below_drewN (Below.refl wr.heap.size wr) 1).trans b; have H3 := Lib.hid (HW.out.trans (bz.mono HW.out.size)); have S2 := Lib.hid (E1.out.two E2.out bz (cell_block E1.out.c0) (cell_block E2.out.c0)); clear b bz))
      all_goals
        go_wp2_with fail
        go_roundw
        case rel => exact ⟨k + 1, by omega, by go_num, H3.out⟩
        case measure => simp [intOf]; omega
    · obtain rfl : k = Z.length := by omega
      have HW := Lib.hid hwr
      clear hwr
      go_wp2
      go_ret
      exact ⟨rfl, HW.out⟩
theorem eqJobS_any (v1 v2 : Value) (Z : List Ac) (w : World) (hn : Z.length ≤ 1048576) (h1 : AV w v1 Z) (h2 : AV w v2 Z) :
    Calls Tryd.prog 42 #[v1, v2] w fun e w' => e = .returned (.bool true) ∧ Below w.heap.size w w' := by
  rcases h1 with ⟨rfl, ao, cap, rfl⟩ | ⟨b, off, cap, rfl, hpos, hbl, hcell⟩
  · rcases h2 with ⟨_, ao2, cap2, rfl⟩ | ⟨b2, off2, cap2, rfl, hpos2, hbl2, hcell2⟩
    · go_enter Tryd.func42, Tryd.ntmps42
      go_wp2
      refine wp_loop_rounds 1 ?_
      rw [rounds_succ]
      go_wp2
      go_ret
      exact ⟨rfl, Below.refl _ _⟩
    · exact absurd hpos2 (by simp)
  · rcases h2 with ⟨rfl, ao2, cap2, rfl⟩ | ⟨b2, off2, cap2, rfl, hpos2, hbl2, hcell2⟩
    · exact absurd hpos (by simp)
    · exact eqJobS_num _ _ _ _ _ _ Z w hn hbl hbl2 hcell hcell2

/-- The marks of arc i behind k. -/
def mkA (k : Int) (i : Nat) : Ac := ⟨k + 4 * (i : Int), k + 4 * (i : Int) + 1, k + 4 * (i : Int) + 1 + 1, k + 4 * (i : Int) + 1 + 1 + 1⟩
def marksA (k : Int) (n : Nat) : List Ac := (List.range n).map (mkA k)
theorem marksA_len (k : Int) (n : Nat) : (marksA k n).length = n := by simp [marksA]
theorem marksA_at {k : Int} {n i : Nat} (h : i < n) : (marksA k n).getD i zA = mkA k i := by simp [marksA, List.getD, h]
structure MarkingA (b off n : Nat) (k : Int) (w : World) (j : Nat) (wr : World) : Prop where
  done : ∀ i, i < j → ArcAt wr b (off + i * 4) (mkA k i)
  rest : ∀ i, i < n → ∃ a, ArcAt wr b (off + i * 4) a
  free : ∀ i, wr.frozen? ⟨b, i, none⟩ = false
  turned : Turned b (b + 1) w wr
theorem MarkingA.step {b off n : Nat} {k : Int} {w wr : World} {j : Nat} (h : MarkingA b off n k w j wr) (hj : j < n) : MarkingA b off n k w (j + 1) (stA wr b (off + j * 4) (mkA k j)) := by
  obtain ⟨u, hu⟩ := h.rest j hj
  refine ⟨fun i hi => ?_, fun i hi => ?_, fun i => by rw [stA_frozen]; exact h.free i, stA_turned h.turned (Nat.le_refl _) (Nat.lt_succ_self _)⟩
  · by_cases e : i = j
    · subst e; exact stA_self hu
    · exact stA_arc (h.done i (by omega)) (by omega)
  · by_cases e : i = j
    · subst e; exact ⟨_, stA_self hu⟩
    · obtain ⟨a, ha⟩ := h.rest i hi
      exact ⟨a, stA_arc ha (by omega)⟩
def MarkedA (lo hi : Nat) (v : Value) (k : Int) (n : Nat) (w : World) (e : Ending) (w' : World) : Prop := e = .returned (.int .i64 (k + ((4 * n : Nat) : Int))) ∧ AI lo hi w' v (marksA k n) ∧ Turned lo hi w w'
theorem ret_mark {k : Int} {n : Nat} : Ending.returned (.int .i64 (k + 4 * (n : Int))) = .returned (.int .i64 (k + ((4 * n : Nat) : Int))) := by congr 2
set_option maxHeartbeats 400000 in
theorem markJobS_any (lo hi : Nat) (v : Value) (Z : List Ac) (k : Int) (w : World) (hv : AI lo hi w v Z) (hn : Z.length ≤ 1048576) (hk0 : 0 ≤ k) (hk1 : k ≤ 1099511627776) :
    Calls Tryd.prog 45 #[v, .int .i64 k] w (MarkedA lo hi v k Z.length w) := by
  obtain ⟨hhi, ⟨rfl, ao, cap, rfl⟩ | ⟨b, off, cap, rfl, hpos, hlo, hbh, hfz, hcell⟩⟩ := hv
  · go_enter Tryd.func45, Tryd.ntmps45
    go_wp2
    refine wp_loop_rounds 1 ?_
    rw [rounds_succ]
    go_wp2
    go_ret
    exact ⟨by simp, AI.nil _ hhi _ _, Turned.refl _ _ _⟩
  · have H0 : Hid (MarkingA b off Z.length k w 0 w) := Lib.hid ⟨fun i hi => by omega, fun i hi => ⟨_, hcell i hi⟩, hfz, Turned.refl _ _ _⟩
    clear hfz hcell
    go_enter Tryd.func45, Tryd.ntmps45
    go_wp2
    go_loopw [1, 5] (fun kk i wr => ∃ j : Nat, j ≤ Z.length ∧ i = .int .i64 j ∧ kk = .int .i64 (k + 4 * (j : Int)) ∧ MarkingA b off Z.length k w j wr) (fun _ i _ => Z.length - (intOf i).toNat)
    case atStart => exact ⟨0, Nat.zero_le _, rfl, by simp, H0.out⟩
    case round =>
      clear H0
      obtain ⟨j, hj, rfl, rfl, hM⟩ := hrel
      by_cases hlt : j < Z.length
      · obtain ⟨a, d0, d1, d2, d3⟩ := hM.rest j hlt
        have f0 := hM.free (off + j * 4)
        have f1 := hM.free (off + j * 4 + 1)
        have f2 := hM.free (off + j * 4 + 2)
        have f3 := hM.free (off + j * 4 + 3)
        have hM2 := Lib.hid (hM.step hlt)
        clear hM
        go_wp2_with fail
        go_roundw
        case rel => exact ⟨j + 1, by omega, by go_num, by go_num, hM2.out⟩
        case measure => simp [intOf]; omega
      · obtain rfl : j = Z.length := by omega
        have hM2 := Lib.hid hM
        clear hM
        go_wp2
        go_ret
        have hM := hM2.out
        have ht : Turned lo hi w _ := hM.turned.wide hlo hbh
        exact ⟨ret_mark, ⟨Nat.le_trans hhi ht.size, Or.inr ⟨b, off, cap, by rw [marksA_len], by rw [marksA_len]; exact hpos, hlo, hbh, hM.free, fun i hi => by rw [marksA_len] at hi; rw [marksA_at hi]; exact hM.done i hi⟩⟩, ht⟩
end Go.Proofs.YtdmlhjhhkiajaaaDoor
