/- Lists of spans: copies, marks; that lists are equal. -/
import Derived.Test.YtgiijkbgbpohoaaRows
import Derived.Test.YtgiijkbgbpohoaaSpan
import Derived.ProofKit
import Derived.RegionTactic
import Derived.ChangeAlike
import Derived.Deep.QuietTactic
import Derived.BigQuiet
import Derived.BigRegion
import Derived.Deep.RegionWith
import Derived.Deep.LoopGhost
import Derived.Outline
import Derived.Deep.RegionHeld3
import Derived.Deep.DeepCutAuto
namespace Go.Proofs.Ytgiijkbgbpohoaa
open Go.RowKit Go.ChangeShapes Go.WideShapes

theorem Try.infoP : (Try.prog.info? 70).map (fun i => (i.zero, i.size, i.bytes)) = some (some (.agg #[.int .i64 0, .int .i64 0, .int .i64 0]), 3, 24) := by kernel_rfl
def Sp.v (a : Sp) : Value := .agg #[.int .i64 a.f, .int .i64 a.t, .int .i64 a.g]

theorem toSpan_any (a : Sp) (w : World) :
    Calls Try.prog 62 #[.agg #[.int .i64 a.f, .int .i64 a.t, .int .i64 a.g]] w fun e w' => e = .returned (.agg #[.int .i64 a.f, .int .i64 a.t, .int .i64 a.g]) ∧ Below w.heap.size w w' := by
  have HB := Lib.hid (fun A B C => ((below_alloc w A).alloc (by simp) B).alloc (by simp; omega) C)
  go_enter Try.func62, Try.ntmps62
  go_wp2_with fail
  refine bodyPost_ret (v := .agg #[.int .i64 a.f, .int .i64 a.t, .int .i64 a.g]) (by simp [results, Try.results62, go_sem]) rfl ?_
  exact ⟨rfl, HB.out _ _ _⟩

structure CopyingP (w : World) (Z : List Sp) (k : Nat) (wr : World) : Prop where
  lt : w.heap.size < wr.heap.size
  arr : ∃ Y, ArrP wr w.heap.size Y ∧ Y.length = Z.length ∧ ∀ i, i < k → Y.getD i zP = Z.getD i zP
  below : Below w.heap.size w wr
theorem CopyingP.keep {w w1 w2 : World} {Z : List Sp} {k : Nat} (h : CopyingP w Z k w1) (b : Below w1.heap.size w1 w2) : CopyingP w Z k w2 := by
  obtain ⟨hl, ⟨Y, h1, h2, h3⟩, hb⟩ := h
  exact ⟨Nat.lt_of_lt_of_le hl b.size, ⟨Y, h1.keep b hl, h2, h3⟩, hb.trans (b.mono (Nat.le_of_lt hl))⟩
theorem CopyingP.step {w w1 : World} {Z : List Sp} {k : Nat} (h : CopyingP w Z k w1) (hk : k < Z.length) : CopyingP w Z (k + 1) (stP w1 w.heap.size (k * 3) (Z.getD k zP)) := by
  obtain ⟨hl, ⟨Y, h1, h2, h3⟩, hb⟩ := h
  refine ⟨by rw [stP_size]; exact hl, ⟨Y.set k (Z.getD k zP), h1.set (by omega) _, by rw [List.length_set]; exact h2, fun i hi => ?_⟩, stP_below hb (Nat.le_refl _)⟩
  by_cases e : i = k
  · subst e
    rw [show (Y.set i (Z.getD i zP)).getD i zP = Z.getD i zP by simp [List.getD, h2, hk]]
  · rw [show (Y.set k (Z.getD k zP)).getD i zP = Y.getD i zP by simp only [List.getD, List.getElem?_set, if_neg (Ne.symm e)]]
    exact h3 i (by omega)
theorem CopyingP.ai {w w1 : World} {Z : List Sp} (h : CopyingP w Z Z.length w1) : PI w.heap.size w1.heap.size w1 (.slice (some ⟨w.heap.size, 0, none⟩) Z.length Z.length) Z := by
  obtain ⟨hl, ⟨Y, h1, h2, h3⟩, hb⟩ := h
  have e : Y = Z := by
    refine List.ext_getElem h2 fun i hi hj => ?_
    have := h3 i hj
    rwa [getDP hi, getDP hj] at this
  subst e
  exact h1.ai (Nat.le_refl _) hl
set_option maxHeartbeats 400000 in
theorem toSpanS_zero (ao : Option Addr) (cap : Nat) (w : World) :
    Calls Try.prog 37 #[.slice ao 0 cap] w (MadeP [] w) := by
  obtain ⟨i0, hi, hz0, hz1, hz2⟩ := info_parts Try.infoP
  go_enter Try.func37, Try.ntmps37
  go_wp2_with (at_make; refine wpList_make_full _ rfl _ _ 43 rfl w.heap.size 70 i0 (.agg #[.int .i64 0, .int .i64 0, .int .i64 0]) 3 Try.underlying43 hi hz0 hz1 _ _ _ _ 0 rfl rfl rfl rfl (by omega) (by unfold maxLen; omega) (Nat.le_refl _) ?_; intro w1 hown hgrow)
  have HB := Lib.hid ((Below.refl _ _).grown hgrow (Nat.le_refl _) (fun g hg => by cases hg))
  clear hown hgrow
  refine wp_loop_rounds 1 ?_
  rw [rounds_succ]
  go_wp2
  refine bodyPost_ret (results_tmp rfl _ _ _) rfl ?_
  exact ⟨_, rfl, PI.nil _ (Nat.le_refl _) _ _, HB.out⟩
set_option maxHeartbeats 400000 in
theorem toSpanS_any (v : Value) (Z : List Sp) (w : World) (hv : PV w v Z) (hn : Z.length ≤ 1048576) :
    Calls Try.prog 37 #[v] w (MadeP Z w) := by
  obtain ⟨i0, hi, hz0, hz1, hz2⟩ := info_parts Try.infoP
  rcases hv with ⟨rfl, ao, cap, rfl⟩ | ⟨b, off, cap, rfl, hpos, hbl, hcell⟩
  · exact toSpanS_zero ao cap w
  · go_enter Try.func37, Try.ntmps37
    go_wp2_with (at_make; refine wpList_make_full _ rfl _ _ 43 rfl w.heap.size 70 i0 (.agg #[.int .i64 0, .int .i64 0, .int .i64 0]) 3 Try.underlying43 hi hz0 hz1 _ _ _ _ Z.length rfl rfl rfl rfl (by rw [hz2]; omega) (by unfold maxLen; omega) (Nat.le_refl _) ?_; intro w1 hown hgrow)
    have H0 : Hid (CopyingP w Z 0 w1) := Lib.hid ⟨(hown.lt _ rfl).2, ⟨_, ArrP.made hown, by simp, fun i hi => by omega⟩, (Below.refl _ _).grown hgrow (Nat.le_refl _) (fun g hg => by cases hg)⟩
    clear hown hgrow
    have HC := Lib.hid hcell
    clear hcell
    go_loopw [4] (fun i wr => ∃ k : Nat, k ≤ Z.length ∧ i = .int .i64 k ∧ CopyingP w Z k wr) (fun i _ => Z.length - (intOf i).toNat)
    case atStart => exact ⟨0, Nat.zero_le _, rfl, H0.out⟩
    case round =>
      clear H0
      obtain ⟨k, hk, rfl, hO⟩ := hrel
      by_cases hlt : k < Z.length
      · have HO := Lib.hid hO
        obtain ⟨c0, c1, c2⟩ := (HC.out k hlt).keep hO.below hbl
        obtain ⟨a, ha⟩ : ∃ a, a = Z.getD k zP := ⟨_, rfl⟩
        rw [← ha] at c0 c1 c2
        have HA := Lib.hid ha
        clear hO ha
        go_wp2_with fail
        go_at_call 62; refine (toSpan_any a _).mono ?_; rintro e w2 ⟨rfl, bb⟩
        clear c0 c1 c2
        have H2 := Lib.hid (HO.out.keep bb)
        obtain ⟨Y, hY, hYl, -⟩ := H2.out.arr
        have hfz := hY.free
        obtain ⟨d0, d1, d2⟩ := hY.cells k (by omega)
        have f0 := hfz (k * 3)
        have f1 := hfz (k * 3 + 1)
        have f2 := hfz (k * 3 + 2)
        have H3 := Lib.hid (H2.out.step hlt)
        clear hY hfz bb
        generalize Y.getD k zP = old at d0 d1 d2
        rw [← HA.out] at H3
        go_wp2_with fail
        go_roundw
        case rel => exact ⟨k + 1, by omega, by go_num, H3.out⟩
        case measure => simp [intOf]; omega
      · obtain rfl : k = Z.length := by omega
        have hr := Lib.hid hO
        clear hO
        go_wp2
        refine bodyPost_ret (results_tmp rfl _ _ _) rfl ?_
        exact ⟨_, rfl, hr.out.ai, hr.out.below⟩

theorem szSpanS_yes (v : Value) (n : Nat) (m : Int) (w : World) (h : ∃ ao cap, v = .slice ao n cap) (hm : (n : Int) ≤ m) (hb : m ≤ 1048576) :
    Calls Try.prog 35 #[v, .int .i64 m] w fun e w' => e = .returned (.int .i64 (m - n)) ∧ w = w' := by
  obtain ⟨ao, cap, rfl⟩ := h
  go_enter Try.func35, Try.ntmps35
  go_wp2
  go_ret
  exact ⟨rfl, rfl⟩
theorem szSpanS_no (v : Value) (n : Nat) (m : Int) (w : World) (h : ∃ ao cap, v = .slice ao n cap) (hm : m < n) (h0 : 0 ≤ m) (hb : m ≤ 1048576) (hn : n ≤ maxLen) :
    Calls Try.prog 35 #[v, .int .i64 m] w fun e w' => e = .returned (.int .i64 (-1)) ∧ w = w' := by
  obtain ⟨ao, cap, rfl⟩ := h
  unfold maxLen at hn
  go_enter Try.func35, Try.ntmps35
  go_wp2
  go_ret
  exact ⟨rfl, rfl⟩

theorem eqSpan_same (a : Sp) (w : World) :
    Calls Try.prog 66 #[.agg #[.int .i64 a.f, .int .i64 a.t, .int .i64 a.g], .agg #[.int .i64 a.f, .int .i64 a.t, .int .i64 a.g]] w fun e w' => e = .returned (.bool true) ∧ Below w.heap.size w w' := by
  have HB := Lib.hid (fun A B => (below_alloc w A).alloc (by simp) B)
  go_enter Try.func66, Try.ntmps66
  go_wp2_with fail
  go_ret
  exact ⟨rfl, HB.out _ _⟩
/-- Two spans' cells. -/
theorem SpAt.two {B : Nat} {w w' : World} {b1 o1 b2 o2 : Nat} {a c : Sp} (h : SpAt w b1 o1 a) (k : SpAt w b2 o2 c) (hb : Below B w w') (l1 : b1 < B) (l2 : b2 < B) :
    (w'.cell? ⟨b1, o1, none⟩ = some (.int .i64 a.f) ∧ w'.cell? ⟨b1, o1 + 1, none⟩ = some (.int .i64 a.t) ∧ w'.cell? ⟨b1, o1 + 2, none⟩ = some (.int .i64 a.g)) ∧ w'.cell? ⟨b2, o2, none⟩ = some (.int .i64 c.f) ∧ w'.cell? ⟨b2, o2 + 1, none⟩ = some (.int .i64 c.t) ∧ w'.cell? ⟨b2, o2 + 2, none⟩ = some (.int .i64 c.g) :=
  ⟨⟨(h.keep hb l1).c0, (h.keep hb l1).c1, (h.keep hb l1).c2⟩, (k.keep hb l2).c0, (k.keep hb l2).c1, (k.keep hb l2).c2⟩
set_option maxHeartbeats 800000 in
theorem eqSpanS_num (b1 off1 cap1 b2 off2 cap2 : Nat) (Z : List Sp) (w : World) (hn : Z.length ≤ 1048576) (h1 : b1 < w.heap.size) (h2 : b2 < w.heap.size) (hc1 : ∀ i, i < Z.length → SpAt w b1 (off1 + i * 3) (Z.getD i zP)) (hc2 : ∀ i, i < Z.length → SpAt w b2 (off2 + i * 3) (Z.getD i zP)) :
    Calls Try.prog 39 #[.slice (some ⟨b1, off1, none⟩) Z.length cap1, .slice (some ⟨b2, off2, none⟩) Z.length cap2] w fun e w' => e = .returned (.bool true) ∧ Below w.heap.size w w' := by
  have C1 := Lib.hid hc1
  have C2 := Lib.hid hc2
  clear hc1 hc2
  go_enter Try.func39, Try.ntmps39
  go_wp2
  go_loopw [5] (fun i wr => ∃ k : Nat, k ≤ Z.length ∧ i = .int .i64 k ∧ Below w.heap.size w wr) (fun i _ => Z.length - (intOf i).toNat)
  case atStart => exact ⟨0, Nat.zero_le _, rfl, Below.refl _ _⟩
  case round =>
    obtain ⟨k, hk, rfl, hwr⟩ := hrel
    by_cases hlt : k < Z.length
    · have e1 := (C1.out k hlt).keep hwr h1
      have e2 := (C2.out k hlt).keep hwr h2
      have HW := Lib.hid hwr
      clear hwr
      generalize Z.getD k zP = a at e1 e2
      obtain ⟨c0, c1, c2⟩ := e1
      obtain ⟨d0, d1, d2⟩ := e2
      have E1 := Lib.hid (show SpAt wr b1 (off1 + k * 3) a from ⟨c0, c1, c2⟩)
      have E2 := Lib.hid (show SpAt wr b2 (off2 + k * 3) a from ⟨d0, d1, d2⟩)
      go_wp2_with fail
      go_region_held3 (fun w' => (w'.cell? ⟨b1, off1 + k * 3, none⟩ = some (.int .i64 a.f) ∧ w'.cell? ⟨b1, off1 + k * 3 + 1, none⟩ = some (.int .i64 a.t) ∧ w'.cell? ⟨b1, off1 + k * 3 + 2, none⟩ = some (.int .i64 a.g)) ∧ w'.cell? ⟨b2, off2 + k * 3, none⟩ = some (.int .i64 a.f) ∧ w'.cell? ⟨b2, off2 + k * 3 + 1, none⟩ = some (.int .i64 a.t) ∧ w'.cell? ⟨b2, off2 + k * 3 + 2, none⟩ = some (.int .i64 a.g)) (first | exact ⟨⟨c0, c1, c2⟩, d0, d1, d2⟩ | exact S2.out) (first
        | (go_at_call 66; refine (eqSpan_same a _).mono ?_; rintro e w3 ⟨rfl, b⟩; have bz := (below_drewN (Below.refl wr.heap.size wr) 1).trans b; have H3 := Lib.hid (HW.out.trans (bz.mono HW.out.size)); have S2 := Lib.hid (E1.out.two E2.out bz (cell_block E1.out.c0) (cell_block E2.out.c0)); clear b bz))
      all_goals
        go_wp2_with fail
        go_roundw
        case rel => exact ⟨k + 1, by omega, by go_num, H3.out⟩
        case measure => simp [intOf]; omega
    · obtain rfl : k = Z.length := by omega
      have HW := Lib.hid hwr
      clear hwr
      go_wp2
      go_ret
      exact ⟨rfl, HW.out⟩
theorem eqSpanS_any (v1 v2 : Value) (Z : List Sp) (w : World) (hn : Z.length ≤ 1048576) (h1 : PV w v1 Z) (h2 : PV w v2 Z) :
    Calls Try.prog 39 #[v1, v2] w fun e w' => e = .returned (.bool true) ∧ Below w.heap.size w w' := by
  rcases h1 with ⟨rfl, ao, cap, rfl⟩ | ⟨b, off, cap, rfl, hpos, hbl, hcell⟩
  · rcases h2 with ⟨_, ao2, cap2, rfl⟩ | ⟨b2, off2, cap2, rfl, hpos2, hbl2, hcell2⟩
    · go_enter Try.func39, Try.ntmps39
      go_wp2
      refine wp_loop_rounds 1 ?_
      rw [rounds_succ]
      go_wp2
      go_ret
      exact ⟨rfl, Below.refl _ _⟩
    · exact absurd hpos2 (by simp)
  · rcases h2 with ⟨rfl, ao2, cap2, rfl⟩ | ⟨b2, off2, cap2, rfl, hpos2, hbl2, hcell2⟩
    · exact absurd hpos (by simp)
    · exact eqSpanS_num _ _ _ _ _ _ Z w hn hbl hbl2 hcell hcell2

end Go.Proofs.Ytgiijkbgbpohoaa
