/- Lists of lists of integers: sizes; copies; that copies are equal; marks. -/
import Derived.Test.YtiobbclciboggaaRows
import Derived.Test.YtiobbclciboggaaLs
import Derived.Test.YtiobbclciboggaaArr
import Derived.ProofKit
import Derived.RegionTactic
import Derived.ChangeAlike
import Derived.Deep.QuietTactic
import Derived.BigQuiet
import Derived.BigRegion
import Derived.Deep.RegionWith
import Derived.Deep.LoopGhost
import Derived.Outline
import Derived.Deep.RegionHeld3
import Derived.Deep.DeepCutAuto
namespace Go.Proofs.Ytiobbclciboggaa
open Go.RowKit Go.ChangeShapes Go.WideShapes

theorem szI_yes (v : Value) (n : Nat) (m : Int) (w : World) (h : ∃ ao cap, v = .slice ao n cap) (hm : (n : Int) ≤ m) (hb : m ≤ 1048576) :
    Calls Try.prog 56 #[v, .int .i64 m] w fun e w' => e = .returned (.int .i64 (m - n)) ∧ w = w' := by
  obtain ⟨ao, cap, rfl⟩ := h
  go_enter Try.func56, Try.ntmps56
  go_wp2
  go_ret
  exact ⟨rfl, rfl⟩
theorem szI_no (v : Value) (n : Nat) (m : Int) (w : World) (h : ∃ ao cap, v = .slice ao n cap) (hm : m < n) (h0 : 0 ≤ m) (hb : m ≤ 1048576) (hn : n ≤ maxLen) :
    Calls Try.prog 56 #[v, .int .i64 m] w fun e w' => e = .returned (.int .i64 (-1)) ∧ w = w' := by
  obtain ⟨ao, cap, rfl⟩ := h
  unfold maxLen at hn
  go_enter Try.func56, Try.ntmps56
  go_wp2
  go_ret
  exact ⟨rfl, rfl⟩
theorem ret_mark1 {a b : Int} (h : a = b) : Ending.returned (.int .i64 a) = .returned (.int .i64 b) := by rw [h]
set_option maxHeartbeats 1000000 in
theorem szSS_yes (v : Value) (C : List (List Int)) (m : Int) (w : World) (hv : LV w v C) (hm : (szL C : Int) ≤ m) (hb : m ≤ 1048576) :
    Calls Try.prog 15 #[v, .int .i64 m] w fun e w' => e = .returned (.int .i64 (m - szL C)) ∧ w = w' := by
  have hm1 := hm
  unfold szL at hm1
  rw [Int.natCast_add] at hm1
  rcases hv with ⟨rfl, ao, cap, rfl⟩ | ⟨b, off, cap, U, rfl, hpos, hbl, hcell⟩
  · go_enter Try.func15, Try.ntmps15
    go_wp2
    refine wp_loop_rounds 1 ?_
    rw [rounds_succ]
    go_wp2
    go_ret
    exact ⟨by simp [szL, totAt], rfl⟩
  · have HC := Lib.hid hcell
    have hlen : (C.length : Int) ≤ m := by omega
    clear hcell
    go_enter Try.func15, Try.ntmps15
    go_wp2_with fail
    go_loop [1, 5] (fun l i => ∃ k : Nat, k ≤ C.length ∧ i = .int .i64 k ∧ l = .int .i64 (m - (C.length : Int) - (totAt C k : Int))) (fun _ i => C.length - (intOf i).toNat)
    case atStart => exact ⟨0, Nat.zero_le _, rfl, by simp [totAt]⟩
    case round =>
      obtain ⟨k, hk, rfl, rfl⟩ := hrel
      have ht := totAt_le (C := C) hk
      by_cases hlt : k < C.length
      · have ht1 := totAt_le (C := C) (k := k + 1) (n := C.length) hlt
        obtain ⟨c0, u0⟩ := HC.out k hlt
        have L0 := IL.long u0
        have HT : totAt C (k + 1) = totAt C k + (C.getD k []).length := rfl
        generalize (C.getD k []).length = n at L0 HT
        have HL := Lib.hid L0
        have HTT := Lib.hid HT
        obtain ⟨t, htt⟩ : ∃ t, t = totAt C k := ⟨_, rfl⟩
        rw [← htt]
        rw [HT, ← htt] at ht1
        rw [← htt] at HTT
        clear u0 L0 HT htt ht
        go_wp2_with fail
        go_at_call 56; refine (szI_yes _ n _ _ HL.out (by omega) (by omega)).mono ?_; rintro e w1 ⟨rfl, rfl⟩
        go_wp2_with fail
        go_round
        case rel => exact ⟨k + 1, by omega, by go_num, by rw [HTT.out]; go_num⟩
        case measure => simp [intOf]; omega
      · obtain rfl : k = C.length := by omega
        go_wp2_with fail
        go_ret
        exact ⟨ret_mark1 (by unfold szL; omega), rfl⟩
set_option maxHeartbeats 1000000 in
theorem szSS_no (v : Value) (C : List (List Int)) (m : Int) (w : World) (hv : LV w v C) (hm : m < (szL C : Int)) (h0 : 0 ≤ m) (hb : m ≤ 1048576) (hf : FitL C) :
    Calls Try.prog 15 #[v, .int .i64 m] w fun e w' => e = .returned (.int .i64 (-1)) ∧ w = w' := by
  have hm1 := hm
  unfold szL at hm1
  rw [Int.natCast_add] at hm1
  have hx := hf.1
  unfold maxLen at hx
  by_cases hlen : (C.length : Int) ≤ m
  · rcases hv with ⟨rfl, ao, cap, rfl⟩ | ⟨b, off, cap, U, rfl, hpos, hbl, hcell⟩
    · simp [szL, totAt] at hm; omega
    have HC := Lib.hid hcell
    have HF := Lib.hid hf
    clear hcell hf
    go_enter Try.func15, Try.ntmps15
    go_wp2_with fail
    go_loop [1, 5] (fun l i => ∃ k : Nat, k ≤ C.length ∧ i = .int .i64 k ∧ (totAt C k : Int) ≤ m - (C.length : Int) ∧ l = .int .i64 (m - (C.length : Int) - (totAt C k : Int))) (fun _ i => C.length - (intOf i).toNat)
    case atStart => exact ⟨0, Nat.zero_le _, rfl, by simp [totAt]; omega, by simp [totAt]⟩
    case round =>
      obtain ⟨k, hk, rfl, hle, rfl⟩ := hrel
      by_cases hlt : k < C.length
      · obtain ⟨c0, u0⟩ := HC.out k hlt
        have L0 := IL.long u0
        have hz := (HF.out.2 k hlt).1
        unfold maxLen at hz
        have HT : totAt C (k + 1) = totAt C k + (C.getD k []).length := rfl
        generalize (C.getD k []).length = n at L0 HT hz
        obtain ⟨t, htt⟩ : ∃ t, t = totAt C k := ⟨_, rfl⟩
        rw [← htt] at HT hle ⊢
        have HL := Lib.hid L0
        have HTT := Lib.hid HT
        clear u0 L0 HT htt
        by_cases hy : (n : Int) ≤ m - (C.length : Int) - (t : Int)
        · go_wp2_with fail
          go_at_call 56; refine (szI_yes _ n _ _ HL.out hy (by omega)).mono ?_; rintro e w1 ⟨rfl, rfl⟩
          go_wp2_with fail
          go_round
          case rel => exact ⟨k + 1, by omega, by go_num, by rw [HTT.out]; omega, by rw [HTT.out]; go_num⟩
          case measure => simp [intOf]; omega
        · go_wp2_with fail
          go_at_call 56; refine (szI_no _ n _ _ HL.out (by omega) (by omega) (by omega) (by unfold maxLen; omega)).mono ?_; rintro e w1 ⟨rfl, rfl⟩
          go_wp2_with fail
          go_ret
          exact ⟨rfl, rfl⟩
      · obtain rfl : k = C.length := by omega
        exfalso; omega
  · obtain ⟨ao, cap, rfl⟩ := hv.long
    clear hv
    go_enter Try.func15, Try.ntmps15
    go_wp2_with fail
    go_ret
    exact ⟨rfl, rfl⟩

/-- The copy of a list of lists, of which k are there. -/
structure CopyingL (w : World) (C : List (List Int)) (k : Nat) (wr : World) : Prop where
  arr : ∃ (U : List Value) (G : Nat → Nat), U.length = C.length ∧ (∀ i, i < C.length → wr.cell? ⟨w.heap.size, i, none⟩ = some (U.getD i vnil)) ∧ (∀ i, wr.frozen? ⟨w.heap.size, i, none⟩ = false) ∧
    (∀ i, i < k → IB (G i) wr (U.getD i vnil) (C.getD i []) ∧ (C.getD i [] = [] ∨ (w.heap.size < G i ∧ G i < wr.heap.size))) ∧ ∀ i j, i < j → j < k → C.getD i [] = [] ∨ C.getD j [] = [] ∨ G i ≠ G j
  lt : w.heap.size < wr.heap.size
  below : Below w.heap.size w wr
theorem CopyingL.start {w w1 : World} {C : List (List Int)} {e : Nat} (h : w1.ownsRow w.heap.size e 1 (.slice (some ⟨w.heap.size, 0, none⟩) C.length C.length) C.length (madeCells vnil.cells (C.length * 1)).toList) (hb : Below w.heap.size w w1) (hl : w.heap.size < w1.heap.size) : CopyingL w C 0 w1 := by
  refine ⟨⟨List.replicate C.length vnil, fun _ => 0, by simp, fun i hi => ?_, h.frozenAt, fun i hi => by omega, fun i j _ hj => by omega⟩, hl, hb⟩
  rw [h.cellAt i (by omega)]
  rcases made_one vnil C.length hi with h1 | h1
  · rw [h1]; simp [Value.cells, List.getD, hi]
  · exact absurd rfl h1
theorem CopyingL.keep {w w1 w2 : World} {C : List (List Int)} {k : Nat} (h : CopyingL w C k w1) (b : Below w1.heap.size w1 w2) : CopyingL w C k w2 := by
  obtain ⟨⟨U, G, h1, h2, h3, h4, h5⟩, hl, hb⟩ := h
  have hs := b.size
  refine ⟨⟨U, G, h1, fun i hi => by rw [b.cell (p := ⟨w.heap.size, i, none⟩) hl]; exact h2 i hi, fun i => by rw [b.frozen (p := ⟨w.heap.size, i, none⟩) hl]; exact h3 i, fun i hi => ⟨(h4 i hi).1.below b (Nat.le_refl _), ?_⟩, h5⟩, by omega, hb.trans (b.mono (Nat.le_of_lt hl))⟩
  rcases (h4 i hi).2 with e | e
  · exact Or.inl e
  · exact Or.inr ⟨e.1, by omega⟩
theorem CopyingL.step {w w1 w2 : World} {C : List (List Int)} {k : Nat} {u : Value} (h : CopyingL w C k w1) (hk : k < C.length) (b : Below w1.heap.size w1 w2) (hu : II w1.heap.size w2.heap.size w2 u (C.getD k [])) : CopyingL w C (k + 1) (w2.setCell ⟨w.heap.size, k, none⟩ u) := by
  obtain ⟨⟨U, G, h1, h2, h3, h4, h5⟩, hl, hb⟩ := h.keep b
  have hl1 := h.lt
  obtain ⟨⟨U0, G0, g1, g2, g3, g4, g5⟩, -, -⟩ := h
  obtain ⟨g, hg, hr⟩ := II.ib hu
  have hT : Turned w.heap.size (w.heap.size + 1) w2 (w2.setCell ⟨w.heap.size, k, none⟩ u) := (Turned.refl w.heap.size (w.heap.size + 1) w2).setCell (p := ⟨w.heap.size, k, none⟩) (Nat.le_refl _) (Nat.lt_succ_self _) u
  have hz : (w2.setCell ⟨w.heap.size, k, none⟩ u).heap.size = w2.heap.size := by simp [World.setCell]
  refine ⟨⟨U0.set k u, fun i => if i = k then g else G0 i, by rw [List.length_set]; exact g1, fun i hi => ?_, fun i => by rw [World.frozen?_setCell]; exact h3 i, fun i hi => ?_, fun i j hij hj => ?_⟩, by omega, hb.setCell (Nat.le_refl _) _⟩
  · by_cases e : i = k
    · subst e
      rw [World.cell?_setCell_same _ _ _ (h2 i hi)]
      simp [List.getD, g1, hk]
    · rw [World.cell?_setCell_other _ _ _ _ (by intro hh; injection hh with _ h2 _; omega), b.cell (p := ⟨w.heap.size, i, none⟩) hl1, g2 i hi, List.getD, List.getD, List.getElem?_set, if_neg (fun hh => e hh.symm)]
  · by_cases e : i = k
    · subst e
      rw [show (U0.set i u).getD i vnil = u by simp [List.getD, g1, hk]]
      dsimp only
      rw [if_pos rfl]
      refine ⟨hg.kept hT ?_, ?_⟩
      · rcases hr with e | e
        · exact Or.inl e
        · right; right; omega
      · rcases hr with e | e
        · exact Or.inl e
        · right; omega
    · rw [show (U0.set k u).getD i vnil = U0.getD i vnil by simp only [List.getD, List.getElem?_set, if_neg (Ne.symm e)]]
      dsimp only
      rw [if_neg e]
      have h := g4 i (by omega)
      refine ⟨(h.1.below b (Nat.le_refl _)).kept hT ?_, ?_⟩
      · rcases h.2 with e | e
        · exact Or.inl e
        · right; right; omega
      · rcases h.2 with e | e
        · exact Or.inl e
        · right; have := b.size; omega
  · have hik : i ≠ k := by omega
    dsimp only
    rw [if_neg hik]
    by_cases e : j = k
    · subst e
      rw [if_pos rfl]
      have h := (g4 i (by omega)).2
      rcases h with e | e
      · exact Or.inl e
      · rcases hr with e2 | e2
        · exact Or.inr (Or.inl e2)
        · right; right; omega
    · rw [if_neg e]
      exact g5 i j hij (by omega)
theorem CopyingL.ld {w w1 : World} {C : List (List Int)} (h : CopyingL w C C.length w1) : LD w.heap.size w1.heap.size w1 (.slice (some ⟨w.heap.size, 0, none⟩) C.length C.length) C := by
  obtain ⟨⟨U, G, h1, h2, h3, h4, h5⟩, hl, hb⟩ := h
  by_cases h0 : C.length = 0
  · have : C = [] := List.eq_nil_of_length_eq_zero h0
    subst this
    exact LD.nil _ (Nat.le_refl _) _ _
  refine ⟨Nat.le_refl _, Or.inr ⟨w.heap.size, 0, 0, fun i => U.getD i vnil, G, rfl, by omega, Nat.le_refl _, hl, h3, fun i hi => ⟨by rw [Nat.zero_add]; exact h2 i hi, (h4 i hi).1, ?_⟩, h5⟩⟩
  rcases (h4 i hi).2 with e | e
  · exact Or.inl e
  · right; omega
set_option maxHeartbeats 400000 in
theorem toSS_zero (ao : Option Addr) (cap : Nat) (w : World) :
    Calls Try.prog 17 #[.slice ao 0 cap] w (MadeL [] w) := by
  obtain ⟨i0, hi, hz0, hz1, hz2⟩ := info_parts Try.infoL
  go_enter Try.func17, Try.ntmps17
  go_wp2_with (at_make; refine wpList_make_full _ rfl _ _ 22 rfl w.heap.size 24 i0 vnil 1 Try.underlying22 hi hz0 hz1 _ _ _ _ 0 rfl rfl rfl rfl (by omega) (by unfold maxLen; omega) (Nat.le_refl _) ?_; intro w1 hown hgrow)
  have HB := Lib.hid ((Below.refl _ _).grown hgrow (Nat.le_refl _) (fun g hg => by cases hg))
  clear hown hgrow
  refine wp_loop_rounds 1 ?_
  rw [rounds_succ]
  go_wp2
  refine bodyPost_ret (results_tmp rfl _ _ _) rfl ?_
  exact ⟨_, rfl, LD.nil _ (Nat.le_refl _) _ _, HB.out⟩
set_option maxRecDepth 100000 in
set_option maxHeartbeats 400000 in
theorem toSS_any (v : Value) (C : List (List Int)) (w : World) (hv : LV w v C) (o : szL C ≤ 1048576) :
    Calls Try.prog 17 #[v] w (MadeL C w) := by
  obtain ⟨i0, hi, hz0, hz1, hz2⟩ := info_parts Try.infoL
  have hn : C.length ≤ 1048576 := Nat.le_trans (szL_len C) o
  rcases hv with ⟨rfl, ao, cap, rfl⟩ | ⟨b, off, cap, U, rfl, hpos, hbl, hcell⟩
  · exact toSS_zero ao cap w
  · go_enter Try.func17, Try.ntmps17
    go_wp2_with (at_make; refine wpList_make_full _ rfl _ _ 22 rfl w.heap.size 24 i0 vnil 1 Try.underlying22 hi hz0 hz1 _ _ _ _ C.length rfl rfl rfl rfl (by rw [hz2]; omega) (by unfold maxLen; omega) (Nat.le_refl _) ?_; intro w1 hown hgrow)
    have H0 : Hid (CopyingL w C 0 w1) := Lib.hid (CopyingL.start hown ((Below.refl _ _).grown hgrow (Nat.le_refl _) (fun g hg => by cases hg)) (hown.lt _ rfl).2)
    clear hown hgrow
    have HC := Lib.hid hcell
    clear hcell
    go_loopw [4] (fun i wr => ∃ k : Nat, k ≤ C.length ∧ i = .int .i64 k ∧ CopyingL w C k wr) (fun i _ => C.length - (intOf i).toNat)
    case atStart => exact ⟨0, Nat.zero_le _, rfl, H0.out⟩
    case round =>
      clear H0
      obtain ⟨k, hk, rfl, hO⟩ := hrel
      by_cases hlt : k < C.length
      · have HO := Lib.hid hO
        have c0 : wr.cell? ⟨b, off + k, none⟩ = some (U k) := by rw [hO.below.cell (p := ⟨b, off + k, none⟩) hbl]; exact (HC.out k hlt).1
        have IL0 := Lib.hid ((HC.out k hlt).2.below hO.below (Nat.le_refl _))
        obtain ⟨u, hu⟩ : ∃ u, u = U k := ⟨_, rfl⟩
        rw [← hu] at c0 IL0
        clear hO hu
        have hz := szL_each hlt
        go_wp2_with fail
        go_at_call 34; refine (toI64_si _ (C.getD k []) _ IL0.out (by omega)).mono ?_; rintro e w2 ⟨x, rfl, hx, bb⟩
        clear c0 IL0
        have H2 := Lib.hid (HO.out.keep bb)
        obtain ⟨⟨Y, G, hYl, hY, hfz, -, -⟩, -, -⟩ := H2.out
        have d0 := hY k hlt
        have f0 := hfz k
        obtain ⟨xa, xc, rfl⟩ := II.len' hx
        have H3 := Lib.hid (HO.out.step hlt bb hx)
        obtain ⟨n, hnn⟩ : ∃ n, n = (C.getD k []).length := ⟨_, rfl⟩
        rw [← hnn] at H3 ⊢
        clear hY hfz bb hx hnn
        generalize Y.getD k vnil = old at d0
        go_wp2_with fail
        go_roundw
        case rel => exact ⟨k + 1, by omega, by go_num, H3.out⟩
        case measure => simp [intOf]; omega
      · obtain rfl : k = C.length := by omega
        have hr := Lib.hid hO
        clear hO
        go_wp2
        refine bodyPost_ret (results_tmp rfl _ _ _) rfl ?_
        exact ⟨_, rfl, hr.out.ld, hr.out.below⟩

set_option maxHeartbeats 800000 in
theorem eqSS_num (b1 off1 cap1 b2 off2 cap2 : Nat) (U1 U2 : Nat → Value) (C : List (List Int)) (w : World) (o : szL C ≤ 1048576) (h1 : b1 < w.heap.size) (h2 : b2 < w.heap.size) (hc1 : ∀ i, i < C.length → w.cell? ⟨b1, off1 + i, none⟩ = some (U1 i) ∧ IL w (U1 i) (C.getD i [])) (hc2 : ∀ i, i < C.length → w.cell? ⟨b2, off2 + i, none⟩ = some (U2 i) ∧ IL w (U2 i) (C.getD i [])) :
    Calls Try.prog 20 #[.slice (some ⟨b1, off1, none⟩) C.length cap1, .slice (some ⟨b2, off2, none⟩) C.length cap2] w fun e w' => e = .returned (.bool true) ∧ Below w.heap.size w w' := by
  have C1 := Lib.hid hc1
  have C2 := Lib.hid hc2
  have hn : C.length ≤ 1048576 := Nat.le_trans (szL_len C) o
  clear hc1 hc2
  go_enter Try.func20, Try.ntmps20
  go_wp2
  go_loopw [5] (fun i wr => ∃ k : Nat, k ≤ C.length ∧ i = .int .i64 k ∧ Below w.heap.size w wr) (fun i _ => C.length - (intOf i).toNat)
  case atStart => exact ⟨0, Nat.zero_le _, rfl, Below.refl _ _⟩
  case round =>
    obtain ⟨k, hk, rfl, hwr⟩ := hrel
    by_cases hlt : k < C.length
    · have c0 : wr.cell? ⟨b1, off1 + k, none⟩ = some (U1 k) := by rw [hwr.cell (p := ⟨b1, off1 + k, none⟩) h1]; exact (C1.out k hlt).1
      have d0 : wr.cell? ⟨b2, off2 + k, none⟩ = some (U2 k) := by rw [hwr.cell (p := ⟨b2, off2 + k, none⟩) h2]; exact (C2.out k hlt).1
      have R1 := Lib.hid ((C1.out k hlt).2.below hwr (Nat.le_refl _))
      have R2 := Lib.hid ((C2.out k hlt).2.below hwr (Nat.le_refl _))
      have HW := Lib.hid hwr
      clear hwr
      have hz := szL_each hlt
      generalize U1 k = u1 at c0 R1
      generalize U2 k = u2 at d0 R2
      have Z1 := Lib.hid c0
      have Z2 := Lib.hid d0
      go_wp2_with fail
      go_region_held3 (fun w' => w'.cell? ⟨b1, off1 + k, none⟩ = some u1 ∧ w'.cell? ⟨b2, off2 + k, none⟩ = some u2) (first | exact ⟨c0, d0⟩ | exact S2.out) (first
        | (go_at_call 19; refine (eqI64_any _ _ (C.getD k []) _ (by omega) (VL.drewN R1.out _) (VL.drewN R2.out _)).mono ?_; rintro e w3 ⟨rfl, m3, rfl⟩; have H3 : Hid (Below w.heap.size w (wr.drewN (1 + m3))) := Lib.hid (below_drewN HW.out (1 + m3)); have S2 : Hid (_ ∧ _) := Lib.hid ⟨Z1.out, Z2.out⟩))
      all_goals
        go_wp2_with fail
        go_roundw
        case rel => exact ⟨k + 1, by omega, by go_num, H3.out⟩
        case measure => simp [intOf]; omega
    · obtain rfl : k = C.length := by omega
      have HW := Lib.hid hwr
      clear hwr
      go_wp2
      go_ret
      exact ⟨rfl, HW.out⟩
theorem eqSS_any (v1 v2 : Value) (C : List (List Int)) (w : World) (o : szL C ≤ 1048576) (h1 : LV w v1 C) (h2 : LV w v2 C) :
    Calls Try.prog 20 #[v1, v2] w fun e w' => e = .returned (.bool true) ∧ Below w.heap.size w w' := by
  rcases h1 with ⟨rfl, ao, cap, rfl⟩ | ⟨b, off, cap, U, rfl, hpos, hbl, hcell⟩
  · rcases h2 with ⟨_, ao2, cap2, rfl⟩ | ⟨b2, off2, cap2, U2, rfl, hpos2, hbl2, hcell2⟩
    · go_enter Try.func20, Try.ntmps20
      go_wp2
      refine wp_loop_rounds 1 ?_
      rw [rounds_succ]
      go_wp2
      go_ret
      exact ⟨rfl, Below.refl _ _⟩
    · exact absurd hpos2 (by simp)
  · rcases h2 with ⟨rfl, ao2, cap2, rfl⟩ | ⟨b2, off2, cap2, U2, rfl, hpos2, hbl2, hcell2⟩
    · exact absurd hpos (by simp)
    · exact eqSS_num _ _ _ _ _ _ _ _ C w o hbl hbl2 hcell hcell2

end Go.Proofs.Ytiobbclciboggaa
