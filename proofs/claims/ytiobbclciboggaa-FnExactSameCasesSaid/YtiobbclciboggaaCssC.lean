/- Lists of cases: copies; that copies are equal. -/
import Derived.Test.YtiobbclciboggaaRows
import Derived.Test.YtiobbclciboggaaCss
import Derived.ProofKit
import Derived.RegionTactic
import Derived.ChangeAlike
import Derived.Deep.QuietTactic
import Derived.BigQuiet
import Derived.BigRegion
import Derived.Deep.RegionWith
import Derived.Deep.LoopGhost
import Derived.Outline
import Derived.Deep.RegionHeld3
import Derived.Deep.DeepCutAuto
namespace Go.Proofs.Ytiobbclciboggaa
open Go.RowKit Go.ChangeShapes Go.WideShapes

abbrev vCase : Value := .agg #[.string ByteArray.empty, .int .i64 0, .slice none 0 0, .slice none 0 0]
theorem Try.infoCs : (Try.prog.info? 96).map (fun i => (i.zero, i.size, i.bytes)) = some (some (.agg #[.string ByteArray.empty, .int .i64 0, .slice none 0 0, .slice none 0 0]), 4, 72) := by kernel_rfl
def stC (w : World) (g o : Nat) (s : ByteArray) (n : Int) (u1 u2 : Value) : World := (((w.setCell ⟨g, o, none⟩ (.string s)).setCell ⟨g, o + 1, none⟩ (.int .i64 n)).setCell ⟨g, o + 2, none⟩ u1).setCell ⟨g, o + 3, none⟩ u2
theorem stC_other {w : World} {g o b k : Nat} {s : ByteArray} {n : Int} {u1 u2 : Value} (h : b ≠ g ∨ k < o ∨ o + 4 ≤ k) : (stC w g o s n u1 u2).cell? ⟨b, k, none⟩ = w.cell? ⟨b, k, none⟩ := by
  unfold stC
  rw [World.cell?_setCell_other _ _ _ _ (by intro h; injection h with h1 h2 _; omega), World.cell?_setCell_other _ _ _ _ (by intro h; injection h with h1 h2 _; omega), World.cell?_setCell_other _ _ _ _ (by intro h; injection h with h1 h2 _; omega), World.cell?_setCell_other _ _ _ _ (by intro h; injection h with h1 h2 _; omega)]
theorem stC_self {w : World} {g o : Nat} {s s' : ByteArray} {n n' : Int} {u1 u2 v1 v2 : Value} (h : C4 w g o s' n' v1 v2) : C4 (stC w g o s n u1 u2) g o s n u1 u2 := by
  unfold stC
  refine ⟨?_, ?_, ?_, ?_⟩
  · rw [World.cell?_setCell_other _ _ _ _ (by intro h; injection h with h1 h2 _; omega), World.cell?_setCell_other _ _ _ _ (by intro h; injection h with h1 h2 _; omega), World.cell?_setCell_other _ _ _ _ (by intro h; injection h with h1 h2 _; omega)]
    exact World.cell?_setCell_same _ _ _ h.c0
  · rw [World.cell?_setCell_other _ _ _ _ (by intro h; injection h with h1 h2 _; omega), World.cell?_setCell_other _ _ _ _ (by intro h; injection h with h1 h2 _; omega)]
    exact World.cell?_setCell_same _ _ _ (by rw [World.cell?_setCell_other _ _ _ _ (by intro h; injection h with h1 h2 _; omega)]; exact h.c1)
  · rw [World.cell?_setCell_other _ _ _ _ (by intro h; injection h with h1 h2 _; omega)]
    exact World.cell?_setCell_same _ _ _ (by rw [World.cell?_setCell_other _ _ _ _ (by intro h; injection h with h1 h2 _; omega), World.cell?_setCell_other _ _ _ _ (by intro h; injection h with h1 h2 _; omega)]; exact h.c2)
  · exact World.cell?_setCell_same _ _ _ (by rw [World.cell?_setCell_other _ _ _ _ (by intro h; injection h with h1 h2 _; omega), World.cell?_setCell_other _ _ _ _ (by intro h; injection h with h1 h2 _; omega), World.cell?_setCell_other _ _ _ _ (by intro h; injection h with h1 h2 _; omega)]; exact h.c3)
theorem stC_frozen {w : World} {g o : Nat} {s : ByteArray} {n : Int} {u1 u2 : Value} (p : Addr) : (stC w g o s n u1 u2).frozen? p = w.frozen? p := by unfold stC; rw [World.frozen?_setCell, World.frozen?_setCell, World.frozen?_setCell, World.frozen?_setCell]
theorem stC_four {w : World} {g o b k : Nat} {s s' : ByteArray} {n n' : Int} {u1 u2 v1 v2 : Value} (h : C4 w b k s' n' v1 v2) (hd : b ≠ g ∨ k + 4 ≤ o ∨ o + 4 ≤ k) : C4 (stC w g o s n u1 u2) b k s' n' v1 v2 :=
  ⟨by rw [stC_other (by omega)]; exact h.c0, by rw [stC_other (by omega)]; exact h.c1, by rw [stC_other (by omega)]; exact h.c2, by rw [stC_other (by omega)]; exact h.c3⟩
theorem stC_turned {lo hi : Nat} {w0 w : World} {g o : Nat} {s : ByteArray} {n : Int} {u1 u2 : Value} (h : Turned lo hi w0 w) (h1 : lo ≤ g) (h2 : g < hi) : Turned lo hi w0 (stC w g o s n u1 u2) := by
  unfold stC
  exact (((h.setCell h1 h2 _).setCell h1 h2 _).setCell h1 h2 _).setCell h1 h2 _
theorem stC_below {B : Nat} {w0 w : World} {g o : Nat} {s : ByteArray} {n : Int} {u1 u2 : Value} (h : Below B w0 w) (h1 : B ≤ g) : Below B w0 (stC w g o s n u1 u2) := by
  unfold stC
  exact (((h.setCell h1 _).setCell h1 _).setCell h1 _).setCell h1 _
theorem stC_size {w : World} {g o : Nat} {s : ByteArray} {n : Int} {u1 u2 : Value} : (stC w g o s n u1 u2).heap.size = w.heap.size := by unfold stC; simp [World.setCell]
theorem made_case {n j : Nat} (hj : j < n * 4) : (madeCells vCase.cells (n * 4)).toList[j]? = some ((#[Value.string ByteArray.empty, .int .i64 0, .slice none 0 0, .slice none 0 0] : Array Value).getD (j % 4) default) := by
  rw [Array.getElem?_toList]
  simp [madeCells, hj, Value.cells]

/-- The copy of a list of cases, of which k are there. -/
structure CopyingC (w : World) (L : List Cs) (k : Nat) (wr : World) : Prop where
  done : ∀ i, i < k → ∃ u1 u2, C4 wr w.heap.size (i * 4) (L.getD i zC).name (L.getD i zC).form.letters u1 u2 ∧ LD (w.heap.size + 1) wr.heap.size wr u1 (L.getD i zC).form.cs ∧ LD (w.heap.size + 1) wr.heap.size wr u2 (L.getD i zC).proof
  old : ∀ i, i < L.length → ∃ s n u1 u2, C4 wr w.heap.size (i * 4) s n u1 u2
  free : ∀ i, wr.frozen? ⟨w.heap.size, i, none⟩ = false
  lt : w.heap.size < wr.heap.size
  below : Below w.heap.size w wr
theorem CopyingC.start {w w1 : World} {L : List Cs} {e : Nat} (h : w1.ownsRow w.heap.size e 4 (.slice (some ⟨w.heap.size, 0, none⟩) L.length L.length) L.length (madeCells vCase.cells (L.length * 4)).toList) (hb : Below w.heap.size w w1) (hl : w.heap.size < w1.heap.size) : CopyingC w L 0 w1 := by
  refine ⟨fun i hi => by omega, fun i hi => ⟨ByteArray.empty, 0, .slice none 0 0, .slice none 0 0, ?_, ?_, ?_, ?_⟩, h.frozenAt, hl, hb⟩
  · rw [h.cellAt _ (by omega), made_case (by omega), show i * 4 % 4 = 0 by omega]; rfl
  · rw [h.cellAt _ (by omega), made_case (by omega), show (i * 4 + 1) % 4 = 1 by omega]; rfl
  · rw [h.cellAt _ (by omega), made_case (by omega), show (i * 4 + 2) % 4 = 2 by omega]; rfl
  · rw [h.cellAt _ (by omega), made_case (by omega), show (i * 4 + 3) % 4 = 3 by omega]; rfl
theorem CopyingC.keep {w w1 w2 : World} {L : List Cs} {k : Nat} (h : CopyingC w L k w1) (b : Below w1.heap.size w1 w2) : CopyingC w L k w2 := by
  obtain ⟨hd, ho, hf, hl, hb⟩ := h
  have hs := b.size
  refine ⟨fun i hi => ?_, fun i hi => ?_, fun i => by rw [b.frozen (p := ⟨w.heap.size, i, none⟩) hl]; exact hf i, by omega, hb.trans (b.mono (Nat.le_of_lt hl))⟩
  · obtain ⟨u1, u2, h0, h1, h2⟩ := hd i hi
    exact ⟨u1, u2, h0.keep b hl, LD.wide (h1.below' b (Nat.le_refl _)) (Nat.le_refl _) hs (Nat.le_refl _), LD.wide (h2.below' b (Nat.le_refl _)) (Nat.le_refl _) hs (Nat.le_refl _)⟩
  · obtain ⟨s, n, u1, u2, h0⟩ := ho i hi
    exact ⟨s, n, u1, u2, h0.keep b hl⟩
theorem CopyingC.step {w w1 w2 : World} {L : List Cs} {k : Nat} {u1 u2 : Value} (h : CopyingC w L k w1) (hk : k < L.length) (b : Below w1.heap.size w1 w2) (h1 : LD w1.heap.size w2.heap.size w2 u1 (L.getD k zC).form.cs) (h2 : LD w1.heap.size w2.heap.size w2 u2 (L.getD k zC).proof) : CopyingC w L (k + 1) (stC w2 w.heap.size (k * 4) (L.getD k zC).name (L.getD k zC).form.letters u1 u2) := by
  have hl1 := h.lt
  obtain ⟨hd, ho, hf, hl, hb⟩ := h.keep b
  have hT : Turned w.heap.size (w.heap.size + 1) w2 (stC w2 w.heap.size (k * 4) (L.getD k zC).name (L.getD k zC).form.letters u1 u2) := stC_turned (Turned.refl _ _ _) (Nat.le_refl _) (Nat.lt_succ_self _)
  refine ⟨fun i hi => ?_, fun i hi => ?_, fun i => by rw [stC_frozen]; exact hf i, by rw [stC_size]; exact hl, stC_below hb (Nat.le_refl _)⟩
  · rw [stC_size]
    by_cases e : i = k
    · subst e
      obtain ⟨s, n, v1, v2, h0⟩ := ho i hk
      exact ⟨u1, u2, stC_self h0, (LD.wide h1 (by omega) (Nat.le_refl _) (Nat.le_refl _)).kept' hT (Or.inr (Nat.le_refl _)), (LD.wide h2 (by omega) (Nat.le_refl _) (Nat.le_refl _)).kept' hT (Or.inr (Nat.le_refl _))⟩
    · obtain ⟨v1, v2, h0, g1, g2⟩ := hd i (by omega)
      exact ⟨v1, v2, stC_four h0 (by omega), g1.kept' hT (Or.inr (Nat.le_refl _)), g2.kept' hT (Or.inr (Nat.le_refl _))⟩
  · by_cases e : i = k
    · subst e
      obtain ⟨s, n, v1, v2, h0⟩ := ho i hk
      exact ⟨_, _, _, _, stC_self h0⟩
    · obtain ⟨s, n, v1, v2, h0⟩ := ho i hi
      exact ⟨_, _, _, _, stC_four h0 (by omega)⟩
theorem CopyingC.csl {w w1 : World} {L : List Cs} (h : CopyingC w L L.length w1) : CsLD w.heap.size w1.heap.size w1 (.slice (some ⟨w.heap.size, 0, none⟩) L.length L.length) L := by
  obtain ⟨hd, ho, hf, hl, hb⟩ := h
  refine ⟨Nat.le_of_lt hl, ?_⟩
  by_cases h0 : L.length = 0
  · have : L = [] := List.eq_nil_of_length_eq_zero h0
    subst this
    exact Or.inl ⟨rfl, _, _, rfl⟩
  · refine Or.inr ⟨w.heap.size, 0, 0, rfl, by omega, hl, fun i hi => ?_⟩
    obtain ⟨u1, u2, g0, g1, g2⟩ := hd i hi
    rw [Nat.zero_add]
    exact CAt.mk' g0 g1.lv g2.lv
set_option maxHeartbeats 400000 in
theorem toCaseS_zero (ao : Option Addr) (cap : Nat) (w : World) :
    Calls Try.prog 40 #[.slice ao 0 cap] w (MadeCL [] w) := by
  obtain ⟨i0, hi, hz0, hz1, hz2⟩ := info_parts Try.infoCs
  go_enter Try.func40, Try.ntmps40
  go_wp2_with (at_make; refine wpList_make_full _ rfl _ _ 46 rfl w.heap.size 96 i0 vCase 4 Try.underlying46 hi hz0 hz1 _ _ _ _ 0 rfl rfl rfl rfl (by omega) (by unfold maxLen; omega) (Nat.le_refl _) ?_; intro w1 hown hgrow)
  have HB := Lib.hid ((Below.refl _ _).grown hgrow (Nat.le_refl _) (fun g hg => by cases hg))
  clear hown hgrow
  refine wp_loop_rounds 1 ?_
  rw [rounds_succ]
  go_wp2
  refine bodyPost_ret (results_tmp rfl _ _ _) rfl ?_
  exact ⟨_, rfl, ⟨HB.out.size, Or.inl ⟨rfl, _, _, rfl⟩⟩, HB.out⟩
set_option maxRecDepth 100000 in
set_option maxHeartbeats 800000 in
theorem toCaseS_any (v : Value) (L : List Cs) (w : World) (hv : CsLV w v L) (o : szCs L ≤ 1048576) :
    Calls Try.prog 40 #[v] w (MadeCL L w) := by
  obtain ⟨i0, hi, hz0, hz1, hz2⟩ := info_parts Try.infoCs
  have hn : L.length ≤ 1048576 := Nat.le_trans (szCs_len L) o
  rcases hv with ⟨rfl, ao, cap, rfl⟩ | ⟨b, off, cap, rfl, hpos, hbl, hcell⟩
  · exact toCaseS_zero ao cap w
  · go_enter Try.func40, Try.ntmps40
    go_wp2_with (at_make; refine wpList_make_full _ rfl _ _ 46 rfl w.heap.size 96 i0 vCase 4 Try.underlying46 hi hz0 hz1 _ _ _ _ L.length rfl rfl rfl rfl (by rw [hz2]; omega) (by unfold maxLen; omega) (Nat.le_refl _) ?_; intro w1 hown hgrow)
    have H0 : Hid (CopyingC w L 0 w1) := Lib.hid (CopyingC.start hown ((Below.refl _ _).grown hgrow (Nat.le_refl _) (fun g hg => by cases hg)) (hown.lt _ rfl).2)
    clear hown hgrow
    have HC := Lib.hid hcell
    clear hcell
    go_loopw [4] (fun i wr => ∃ k : Nat, k ≤ L.length ∧ i = .int .i64 k ∧ CopyingC w L k wr) (fun i _ => L.length - (intOf i).toNat)
    case atStart => exact ⟨0, Nat.zero_le _, rfl, H0.out⟩
    case round =>
      clear H0
      obtain ⟨k, hk, rfl, hO⟩ := hrel
      by_cases hlt : k < L.length
      · have HO := Lib.hid hO
        obtain ⟨x1, n1, k1, x2, n2, k2, ⟨c0, c1, c2, c3⟩, e1, e2, l1, l2⟩ := (HC.out k hlt).below hO.below (Nat.le_refl _)
        have HV : Hid (CsV wr (.agg #[.string (L.getD k zC).name, .int .i64 (L.getD k zC).form.letters, .slice x1 n1 k1, .slice x2 n2 k2]) (L.getD k zC)) := Lib.hid ⟨_, _, rfl, l1, l2⟩
        have hz := Nat.le_trans (szCs_each hlt) o
        clear e1 e2 l1 l2 hO
        have HST : Hid (∀ W u1 u2, Below wr.heap.size wr W → LD wr.heap.size W.heap.size W u1 (L.getD k zC).form.cs → LD wr.heap.size W.heap.size W u2 (L.getD k zC).proof → CopyingC w L (k + 1) (stC W w.heap.size (k * 4) (L.getD k zC).name (L.getD k zC).form.letters u1 u2)) := Lib.hid fun W u1 u2 b h1 h2 => HO.out.step hlt b h1 h2
        generalize L.getD k zC = C at c0 c1 HV HST hz
        go_wp2_with fail
        go_at_call 75; refine (toCase_any _ C _ HV.out hz).mono ?_; rintro e w2 ⟨x, rfl, hx, bb⟩
        clear c0 c1 c2 c3
        obtain ⟨s1, s2, a, la, ha, rfl, g1, g2⟩ := hx
        obtain ⟨xa, xc, rfl⟩ := g1.len'
        obtain ⟨ya, yc, rfl⟩ := g2.len'
        have H2 := Lib.hid (HO.out.keep bb)
        obtain ⟨hs, hn0, hu1, hu2, ⟨d0, d1, d2, d3⟩⟩ := H2.out.old k hlt
        have f0 := H2.out.free (k * 4)
        have f1 := H2.out.free (k * 4 + 1)
        have f2 := H2.out.free (k * 4 + 2)
        have f3 := H2.out.free (k * 4 + 3)
        have H3 := Lib.hid (HST.out _ _ _ bb (LD.wide g1 (Nat.le_refl _) ha (Nat.le_refl _)) (LD.wide g2 la (Nat.le_refl _) (Nat.le_refl _)))
        clear g1 g2 bb HST hz
        generalize C.form.cs.length = m1 at H3 ⊢
        generalize C.proof.length = m2 at H3 ⊢
        go_wp2_with fail
        go_roundw
        case rel => exact ⟨k + 1, by omega, by go_num, H3.out⟩
        case measure => simp [intOf]; omega
      · obtain rfl : k = L.length := by omega
        have hr := Lib.hid hO
        clear hO
        go_wp2
        refine bodyPost_ret (results_tmp rfl _ _ _) rfl ?_
        exact ⟨_, rfl, hr.out.csl, hr.out.below⟩

/-- Two cases' cells. -/
def TwoC (w : World) (b1 o1 b2 o2 : Nat) (s1 s2 : ByteArray) (n1 n2 : Int) (u1 u2 v1 v2 : Value) : Prop :=
  (w.cell? ⟨b1, o1, none⟩ = some (.string s1) ∧ w.cell? ⟨b1, o1 + 1, none⟩ = some (.int .i64 n1) ∧ w.cell? ⟨b1, o1 + 2, none⟩ = some u1 ∧ w.cell? ⟨b1, o1 + 3, none⟩ = some u2) ∧ w.cell? ⟨b2, o2, none⟩ = some (.string s2) ∧ w.cell? ⟨b2, o2 + 1, none⟩ = some (.int .i64 n2) ∧ w.cell? ⟨b2, o2 + 2, none⟩ = some v1 ∧ w.cell? ⟨b2, o2 + 3, none⟩ = some v2
theorem C4.two {B : Nat} {w w' : World} {b1 o1 b2 o2 : Nat} {s1 s2 : ByteArray} {n1 n2 : Int} {u1 u2 v1 v2 : Value} (h : C4 w b1 o1 s1 n1 u1 u2) (k : C4 w b2 o2 s2 n2 v1 v2) (hb : Below B w w') (l1 : b1 < B) (l2 : b2 < B) : TwoC w' b1 o1 b2 o2 s1 s2 n1 n2 u1 u2 v1 v2 :=
  ⟨⟨(h.keep hb l1).c0, (h.keep hb l1).c1, (h.keep hb l1).c2, (h.keep hb l1).c3⟩, (k.keep hb l2).c0, (k.keep hb l2).c1, (k.keep hb l2).c2, (k.keep hb l2).c3⟩
set_option maxHeartbeats 800000 in
theorem eqCaseS_num (b1 off1 cap1 b2 off2 cap2 : Nat) (L : List Cs) (w : World) (o : szCs L ≤ 1048576) (hc1 : ∀ i, i < L.length → CAt w b1 (off1 + i * 4) (L.getD i zC)) (hc2 : ∀ i, i < L.length → CAt w b2 (off2 + i * 4) (L.getD i zC)) :
    Calls Try.prog 42 #[.slice (some ⟨b1, off1, none⟩) L.length cap1, .slice (some ⟨b2, off2, none⟩) L.length cap2] w fun e w' => e = .returned (.bool true) ∧ Below w.heap.size w w' := by
  have C1 := Lib.hid hc1
  have C2 := Lib.hid hc2
  have hn : L.length ≤ 1048576 := Nat.le_trans (szCs_len L) o
  clear hc1 hc2
  go_enter Try.func42, Try.ntmps42
  go_wp2
  go_loopw [5] (fun i wr => ∃ k : Nat, k ≤ L.length ∧ i = .int .i64 k ∧ Below w.heap.size w wr) (fun i _ => L.length - (intOf i).toNat)
  case atStart => exact ⟨0, Nat.zero_le _, rfl, Below.refl _ _⟩
  case round =>
    obtain ⟨k, hk, rfl, hwr⟩ := hrel
    by_cases hlt : k < L.length
    · obtain ⟨x1, n1, k1, x2, n2, k2, E1, -, -, l1, l2⟩ := (C1.out k hlt).below hwr (Nat.le_refl _)
      obtain ⟨y1, m1, j1, y2, m2, j2, E2, -, -, g1, g2⟩ := (C2.out k hlt).below hwr (Nat.le_refl _)
      have HW := Lib.hid hwr
      have hz := Nat.le_trans (szCs_each hlt) o
      have HV : Hid (CsV wr (.agg #[.string (L.getD k zC).name, .int .i64 (L.getD k zC).form.letters, .slice x1 n1 k1, .slice x2 n2 k2]) (L.getD k zC)) := Lib.hid ⟨_, _, rfl, l1, l2⟩
      have HU : Hid (CsV wr (.agg #[.string (L.getD k zC).name, .int .i64 (L.getD k zC).form.letters, .slice y1 m1 j1, .slice y2 m2 j2]) (L.getD k zC)) := Lib.hid ⟨_, _, rfl, g1, g2⟩
      clear hwr l1 l2 g1 g2
      generalize L.getD k zC = C at E1 E2 hz HV HU
      have EE1 := Lib.hid E1
      have EE2 := Lib.hid E2
      obtain ⟨c0, c1, c2, c3⟩ := E1
      obtain ⟨d0, d1, d2, d3⟩ := E2
      generalize C.name = nm at c0 d0 HV HU EE1 EE2
      generalize C.form.letters = le at c1 d1 HV HU EE1 EE2
      go_wp2_with fail
      go_region_held3 (fun w' => (w'.cell? ⟨b1, off1 + k * 4, none⟩ = some (.string nm) ∧ w'.cell? ⟨b1, off1 + k * 4 + 1, none⟩ = some (.int .i64 le) ∧ w'.cell? ⟨b1, off1 + k * 4 + 2, none⟩ = some (.slice x1 n1 k1) ∧ w'.cell? ⟨b1, off1 + k * 4 + 3, none⟩ = some (.slice x2 n2 k2)) ∧ w'.cell? ⟨b2, off2 + k * 4, none⟩ = some (.string nm) ∧ w'.cell? ⟨b2, off2 + k * 4 + 1, none⟩ = some (.int .i64 le) ∧ w'.cell? ⟨b2, off2 + k * 4 + 2, none⟩ = some (.slice y1 m1 j1) ∧ w'.cell? ⟨b2, off2 + k * 4 + 3, none⟩ = some (.slice y2 m2 j2)) (first | exact ⟨⟨c0, c1, c2, c3⟩, d0, d1, d2, d3⟩ | exact S2.out) (first
        | (go_at_call 78; refine (eqCase_any _ _ C _ hz (HV.out.below (below_drewN (Below.refl wr.heap.size wr) 1) (Nat.le_refl _)) (HU.out.below (below_drewN (Below.refl wr.heap.size wr) 1) (Nat.le_refl _))).mono ?_; rintro e w3 ⟨rfl, b⟩; have bz := (below_drewN (Below.refl wr.heap.size wr) 1).trans b; have H3 := Lib.hid (HW.out.trans (bz.mono HW.out.size)); have S2 := Lib.hid (EE1.out.two EE2.out bz (cell_block EE1.out.c0) (cell_block EE2.out.c0)); clear b bz))
      all_goals
        go_wp2_with fail
        go_roundw
        case rel => exact ⟨k + 1, by omega, by go_num, H3.out⟩
        case measure => simp [intOf]; omega
    · obtain rfl : k = L.length := by omega
      have HW := Lib.hid hwr
      clear hwr
      go_wp2
      go_ret
      exact ⟨rfl, HW.out⟩
theorem eqCaseS_any (v1 v2 : Value) (L : List Cs) (w : World) (hn : szCs L ≤ 1048576) (h1 : CsLV w v1 L) (h2 : CsLV w v2 L) :
    Calls Try.prog 42 #[v1, v2] w fun e w' => e = .returned (.bool true) ∧ Below w.heap.size w w' := by
  rcases h1 with ⟨rfl, ao, cap, rfl⟩ | ⟨b, off, cap, rfl, hpos, hbl, hcell⟩
  · rcases h2 with ⟨_, ao2, cap2, rfl⟩ | ⟨b2, off2, cap2, rfl, hpos2, hbl2, hcell2⟩
    · go_enter Try.func42, Try.ntmps42
      go_wp2
      refine wp_loop_rounds 1 ?_
      rw [rounds_succ]
      go_wp2
      go_ret
      exact ⟨rfl, Below.refl _ _⟩
    · exact absurd hpos2 (by simp)
  · rcases h2 with ⟨rfl, ao2, cap2, rfl⟩ | ⟨b2, off2, cap2, rfl, hpos2, hbl2, hcell2⟩
    · exact absurd hpos (by simp)
    · exact eqCaseS_num _ _ _ _ _ _ L w hn hcell hcell2
end Go.Proofs.Ytiobbclciboggaa
