/- Lists of strings: how they read; copies; that lists are equal. -/
import Derived.Test.YtcgdkjbbdpmmhaaDoorTx0
import Derived.Test.YtcgdkjbbdpmmhaaDoorIl
import Derived.Test.YtcgdkjbbdpmmhaaDoorVl
import Derived.ProofKit
import Derived.RegionTactic
import Derived.ChangeAlike
import Derived.Deep.QuietTactic
import Derived.BigQuiet
import Derived.BigRegion
import Derived.Deep.RegionWith
namespace Go.Proofs.YtcgdkjbbdpmmhaaDoor
open Go.RowKit Go.ChangeShapes Go.WideShapes

abbrev TL := VL Value.string (bsOf [])
abbrev TI := SI Value.string (bsOf [])
theorem TI.tl {lo hi : Nat} {w : World} {v : Value} {Z : List ByteArray} (h : TI lo hi w v Z) : TL w v Z := SI.vl h
theorem getDT {Z : List ByteArray} {k : Nat} (h : k < Z.length) : Z.getD k (bsOf []) = Z[k] := by simp [List.getD, h]
theorem Tryd.infoT : (Tryd.prog.info? 9).map (fun i => (i.zero, i.size, i.bytes)) = some (some (.string (bsOf [])), 1, 16) := by kernel_rfl

/-- A row of the call's own, of which the first k elements are the list's. -/
def OwnT (g : Nat) (Z : List ByteArray) (k : Nat) (w : World) : Prop :=
  ∃ xs : List Value, w.ownsRow g 9 1 (.slice (some ⟨g, 0, none⟩) Z.length Z.length) Z.length xs ∧ ∀ i, i < k → xs[i]? = some (.string (Z.getD i (bsOf [])))
theorem OwnT.len {g : Nat} {Z : List ByteArray} {xs : List Value} {w : World} (h : w.ownsRow g 9 1 (.slice (some ⟨g, 0, none⟩) Z.length Z.length) Z.length xs) : xs.length = Z.length := by have := h.1; omega
theorem OwnT.cell {g : Nat} {Z : List ByteArray} {k : Nat} {w : World} (h : OwnT g Z k w) {i : Nat} (hi : i < Z.length) : ∃ v, w.cell? ⟨g, i, none⟩ = some v := by
  obtain ⟨xs, h1, _⟩ := h
  refine ⟨xs[i]'(by rw [OwnT.len h1]; exact hi), ?_⟩
  rw [h1.cellAt i (by omega)]
  exact List.getElem?_eq_getElem _
theorem OwnT.free {g : Nat} {Z : List ByteArray} {k : Nat} {w : World} (h : OwnT g Z k w) (i : Nat) : w.frozen? ⟨g, i, none⟩ = false := by
  obtain ⟨xs, h1, _⟩ := h
  exact h1.frozenAt i
theorem OwnT.step {g : Nat} {Z : List ByteArray} {k : Nat} {w : World} (h : OwnT g Z k w) (hk : k < Z.length) : OwnT g Z (k + 1) (w.setCell ⟨g, k, none⟩ (.string (Z.getD k (bsOf [])))) := by
  obtain ⟨xs, h1, h2⟩ := h
  refine ⟨xs.set k _, (h1.stored k _).1, fun i hi => ?_⟩
  by_cases e : i = k
  · subst e
    rw [List.getElem?_set_self (by rw [OwnT.len h1]; exact hk)]
  · rw [List.getElem?_set_ne (fun h => e h.symm)]
    exact h2 i (by omega)
theorem OwnT.block {g : Nat} {Z : List ByteArray} {k : Nat} {w : World} (h : OwnT g Z k w) : g < w.heap.size := by
  obtain ⟨xs, h1, _⟩ := h
  rcases h1.2 with ⟨h', _⟩ | ⟨g', cap', cur, h', hb, hg, _⟩
  · simp at h'
  · simp only [Value.slice.injEq, Option.some.injEq, Addr.mk.injEq, and_true, true_and] at h'
    obtain ⟨rfl, rfl⟩ := h'
    rcases Nat.lt_or_ge g w.heap.size with h5 | h5
    · exact h5
    · rw [Array.getElem?_eq_none h5] at hg; cases hg
theorem OwnT.si {g : Nat} {Z : List ByteArray} {w : World} (h : OwnT g Z Z.length w) : TI g w.heap.size w (.slice (some ⟨g, 0, none⟩) Z.length Z.length) Z := by
  by_cases h0 : Z.length = 0
  · have : Z = [] := List.eq_nil_of_length_eq_zero h0
    subst this
    exact ⟨Nat.le_refl _, Or.inl ⟨rfl, _, _, rfl⟩⟩
  · refine ⟨Nat.le_refl _, Or.inr ⟨g, 0, 0, rfl, by omega, Nat.le_refl _, h.block, h.free, fun i hi => ?_⟩⟩
    obtain ⟨xs, h1, h2⟩ := h
    rw [Nat.zero_add, h1.cellAt i (by omega)]
    exact h2 i hi

def CopyingT (w : World) (Z : List ByteArray) (k : Nat) (wr : World) : Prop := OwnT w.heap.size Z k wr ∧ Below w.heap.size w wr

set_option maxHeartbeats 400000 in
theorem eqStr_num (b1 off1 cap1 b2 off2 cap2 : Nat) (Z : List ByteArray) (w : World) (hn : Z.length ≤ 1048576) (hc1 : ∀ i, i < Z.length → w.cell? ⟨b1, off1 + i, none⟩ = some (.string (Z.getD i (bsOf [])))) (hc2 : ∀ i, i < Z.length → w.cell? ⟨b2, off2 + i, none⟩ = some (.string (Z.getD i (bsOf [])))) :
    Calls Tryd.prog 11 #[.slice (some ⟨b1, off1, none⟩) Z.length cap1, .slice (some ⟨b2, off2, none⟩) Z.length cap2] w fun e w' => e = .returned (.bool true) ∧ ∃ n, w' = w.drewN n := by
  go_enter Tryd.func11, Tryd.ntmps11
  go_wp2
  go_loopw [5] (fun i wr => ∃ k : Nat, k ≤ Z.length ∧ i = .int .i64 k ∧ ∃ n, wr = w.drewN n) (fun i _ => Z.length - (intOf i).toNat)
  case atStart => exact ⟨0, Nat.zero_le _, rfl, 0, rfl⟩
  case round =>
    obtain ⟨k, hk, rfl, hwr⟩ := hrel
    by_cases hlt : k < Z.length
    · have c1 : wr.cell? ⟨b1, off1 + k, none⟩ = some (.string (Z.getD k (bsOf []))) := by obtain ⟨n, rfl⟩ := hwr; exact hc1 k hlt
      have c2 : wr.cell? ⟨b2, off2 + k, none⟩ = some (.string (Z.getD k (bsOf []))) := by obtain ⟨n, rfl⟩ := hwr; exact hc2 k hlt
      have HW : Hid (∀ m, ∃ n, wr.drewN m = w.drewN n) := Lib.hid (fun m => by obtain ⟨n, rfl⟩ := hwr; exact ⟨n + m, World.drewN_drewN _ _ _⟩)
      clear hc1 hc2 hwr
      rw [getDT hlt] at c1 c2
      generalize Z[k] = z at c1 c2
      go_wp2
      go_quiet (fail)
      go_wp2
      go_roundw
      case rel => exact ⟨k + 1, by omega, by go_num, HW.out _⟩
      case measure => simp [intOf]; omega
    · obtain rfl : k = Z.length := by omega
      have HW := Lib.hid hwr
      clear hc1 hc2 hwr
      go_wp2
      go_ret
      exact ⟨rfl, HW.out⟩
theorem eqStr_any (v1 v2 : Value) (Z : List ByteArray) (w : World) (hn : Z.length ≤ 1048576) (h1 : TL w v1 Z) (h2 : TL w v2 Z) :
    Calls Tryd.prog 11 #[v1, v2] w fun e w' => e = .returned (.bool true) ∧ ∃ n, w' = w.drewN n := by
  rcases h1 with ⟨rfl, ao, cap, rfl⟩ | ⟨b, off, cap, rfl, hpos, hbl, hcell⟩
  · rcases h2 with ⟨_, ao2, cap2, rfl⟩ | ⟨b2, off2, cap2, rfl, hpos2, hbl2, hcell2⟩
    · go_enter Tryd.func11, Tryd.ntmps11
      go_wp2
      refine wp_loop_rounds 1 ?_
      rw [rounds_succ]
      go_wp2
      go_ret
      exact ⟨rfl, 0, rfl⟩
    · exact absurd hpos2 (by simp)
  · rcases h2 with ⟨rfl, ao2, cap2, rfl⟩ | ⟨b2, off2, cap2, rfl, hpos2, hbl2, hcell2⟩
    · exact absurd hpos (by simp)
    · exact eqStr_num _ _ _ _ _ _ Z w hn hcell hcell2
theorem quiet_belowT {w w' : World} (h : ∃ n, w' = w.drewN n) : Below w.heap.size w w' := by
  obtain ⟨n, rfl⟩ := h
  exact below_drewN (Below.refl _ _) n
theorem eqStr_says (v u : Value) (Z : List ByteArray) (w : World) (hn : Z.length ≤ 1048576) (h1 : TL w v Z) (h2 : TL w u Z) : Calls Tryd.prog 11 #[v, u] w fun e w' => e = .returned (.bool true) ∧ Below w.heap.size w w' :=
  (eqStr_any v u Z w hn h1 h2).mono fun _ _ ⟨h1, h2⟩ => ⟨h1, quiet_belowT h2⟩
theorem TL.long {w : World} {v : Value} {Z : List ByteArray} (h : TL w v Z) : ∃ ao cap, v = .slice ao Z.length cap := VL.len h
theorem TL.below {w w' : World} {v : Value} {Z : List ByteArray} (h : TL w v Z) {B : Nat} (hb : Below B w w') (hB : w.heap.size ≤ B) : TL w' v Z := VL.below h hb hB
theorem TI.wide' {lo lo' hi : Nat} {w : World} {v : Value} {Z : List ByteArray} (h : TI lo hi w v Z) (h1 : lo' ≤ lo) : TI lo' hi w v Z := SI.wide h h1 (Nat.le_refl _) h.1
theorem TI.below' {lo hi : Nat} {w w' : World} {v : Value} {Z : List ByteArray} (h : TI lo hi w v Z) {B : Nat} (hb : Below B w w') (hB : w.heap.size ≤ B) : TI lo hi w' v Z := SI.below h hb hB
theorem TI.kept' {lo hi lo2 hi2 : Nat} {w w' : World} {v : Value} {Z : List ByteArray} (h : TI lo hi w v Z) (ht : Turned lo2 hi2 w w') (hs : hi ≤ lo2 ∨ hi2 ≤ lo) : TI lo hi w' v Z := SI.kept h ht hs
theorem TI.len' {lo hi : Nat} {w : World} {v : Value} {Z : List ByteArray} (h : TI lo hi w v Z) : ∃ ao cap, v = .slice ao Z.length cap := SI.len h
end Go.Proofs.YtcgdkjbbdpmmhaaDoor
