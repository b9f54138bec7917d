/- Lists of bools: how they read; copies, marks; that lists are equal; how they come in. -/
import Derived.Test.YtleaaigjnniglaaClS
namespace Go.Proofs.Ytleaaigjnniglaa
open Go.RowKit Go.ChangeShapes Go.WideShapes

abbrev BL := VL Value.bool false
abbrev BI := SI Value.bool false
theorem BI.bl {lo hi : Nat} {w : World} {v : Value} {Z : List Bool} (h : BI lo hi w v Z) : BL w v Z := SI.vl h
theorem getDB {Z : List Bool} {k : Nat} (h : k < Z.length) : Z.getD k false = Z[k] := by simp [List.getD, h]

/-- A row of the call's own, of which the first k elements are the list's. -/
def OwnB (g : Nat) (Z : List Bool) (k : Nat) (w : World) : Prop :=
  ∃ xs : List Value, w.ownsRow g 4 1 (.slice (some ⟨g, 0, none⟩) Z.length Z.length) Z.length xs ∧ ∀ i, i < k → xs[i]? = some (.bool (Z.getD i false))
theorem OwnB.len {g : Nat} {Z : List Bool} {xs : List Value} {w : World} (h : w.ownsRow g 4 1 (.slice (some ⟨g, 0, none⟩) Z.length Z.length) Z.length xs) : xs.length = Z.length := by have := h.1; omega
theorem OwnB.cell {g : Nat} {Z : List Bool} {k : Nat} {w : World} (h : OwnB g Z k w) {i : Nat} (hi : i < Z.length) : ∃ v, w.cell? ⟨g, i, none⟩ = some v := by
  obtain ⟨xs, h1, _⟩ := h
  refine ⟨xs[i]'(by rw [OwnB.len h1]; exact hi), ?_⟩
  rw [h1.cellAt i (by omega)]
  exact List.getElem?_eq_getElem _
theorem OwnB.free {g : Nat} {Z : List Bool} {k : Nat} {w : World} (h : OwnB g Z k w) (i : Nat) : w.frozen? ⟨g, i, none⟩ = false := by
  obtain ⟨xs, h1, _⟩ := h
  exact h1.frozenAt i
theorem OwnB.step {g : Nat} {Z : List Bool} {k : Nat} {w : World} (h : OwnB g Z k w) (hk : k < Z.length) : OwnB g Z (k + 1) (w.setCell ⟨g, k, none⟩ (.bool (Z.getD k false))) := by
  obtain ⟨xs, h1, h2⟩ := h
  refine ⟨xs.set k _, (h1.stored k _).1, fun i hi => ?_⟩
  by_cases e : i = k
  · subst e
    rw [List.getElem?_set_self (by rw [OwnB.len h1]; exact hk)]
  · rw [List.getElem?_set_ne (fun h => e h.symm)]
    exact h2 i (by omega)
theorem OwnB.block {g : Nat} {Z : List Bool} {k : Nat} {w : World} (h : OwnB g Z k w) : g < w.heap.size := by
  obtain ⟨xs, h1, _⟩ := h
  rcases h1.2 with ⟨h', _⟩ | ⟨g', cap', cur, h', hb, hg, _⟩
  · simp at h'
  · simp only [Value.slice.injEq, Option.some.injEq, Addr.mk.injEq, and_true, true_and] at h'
    obtain ⟨rfl, rfl⟩ := h'
    rcases Nat.lt_or_ge g w.heap.size with h5 | h5
    · exact h5
    · rw [Array.getElem?_eq_none h5] at hg; cases hg
theorem OwnB.si {g : Nat} {Z : List Bool} {w : World} (h : OwnB g Z Z.length w) : BI g w.heap.size w (.slice (some ⟨g, 0, none⟩) Z.length Z.length) Z := by
  by_cases h0 : Z.length = 0
  · have : Z = [] := List.eq_nil_of_length_eq_zero h0
    subst this
    exact ⟨Nat.le_refl _, Or.inl ⟨rfl, _, _, rfl⟩⟩
  · refine ⟨Nat.le_refl _, Or.inr ⟨g, 0, 0, rfl, by omega, Nat.le_refl _, h.block, h.free, fun i hi => ?_⟩⟩
    obtain ⟨xs, h1, h2⟩ := h
    rw [Nat.zero_add, h1.cellAt i (by omega)]
    exact h2 i hi

def CopyingB (w : World) (Z : List Bool) (k : Nat) (wr : World) : Prop := OwnB w.heap.size Z k wr ∧ Below w.heap.size w wr
set_option maxHeartbeats 400000 in
theorem toBools_zero (ao : Option Addr) (cap : Nat) (w : World) :
    Calls Try.prog 27 #[.slice ao 0 cap] w (Made Value.bool false [] w) := by
  obtain ⟨i0, hi, hz0, hz1, hz2⟩ := info_parts Try.infoB
  go_enter Try.func27, Try.ntmps27
  go_wp2_with (at_make; refine wpList_make_full _ rfl _ _ 36 rfl w.heap.size 4 i0 (.bool false) 1 Try.underlying36 hi hz0 hz1 _ _ _ _ 0 rfl rfl rfl rfl (by omega) (by unfold maxLen; omega) (Nat.le_refl _) ?_; intro w1 hown hgrow)
  have hb : Below w.heap.size w w1 := (Below.refl _ _).grown hgrow (Nat.le_refl _) (fun g hg => by cases hg)
  have HB := Lib.hid hb
  clear hb hown hgrow
  refine wp_loop_rounds 1 ?_
  rw [rounds_succ]
  go_wp2
  refine bodyPost_ret (results_tmp rfl _ _ _) rfl ?_
  exact ⟨_, rfl, SI.nil _ (Nat.le_refl _) _ _, HB.out⟩
set_option maxHeartbeats 400000 in
theorem toBools_any (v : Value) (Z : List Bool) (w : World) (hv : BL w v Z) (hn : Z.length ≤ 1048576) :
    Calls Try.prog 27 #[v] w (Made Value.bool false Z w) := by
  obtain ⟨i0, hi, hz0, hz1, hz2⟩ := info_parts Try.infoB
  rcases hv with ⟨rfl, ao, cap, rfl⟩ | ⟨b, off, cap, rfl, hpos, hbl, hcell⟩
  · exact toBools_zero ao cap w
  · go_enter Try.func27, Try.ntmps27
    go_wp2_with (at_make; refine wpList_make_full _ rfl _ _ 36 rfl w.heap.size 4 i0 (.bool false) 1 Try.underlying36 hi hz0 hz1 _ _ _ _ Z.length rfl rfl rfl rfl (by rw [hz2]; omega) (by unfold maxLen; omega) (Nat.le_refl _) ?_; intro w1 hown hgrow)
    have h0 : CopyingB w Z 0 w1 := ⟨⟨_, hown, fun i hi => by omega⟩, (Below.refl _ _).grown hgrow (Nat.le_refl _) (fun g hg => by cases hg)⟩
    clear hown hgrow
    go_loopw [4] (fun i wr => ∃ k : Nat, k ≤ Z.length ∧ i = .int .i64 k ∧ CopyingB w Z k wr) (fun i _ => Z.length - (intOf i).toNat)
    case atStart => exact ⟨0, Nat.zero_le _, rfl, h0⟩
    case round =>
      clear h0
      obtain ⟨k, hk, rfl, hO, hnx⟩ := hrel
      by_cases hlt : k < Z.length
      · have hc1 : wr.cell? ⟨b, off + k, none⟩ = some (.bool (Z.getD k false)) := by rw [hnx.cell (p := ⟨b, off + k, none⟩) hbl]; exact hcell k hlt
        obtain ⟨v0, hv0⟩ := hO.cell hlt
        have hfz := hO.free k
        have hO2 := Lib.hid (hO.step hlt)
        have hnx2 := Lib.hid (fun u => hnx.setCell (p := ⟨w.heap.size, k, none⟩) (Nat.le_refl _) u)
        clear hO hnx
        go_wp2
        go_roundw
        case rel => exact ⟨k + 1, by omega, by go_num, by have h := hO2.out; rw [getDB hlt] at h; exact h, hnx2.out _⟩
        case measure => simp [intOf]; omega
      · obtain rfl : k = Z.length := by omega
        have hr := Lib.hid hO.si
        have hb := Lib.hid hnx
        clear hO hnx
        go_wp2
        refine bodyPost_ret (results_tmp rfl _ _ _) rfl ?_
        exact ⟨_, rfl, hr.out, hb.out⟩

/-- The mark behind k. -/
def mkB (k : Nat) : Bool := decide (k % 3 = 0)
def marksB (k : Int) (n : Nat) : List Bool := (List.range n).map fun i => mkB (k.toNat + i)
theorem marksB_len (k : Int) (n : Nat) : (marksB k n).length = n := by simp [marksB]
theorem marksB_at {k : Int} {n i : Nat} (h : i < n) : (marksB k n).getD i false = mkB (k.toNat + i) := by simp [marksB, List.getD, h]
/-- The first j of Z's cells bear marks. -/
structure MarkingB (b off : Nat) (Z : List Bool) (k : Int) (w : World) (j : Nat) (wr : World) : Prop where
  done : ∀ i, i < j → wr.cell? ⟨b, off + i, none⟩ = some (.bool (mkB (k.toNat + i)))
  rest : ∀ i, i < Z.length → ∃ u, wr.cell? ⟨b, off + i, none⟩ = some u
  free : ∀ i, wr.frozen? ⟨b, i, none⟩ = false
  turned : Turned b (b + 1) w wr
theorem MarkingB.step {b off : Nat} {Z : List Bool} {k : Int} {w wr : World} {j : Nat} (h : MarkingB b off Z k w j wr) (hj : j < Z.length) : MarkingB b off Z k w (j + 1) (wr.setCell ⟨b, off + j, none⟩ (.bool (mkB (k.toNat + j)))) := by
  obtain ⟨u, hu⟩ := h.rest j hj
  refine ⟨fun i hi => ?_, fun i hi => ?_, fun i => by rw [World.frozen?_setCell]; exact h.free i, h.turned.setCell (Nat.le_refl _) (Nat.lt_succ_self _) _⟩
  · by_cases e : i = j
    · subst e; exact World.cell?_setCell_same _ _ _ hu
    · rw [World.cell?_setCell_other _ _ _ _ (by intro h; injection h with _ h2 _; omega)]; exact h.done i (by omega)
  · by_cases e : i = j
    · subst e; exact ⟨_, World.cell?_setCell_same _ _ _ hu⟩
    · rw [World.cell?_setCell_other _ _ _ _ (by intro h; injection h with _ h2 _; omega)]; exact h.rest i hi
/-- What marking a list does. -/
def MarkedB (lo hi : Nat) (v : Value) (k : Int) (n : Nat) (w : World) (e : Ending) (w' : World) : Prop := e = .returned (.int .i64 (k + (n : Nat))) ∧ BI lo hi w' v (marksB k n) ∧ Turned lo hi w w'
/-- k % 3, as the walk spells it. -/
theorem rem3 (q : Nat) (hq : q ≤ 4398046511104) : ∃ r : Nat, IntKind.i64.wrap (Int.tmod (q : Int) 3) = (r : Int) ∧ Int.tmod (q : Int) 3 = (r : Int) ∧ r < 3 ∧ mkB q = decide (r = 0) ∧ ((r : Int) == 0) = mkB q := by
  have h : Int.tmod (q : Int) 3 = ((q % 3 : Nat) : Int) := by rw [Int.tmod_eq_emod_of_nonneg (by omega)]; simp
  refine ⟨q % 3, by rw [h]; exact IntWalk.i64_in _ (by omega), h, Nat.mod_lt _ (by omega), rfl, ?_⟩
  unfold mkB
  by_cases e : q % 3 = 0
  · rw [e]; rfl
  · rw [decide_eq_false e]
    exact beq_false_of_ne (by omega)
set_option maxHeartbeats 400000 in
theorem markBools_any (lo hi : Nat) (v : Value) (Z : List Bool) (k : Int) (w : World) (hv : BI lo hi w v Z) (hn : Z.length ≤ 1048576) (hk0 : 0 ≤ k) (hk1 : k ≤ 1099511627776) :
    Calls Try.prog 33 #[v, .int .i64 k] w (MarkedB lo hi v k Z.length w) := by
  obtain ⟨q, rfl⟩ : ∃ q : Nat, k = (q : Int) := ⟨k.toNat, by omega⟩
  obtain ⟨hhi, ⟨rfl, ao, cap, rfl⟩ | ⟨b, off, cap, rfl, hpos, hlo, hbh, hfz, hcell⟩⟩ := hv
  · go_enter Try.func33, Try.ntmps33
    go_wp2
    refine wp_loop_rounds 1 ?_
    rw [rounds_succ]
    go_wp2
    go_ret
    exact ⟨by simp, SI.nil _ hhi _ _, Turned.refl _ _ _⟩
  · have H0 : Hid (MarkingB b off Z q w 0 w) := Lib.hid ⟨fun i hi => by omega, fun i hi => ⟨_, hcell i hi⟩, hfz, Turned.refl _ _ _⟩
    clear hfz hcell
    go_enter Try.func33, Try.ntmps33
    go_wp2
    go_loopw [1, 5] (fun kk i wr => ∃ j : Nat, j ≤ Z.length ∧ i = .int .i64 j ∧ kk = .int .i64 (q + j : Nat) ∧ MarkingB b off Z q w j wr) (fun _ i _ => Z.length - (intOf i).toNat)
    case atStart => exact ⟨0, Nat.zero_le _, rfl, by simp, H0.out⟩
    case round =>
      clear H0
      obtain ⟨j, hj, rfl, rfl, hM⟩ := hrel
      obtain ⟨p, hp⟩ : ∃ p, p = q + j := ⟨_, rfl⟩
      rw [← hp]
      by_cases hlt : j < Z.length
      · obtain ⟨u, hu⟩ := hM.rest j hlt
        have hf := hM.free (off + j)
        have hM2 := hM.step hlt
        rw [Int.toNat_natCast, ← hp] at hM2
        have hpb : p ≤ 4398046511104 := by omega
        obtain ⟨r, h1, h2, h3, h4, h5⟩ := rem3 p (by omega)
        have HM2 := Lib.hid hM2
        have HP : Hid (q + (j + 1) = p + 1) := Lib.hid (by omega)
        generalize mkB p = t at h4 h5 HM2
        clear hM hM2 hp h4
        go_wp2_with fail
        go_roundw
        case rel => exact ⟨j + 1, by omega, by go_num, by rw [HP.out]; go_num, HM2.out⟩
        case measure => simp [intOf]; omega
      · obtain rfl : j = Z.length := by omega
        have hM2 := Lib.hid hM
        have HP := Lib.hid hp
        clear hM hp
        go_wp2
        go_ret
        have hM := hM2.out
        have ht : Turned lo hi w _ := hM.turned.wide hlo hbh
        exact ⟨by rw [HP.out]; push_cast; rfl, ⟨Nat.le_trans hhi ht.size, Or.inr ⟨b, off, cap, by rw [marksB_len], by rw [marksB_len]; exact hpos, hlo, hbh, hM.free, fun i hi => by rw [marksB_len] at hi; rw [marksB_at hi]; exact hM.done i hi⟩⟩, ht⟩
set_option maxHeartbeats 400000 in
theorem heldBools_any (v : Value) (k : Int) (n : Nat) (w : World) (hv : BL w v (marksB k n)) (hn : n ≤ 1048576) (hk0 : 0 ≤ k) (hk1 : k ≤ 1099511627776) :
    Calls Try.prog 34 #[v, .int .i64 k] w fun e w' => e = .returned (.int .i64 (k + (n : Nat))) ∧ w = w' := by
  obtain ⟨q, rfl⟩ : ∃ q : Nat, k = (q : Int) := ⟨k.toNat, by omega⟩
  rcases hv with ⟨h0, ao, cap, rfl⟩ | ⟨b, off, cap, rfl, hpos, hbl, hcell⟩
  · have hn0 : n = 0 := by have := marksB_len q n; rw [h0] at this; simpa using this.symm
    subst hn0
    clear h0
    go_enter Try.func34, Try.ntmps34
    go_wp2
    refine wp_loop_rounds 1 ?_
    rw [rounds_succ]
    go_wp2
    go_ret
    exact ⟨by simp, rfl⟩
  · rw [marksB_len] at hpos hcell ⊢
    have HC := Lib.hid hcell
    clear hcell
    go_enter Try.func34, Try.ntmps34
    go_wp2
    go_loop [1, 5] (fun kk i => ∃ j : Nat, j ≤ n ∧ i = .int .i64 j ∧ kk = .int .i64 (q + j : Nat)) (fun _ i => n - (intOf i).toNat)
    case atStart => exact ⟨0, Nat.zero_le _, rfl, by simp⟩
    case round =>
      obtain ⟨j, hj, rfl, rfl⟩ := hrel
      obtain ⟨p, hp⟩ : ∃ p, p = q + j := ⟨_, rfl⟩
      rw [← hp]
      by_cases hlt : j < n
      · have hc1 := HC.out j hlt
        rw [marksB_at hlt, Int.toNat_natCast, ← hp] at hc1
        have hpb : p ≤ 4398046511104 := by omega
        obtain ⟨r, h1, h2, h3, h4, h5⟩ := rem3 p (by omega)
        have HP : Hid (q + (j + 1) = p + 1) := Lib.hid (by omega)
        have h6 : (mkB p != mkB p) = false := by simp
        generalize mkB p = t at h4 h5 hc1 h6
        clear hp h4
        go_wp2_with fail
        go_round
        case rel => exact ⟨j + 1, by omega, by go_num, by rw [HP.out]; go_num⟩
        case measure => simp [intOf]; omega
      · obtain rfl : j = n := by omega
        have HP := Lib.hid hp
        clear hp
        go_wp2
        go_ret
        exact ⟨by rw [HP.out]; push_cast; rfl, rfl⟩

set_option maxHeartbeats 400000 in
theorem eqBools_num (b1 off1 cap1 b2 off2 cap2 : Nat) (Z : List Bool) (w : World) (hn : Z.length ≤ 1048576) (hc1 : ∀ i, i < Z.length → w.cell? ⟨b1, off1 + i, none⟩ = some (.bool (Z.getD i false))) (hc2 : ∀ i, i < Z.length → w.cell? ⟨b2, off2 + i, none⟩ = some (.bool (Z.getD i false))) :
    Calls Try.prog 29 #[.slice (some ⟨b1, off1, none⟩) Z.length cap1, .slice (some ⟨b2, off2, none⟩) Z.length cap2] w fun e w' => e = .returned (.bool true) ∧ ∃ n, w' = w.drewN n := by
  go_enter Try.func29, Try.ntmps29
  go_wp2
  go_loopw [5] (fun i wr => ∃ k : Nat, k ≤ Z.length ∧ i = .int .i64 k ∧ ∃ n, wr = w.drewN n) (fun i _ => Z.length - (intOf i).toNat)
  case atStart => exact ⟨0, Nat.zero_le _, rfl, 0, rfl⟩
  case round =>
    obtain ⟨k, hk, rfl, hwr⟩ := hrel
    by_cases hlt : k < Z.length
    · have c1 : wr.cell? ⟨b1, off1 + k, none⟩ = some (.bool (Z.getD k false)) := by obtain ⟨n, rfl⟩ := hwr; exact hc1 k hlt
      have c2 : wr.cell? ⟨b2, off2 + k, none⟩ = some (.bool (Z.getD k false)) := by obtain ⟨n, rfl⟩ := hwr; exact hc2 k hlt
      have HW : Hid (∀ m, ∃ n, wr.drewN m = w.drewN n) := Lib.hid (fun m => by obtain ⟨n, rfl⟩ := hwr; exact ⟨n + m, World.drewN_drewN _ _ _⟩)
      clear hc1 hc2 hwr
      rw [getDB hlt] at c1 c2
      generalize Z[k] = z at c1 c2
      go_wp2
      go_quiet (fail)
      go_wp2
      go_roundw
      case rel => exact ⟨k + 1, by omega, by go_num, HW.out _⟩
      case measure => simp [intOf]; omega
    · obtain rfl : k = Z.length := by omega
      have HW := Lib.hid hwr
      clear hc1 hc2 hwr
      go_wp2
      go_ret
      exact ⟨rfl, HW.out⟩
theorem eqBools_any (v1 v2 : Value) (Z : List Bool) (w : World) (hn : Z.length ≤ 1048576) (h1 : BL w v1 Z) (h2 : BL w v2 Z) :
    Calls Try.prog 29 #[v1, v2] w fun e w' => e = .returned (.bool true) ∧ ∃ n, w' = w.drewN n := by
  rcases h1 with ⟨rfl, ao, cap, rfl⟩ | ⟨b, off, cap, rfl, hpos, hbl, hcell⟩
  · rcases h2 with ⟨_, ao2, cap2, rfl⟩ | ⟨b2, off2, cap2, rfl, hpos2, hbl2, hcell2⟩
    · go_enter Try.func29, Try.ntmps29
      go_wp2
      refine wp_loop_rounds 1 ?_
      rw [rounds_succ]
      go_wp2
      go_ret
      exact ⟨rfl, 0, rfl⟩
    · exact absurd hpos2 (by simp)
  · rcases h2 with ⟨rfl, ao2, cap2, rfl⟩ | ⟨b2, off2, cap2, rfl, hpos2, hbl2, hcell2⟩
    · exact absurd hpos (by simp)
    · exact eqBools_num _ _ _ _ _ _ Z w hn hcell hcell2
theorem quiet_belowB' {w w' : World} (h : ∃ n, w' = w.drewN n) : Below w.heap.size w w' := by
  obtain ⟨n, rfl⟩ := h
  exact below_drewN (Below.refl _ _) n
theorem eqBools_says (v u : Value) (Z : List Bool) (w : World) (hn : Z.length ≤ 1048576) (h1 : BL w v Z) (h2 : BL w u Z) : Calls Try.prog 29 #[v, u] w fun e w' => e = .returned (.bool true) ∧ Below w.heap.size w w' :=
  (eqBools_any v u Z w hn h1 h2).mono fun _ _ ⟨h1, h2⟩ => ⟨h1, quiet_belowB' h2⟩
theorem heldBools_says (v : Value) (k : Int) (n : Nat) (w : World) (hv : BL w v (marksB k n)) (hn : n ≤ 1048576) (hk0 : 0 ≤ k) (hk1 : k ≤ 1099511627776) :
    Calls Try.prog 34 #[v, .int .i64 k] w fun e w' => e = .returned (.int .i64 (k + (n : Nat))) ∧ Below w.heap.size w w' :=
  (heldBools_any v k n w hv hn hk0 hk1).mono fun _ _ ⟨h1, h2⟩ => ⟨h1, by rw [← h2]; exact Below.refl _ _⟩
theorem BL.long {w : World} {v : Value} {Z : List Bool} (h : BL w v Z) : ∃ ao cap, v = .slice ao Z.length cap := VL.len h
theorem BL.below {w w' : World} {v : Value} {Z : List Bool} (h : BL w v Z) {B : Nat} (hb : Below B w w') (hB : w.heap.size ≤ B) : BL w' v Z := VL.below h hb hB
theorem BI.wide' {lo lo' hi : Nat} {w : World} {v : Value} {Z : List Bool} (h : BI lo hi w v Z) (h1 : lo' ≤ lo) : BI lo' hi w v Z := SI.wide h h1 (Nat.le_refl _) h.1
theorem BI.below' {lo hi : Nat} {w w' : World} {v : Value} {Z : List Bool} (h : BI lo hi w v Z) {B : Nat} (hb : Below B w w') (hB : w.heap.size ≤ B) : BI lo hi w' v Z := SI.below h hb hB
theorem BI.kept' {lo hi lo2 hi2 : Nat} {w w' : World} {v : Value} {Z : List Bool} (h : BI lo hi w v Z) (ht : Turned lo2 hi2 w w') (hs : hi ≤ lo2 ∨ hi2 ≤ lo) : BI lo hi w' v Z := SI.kept h ht hs
theorem BI.len' {lo hi : Nat} {w : World} {v : Value} {Z : List Bool} (h : BI lo hi w v Z) : ∃ ao cap, v = .slice ao Z.length cap := SI.len h


/-- A list of bools as it comes in. -/
def FitB (Z : List Bool) : Prop := Z.length ≤ maxLen ∧ ∀ x ∈ Z, True
structure OKB (Z : List Bool) : Prop where
  size : Z.length ≤ 1048576
  fit : FitB Z
theorem one_bool {H : Type} {enc : TypeId × Value → H} {P : Program} {w : World} {base : Nat} {held : Bool} {e : TypeId} (he : P.underlying e = some .bool) :
    ∀ n u z, DataW.trod enc P w base (fun _ => true) held n e [u] = some z → ∃ x, u = Value.bool x ∧ True := by
  intro n u z h
  cases n with
  | zero => simp [DataW.trod] at h
  | succ n =>
    simp only [DataW.trod, he] at h
    cases u with
    | bool b => exact ⟨b, rfl, trivial⟩
    | _ => simp at h
set_option maxRecDepth 100000 in
theorem open_bools {H : Type} {enc : TypeId × Value → H} {w : World} {v : Value} {d : DataW H} {ps : List MemPlace} {b0 : Nat}
    (hval : Value.okWide Try.prog w .any b0 36 v) (hd : DataW.Trod enc Try.prog w 0 (fun _ => true) true 36 v d ps) : ∃ Z : List Bool, BL w v Z ∧ FitB Z := by
  have hc : Try.prog.cellsOf 4 = 1 := by kernel_rfl
  obtain ⟨a0, len, cap, rfl⟩ := okWide_slice Try.underlying36 hval
  obtain ⟨fuel, hf⟩ := hd
  obtain ⟨Z, hZ, lZ, fZ⟩ := open_vl (d := false) Try.underlying36 hc _ (one_bool Try.underlying4) hf
  exact ⟨Z, hZ, lZ, fZ⟩
end Go.Proofs.Ytleaaigjnniglaa
