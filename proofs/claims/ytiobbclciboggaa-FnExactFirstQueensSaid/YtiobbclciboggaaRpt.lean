/- slices.Repeat of one list of integers. -/
import Derived.Test.YtiobbclciboggaaLs
import Derived.Test.YtiobbclciboggaaGrw
import Derived.Laws.CopyOwn
import Derived.Laws.MakeOwn
import Derived.Deep.RegionLaw
import Derived.Deep.LoopGhost
import Derived.Deep.RegionHeld3
import Derived.OwnWalkIn
namespace Go.Proofs.Ytiobbclciboggaa
open Go.RowKit Go.ChangeShapes Go.WideShapes

theorem mul64_any (n : Nat) (w : World) (h : n = 1 ∨ n = 2 ∨ n = 3 ∨ n = 4 ∨ n = 5 ∨ n = 6 ∨ n = 7 ∨ n = 8) :
    Calls Try.prog 171 #[.int .u64 1, .int .u64 n] w fun e w' => e = .returned (.tuple #[.int .u64 0, .int .u64 n]) ∧ w' = w := by
  rcases h with rfl | rfl | rfl | rfl | rfl | rfl | rfl | rfl
  all_goals
    go_enter Try.func171, Try.ntmps171
    go_wp2_with fail
    go_ret2
    exact ⟨rfl, rfl⟩
theorem mul_any (n : Nat) (w : World) (h : n = 1 ∨ n = 2 ∨ n = 3 ∨ n = 4 ∨ n = 5 ∨ n = 6 ∨ n = 7 ∨ n = 8) :
    Calls Try.prog 157 #[.int .u64 1, .int .u64 n] w fun e w' => e = .returned (.tuple #[.int .u64 0, .int .u64 n]) ∧ w' = w := by
  have H := Lib.hid h
  have hn : n ≤ 8 := by omega
  clear h
  go_enter Try.func157, Try.ntmps157
  go_wp2_with fail
  go_at_call 171; refine (mul64_any n _ H.out).mono ?_; rintro e w1 ⟨rfl, rfl⟩
  go_wp2_with fail
  go_ret2
  exact ⟨rfl, rfl⟩
/-- The first k of n cells hold u, the others nothing. -/
def repL (u : Value) (n k : Nat) : List Value := List.replicate k u ++ List.replicate (n - k) vnil
theorem repL_len {u : Value} {n k : Nat} (h : k ≤ n) : (repL u n k).length = n := by simp [repL]; omega
theorem repL_splice {u : Value} {n k m : Nat} (h : k + m ≤ n) : splice (repL u n k) k (List.replicate m u) = repL u n (k + m) := by
  unfold splice repL
  rw [List.take_append_of_le_length (by simp), List.take_of_length_le (by simp), List.length_replicate, List.drop_append, List.drop_eq_nil_of_le (by simp), List.length_replicate, List.drop_replicate, List.nil_append, ← List.append_assoc, List.replicate_append_replicate]
  congr 2
  omega
theorem repL_zero (u : Value) (n : Nat) : repL u n 0 = List.replicate n vnil := by simp [repL]
theorem repL_at {u : Value} {n k j : Nat} (h : j < k) : (repL u n k)[j]? = some u := by
  unfold repL
  rw [List.getElem?_append_left (by simpa using h)]
  simp [h]
/-- A list of lists that lies in blocks from lo on. -/
def LF (lo : Nat) (w : World) (v : Value) (C : List (List Int)) : Prop :=
  ∃ b off cap, ∃ U : Nat → Value, v = .slice (some ⟨b, off, none⟩) C.length (C.length + cap) ∧ 0 < C.length ∧ lo ≤ b ∧ b < w.heap.size ∧ ∀ i, i < C.length → w.cell? ⟨b, off + i, none⟩ = some (U i) ∧ II lo w.heap.size w (U i) (C.getD i [])
theorem LF.lv {lo : Nat} {w : World} {v : Value} {C : List (List Int)} (h : LF lo w v C) : LV w v C := by
  obtain ⟨b, off, cap, U, e, h0, _, hb, hc⟩ := h
  exact Or.inr ⟨b, off, cap, U, e, h0, hb, fun i hi => ⟨(hc i hi).1, (hc i hi).2.il⟩⟩
theorem LF.set {lo : Nat} {w : World} {v : Value} {C : List (List Int)} (h : LF lo w v C) {p : Addr} (hp : p.block < lo) (u : Value) : LF lo (w.setCell p u) v C := by
  obtain ⟨b, off, cap, U, e, h0, hl, hb, hc⟩ := h
  have hs : (w.setCell p u).heap.size = w.heap.size := by simp [World.setCell]
  refine ⟨b, off, cap, U, e, h0, hl, by rw [hs]; exact hb, fun i hi => ⟨?_, by rw [hs]; exact SI.set (hc i hi).2 (Or.inl hp) u⟩⟩
  rw [World.cell?_setCell_other _ _ _ _ (by intro q; subst q; simp at hp; omega)]
  exact (hc i hi).1
theorem LF.long {lo : Nat} {w : World} {v : Value} {C : List (List Int)} (h : LF lo w v C) : ∃ ao cap, v = .slice ao C.length cap := h.lv.long
/-- A call that hands back a new list of lists, of which all lie where one lay. -/
def MadeV (lo : Nat) (C : List (List Int)) (w : World) (e : Ending) (w' : World) : Prop := ∃ v, e = .returned v ∧ LF lo w' v C ∧ Below w.heap.size w w'
theorem repL_cell {w : World} {B n k j : Nat} {u : Value} {E : TypeId} (h : w.heap[B]? = some (.cells (repL u n k).toArray E (0, 0))) (hj : j < k) : w.cell? ⟨B, j, none⟩ = some u := by
  have := repL_at (u := u) (n := n) hj
  simp only [World.cell?, h, Option.isSome_none, Bool.false_eq_true, if_false]
  simpa using this
theorem made_rep {w : World} {B n : Nat} {u : Value} (hown : w.ownsRow B 24 1 (.slice (some ⟨B, 0, none⟩) n n) n (madeCells (Value.slice none 0 0).cells (n * 1)).toList) : w.heap[B]? = some (.cells (repL u n 0).toArray 24 (0, 0)) := by
  rcases hown.2 with ⟨e, _⟩ | ⟨g', cap', cur, e, hB, hg, hnc, hcm, hs, ht⟩
  · cases e
  · injection e with e1 e2 e3
    injection e1 with e1
    injection e1 with e1 _ _
    subst e1 e3
    rw [hg, repL_zero]
    congr 2
    rw [Nat.mul_one] at hs ht
    rw [List.take_of_length_le (by rw [Array.length_toList]; omega)] at ht
    rw [← Array.toList_inj, ht]
    show (madeCells #[vnil] n).toList = _
    rw [toList_madeCells_one]
set_option maxRecDepth 100000 in
set_option maxHeartbeats 8000000 in
theorem repeat_any (g : Nat) (u : Value) (D : List Int) (n : Nat) (w : World) (hc : w.cell? ⟨g, 0, none⟩ = some u) (lo : Nat) (hlo : lo ≤ w.heap.size) (hu : II lo w.heap.size w u D) (h : n = 1 ∨ n = 2 ∨ n = 3 ∨ n = 4 ∨ n = 5 ∨ n = 6 ∨ n = 7 ∨ n = 8) :
    Calls Try.prog 112 #[.slice (some ⟨g, 0, none⟩) 1 1, .int .i64 n] w (MadeV lo (List.replicate n D) w) := by
  obtain ⟨i0, hi, hz0, hz1, hz2⟩ := info_parts Try.infoL
  have hsz : (Try.prog.info? 24).map (·.size) = some 1 := by rw [hi]; simp [hz1]
  have H := Lib.hid h
  have n1 : 1 ≤ n := by omega
  have n8 : n ≤ 8 := by omega
  have HC := Lib.hid hc
  have HU := Lib.hid hu
  have hglt := cell_block hc
  obtain ⟨ao, cap, hue⟩ := SI.len hu
  have HLO := Lib.hid hlo
  have one : ∀ m, ∀ v ∈ List.replicate m u, v.oneCell' = true := fun m v hv => by
    rw [List.mem_replicate] at hv
    rw [hv.2, hue]; rfl
  have HONE := Lib.hid one
  clear h hc hu one hue hlo
  go_enter Try.func112, Try.ntmps112
  go_wp2_with fail
  go_at_call 157; refine (mul_any n _ H.out).mono ?_; rintro e w1 ⟨rfl, rfl⟩
  have hnn : ¬ (9223372036854775807 < (n : Int)) := by omega
  have HF1 : Hid (0 + (List.replicate 1 u).length ≤ (repL u n 0).length) := Lib.hid (by rw [repL_len (Nat.zero_le _), List.length_replicate]; omega)
  have HM1 : Hid ((List.replicate 1 u).length = Nat.min 1 n) := Lib.hid (by rw [List.length_replicate]; show 1 = min 1 n; omega)
  have HS1 : Hid (∀ W : World, Below w1.heap.size w1 W → ∀ (j : Nat) (v : Value), (List.replicate 1 u)[j]? = some v → W.cell? ((⟨g, 0, none⟩ : Addr).add j) = some v) := Lib.hid fun W hb j v hv => by
    cases j with
    | zero => simp at hv; subst hv; exact keep_cell HC.out hb hglt
    | succ j => simp at hv
  go_wp2_with (first | (at_make; refine wpList_make_full _ rfl _ _ 22 rfl w1.heap.size 24 i0 (.slice none 0 0) 1 Try.underlying22 hi hz0 hz1 _ _ _ _ n rfl rfl rfl rfl (by rw [hz2]; omega) (by unfold maxLen; omega) (Nat.le_refl _) ?_; intro w2 hown hgrow; have HB2 := Lib.hid ((Below.refl w1.heap.size w1).grown hgrow (Nat.le_refl _) (fun g hg => by cases hg)); have HG2 := Lib.hid (made_rep (u := u) hown); clear hown hgrow) | ((refine wpList_copy_splice (o := ⟨some 33, _, _, _, _, _⟩) rfl (.tmp 31) (.tmp 32) 22 22 rfl 24 Try.underlying22 hsz (some ⟨w1.heap.size, 0, none⟩) (some ⟨g, 0, none⟩) n n 1 1 (by rfl) (by rfl) w1.heap.size 0 (repL u n 0) 24 HG2.out (List.replicate 1 u) HM1.out (fun _ => ⟨rfl, _, rfl, HS1.out _ HB2.out⟩) HF1.out (HONE.out 1) w1.heap.size w1 HB2.out (Nat.le_refl _) ?_); intro w3 hg3 hb3))
  obtain ⟨B, hB⟩ : ∃ B, B = w1.heap.size := ⟨_, rfl⟩
  have HB := Lib.hid hB
  rw [← hB] at hg3 ⊢
  rw [repL_splice (by omega)] at hg3
  have HG3 := Lib.hid hg3.out
  have HB3 := Lib.hid hb3
  clear hb3 hg3 hB
  go_loopg [8] n (fun gk i wr => ∃ k : Nat, 1 ≤ k ∧ k ≤ n ∧ gk + k = n + 1 ∧ i = .int .i64 k ∧ wr.heap[B]? = some (.cells (repL u n k).toArray 24 (0, 0)) ∧ Below w1.heap.size w1 wr)
  case atStart => exact ⟨0 + 1, by omega, by omega, by omega, by simp, HG3.out, HB3.out⟩
  case round =>
    obtain ⟨k, hk1, hk, hgk, rfl, hgr, hbr⟩ := hrel
    have HGR := Lib.hid hgr
    have HBR := Lib.hid hbr
    clear hgr hbr
    by_cases hlt : k < n
    · have hne : ¬ n = k := by omega
      obtain ⟨m, hm⟩ : ∃ m, m = Nat.min k (n - k) := ⟨_, rfl⟩
      have m1 : 1 ≤ m := by rw [hm]; exact Nat.le_min.2 ⟨hk1, by omega⟩
      have m2 : k + m ≤ n := by have : m ≤ n - k := hm ▸ Nat.min_le_right _ _; omega
      have HM : Hid ((List.replicate m u).length = Nat.min k (n - k)) := Lib.hid (by rw [List.length_replicate]; exact hm)
      have HF : Hid (k + (List.replicate m u).length ≤ (repL u n k).length) := Lib.hid (by rw [repL_len hk, List.length_replicate]; exact m2)
      have HSR : Hid (∀ W : World, W.heap = wr.heap → ∀ (j : Nat) (v : Value), (List.replicate m u)[j]? = some v → W.cell? ((⟨B, 0, none⟩ : Addr).add j) = some v) := Lib.hid fun W hW j v hv => by
        have hj : j < m := by have := (List.getElem?_eq_some_iff.1 hv).1; simpa using this
        have hjk : j < k := by have : m ≤ k := hm ▸ Nat.min_le_left _ _; omega
        have e : v = u := by simp [hj] at hv; exact hv.symm
        rw [e, Go.WideShapes.add_plain, Nat.zero_add]
        exact repL_cell (by rw [hW]; exact HGR.out) hjk
      have HSP := Lib.hid (repL_splice (u := u) (n := n) (k := k) (m := m) m2)
      have hlen : (List.replicate m u).length = m := List.length_replicate
      have HL := Lib.hid hlen
      have hBw : w1.heap.size ≤ B := by rw [HB.out]; exact Nat.le_refl _
      have HO := Lib.hid (HONE.out m)
      clear hm hlen
      generalize List.replicate m u = cs at HM HF HSR HSP HL HO
      go_wp2_with fail
      refine wp_region_held_drew (S := (fun _ => True)) (by kernel_rfl) (by first | exact trivial | (dsimp only; exact trivial)) (fun hHeld => ?_)
      refine wpAnyH_take (i := 0) (v := ?_) rfl (by kernel_rfl) (by kernel_rfl) (by kernel_rfl) (fun _ _ _ h => h) (Or.inl ⟨by rfl, ?_⟩) hHeld ?_
      rotate_left
      · (intro w hSw; (try dsimp only at hSw); go_simp <;> first | done | with_reducible rfl)
      try simp only [Act.put, List.getElem_toArray, List.getElem_cons_zero, List.setIfInBounds_toArray, List.set_cons_zero, List.set_cons_succ]
      refine wpAnyH_take (i := 1) (v := ?_) rfl (by kernel_rfl) (by kernel_rfl) (by kernel_rfl) (fun _ _ _ h => h) (Or.inl ⟨by rfl, ?_⟩) hHeld ?_
      rotate_left
      · (intro w hSw; (try dsimp only at hSw); go_simp <;> first | done | with_reducible rfl)
      try simp only [Act.put, List.getElem_toArray, List.getElem_cons_succ, List.getElem_cons_zero, List.setIfInBounds_toArray, List.set_cons_zero, List.set_cons_succ]
      refine wpAnyH_take (i := 2) (v := ?_) rfl (by kernel_rfl) (by kernel_rfl) (by kernel_rfl) (fun _ _ _ h => h) (Or.inl ⟨by rfl, ?_⟩) hHeld ?_
      rotate_left
      · (intro w hSw; (try dsimp only at hSw); go_simp <;> first | done | with_reducible rfl)
      try simp only [Act.put, List.getElem_toArray, List.getElem_cons_succ, List.getElem_cons_zero, List.setIfInBounds_toArray, List.set_cons_zero, List.set_cons_succ]
      refine wpAnyH_take (i := 4) (v := ?_) rfl (by kernel_rfl) (by kernel_rfl) (by kernel_rfl) (fun _ _ _ h => h) (Or.inl ⟨by rfl, ?_⟩) hHeld ?_
      rotate_left
      · (intro w hSw; (try dsimp only at hSw); go_simp <;> first | done | with_reducible rfl)
      try simp only [Act.put, List.getElem_toArray, List.getElem_cons_succ, List.getElem_cons_zero, List.setIfInBounds_toArray, List.set_cons_zero, List.set_cons_succ]
      refine wpAnyH_take (i := 5) (v := ?_) rfl (by kernel_rfl) (by kernel_rfl) (by kernel_rfl) (fun _ _ _ h => h) (Or.inl ⟨by rfl, ?_⟩) hHeld ?_
      rotate_left
      · (intro w hSw; (try dsimp only at hSw); go_simp <;> first | done | with_reducible rfl)
      try simp only [Act.put, List.getElem_toArray, List.getElem_cons_succ, List.getElem_cons_zero, List.setIfInBounds_toArray, List.set_cons_zero, List.set_cons_succ]
      refine wpAnyH_take (i := 3) (v := ?_) rfl (by kernel_rfl) (by kernel_rfl) (by kernel_rfl) (fun _ _ _ h => h) (Or.inl ⟨by rfl, ?_⟩) hHeld ?_
      rotate_left
      · (intro w hSw; (try dsimp only at hSw); go_simp <;> first | done | with_reducible rfl)
      try simp only [Act.put, List.getElem_toArray, List.getElem_cons_succ, List.getElem_cons_zero, List.setIfInBounds_toArray, List.set_cons_zero, List.set_cons_succ]
      refine wpAnyH_take (i := 6) (v := ?_) rfl (by kernel_rfl) (by kernel_rfl) (by kernel_rfl) (fun _ _ _ h => h) (Or.inl ⟨by rfl, ?_⟩) hHeld ?_
      rotate_left
      · (intro w hSw; (try dsimp only at hSw); go_simp <;> first | done | with_reducible rfl)
      try simp only [Act.put, List.getElem_toArray, List.getElem_cons_succ, List.getElem_cons_zero, List.setIfInBounds_toArray, List.set_cons_zero, List.set_cons_succ]
      refine wpAnyH_ready (rs := [7]) (by kernel_rfl) (by simp) (AllReadyH.cons rfl (fun K hK => ?_) AllReadyH.nil)
      refine step_copy_splice (o := ⟨some 45, _, _, _, _, _⟩) rfl (.tmp 41) (.tmp 44) 22 22 rfl 24 Try.underlying22 hsz (some ⟨B, k, none⟩) (some ⟨B, 0, none⟩) (n - k) (n - k) k n (by rfl) (by rfl) B k (repL u n k) 24 HGR.out cs HM.out (fun _ => ⟨rfl, _, rfl, HSR.out _ rfl⟩) HF.out HO.out w1.heap.size w1 (below_drewN HBR.out _) hBw ?_; intro w4 hg4 hb4
      refine hK.out _ _ (by first | exact trivial | (dsimp only; exact trivial)) (fun hHeld2 => ?_)
      clear hK K hHeld
      rename _ => hHeld
      simp only [Act.put, List.setIfInBounds_toArray, List.set_cons_zero, List.set_cons_succ]
      refine wpAnyH_take (i := 8) (v := ?_) rfl (by kernel_rfl) (by kernel_rfl) (by kernel_rfl) (fun _ _ _ h => h) (Or.inl ⟨by rfl, ?_⟩) hHeld ?_
      rotate_left
      · (intro w hSw; (try dsimp only at hSw); go_simp <;> first | done | with_reducible rfl)
      try simp only [Act.put, List.getElem_toArray, List.getElem_cons_succ, List.getElem_cons_zero, List.setIfInBounds_toArray, List.set_cons_zero, List.set_cons_succ]
      refine wpAnyH_take (i := 9) (v := ?_) rfl (by kernel_rfl) (by kernel_rfl) (by kernel_rfl) (fun _ _ _ h => h) (Or.inl ⟨by rfl, ?_⟩) hHeld ?_
      rotate_left
      · (intro w hSw; (try dsimp only at hSw); go_simp <;> first | done | with_reducible rfl)
      try simp only [Act.put, List.getElem_toArray, List.getElem_cons_succ, List.getElem_cons_zero, List.setIfInBounds_toArray, List.set_cons_zero, List.set_cons_succ]
      refine wpAnyH_done (by kernel_rfl) ?_ _
      rw [HSP.out] at hg4
      have HG4 := Lib.hid hg4.out
      have HB4 := Lib.hid hb4
      have hw : IntKind.i64.wrap ((k : Int) + (cs.length : Int)) = ((k + m : Nat) : Int) := by rw [HL.out]; simp only [IntKind.wrap_i64]; omega
      rw [hw]
      clear hg4 hb4 hw hHeld
      go_wp2_with fail
      go_roundg (n + 1 - (k + m))
      case measure => omega
      case rel => exact ⟨k + m, by omega, by omega, by omega, rfl, HG4.out, HB4.out⟩
    · obtain rfl : k = n := by omega
      clear hlt
      go_wp2_with fail
      refine bodyPost_ret (results_tmp rfl _ _ _) rfl ?_
      refine ⟨_, rfl, ⟨B, 0, 0, fun _ => u, by simp, by simp; omega, by rw [HB.out]; exact HLO.out, (Array.getElem?_eq_some_iff.1 HGR.out).1, fun i hi => ?_⟩, HBR.out⟩
      rw [List.length_replicate] at hi
      refine ⟨by rw [Nat.zero_add]; exact repL_cell HGR.out hi, ?_⟩
      rw [show (List.replicate k D).getD i [] = D by simp [List.getD, hi]]
      exact SI.wide (SI.below HU.out HBR.out (Nat.le_refl _)) (Nat.le_refl _) HBR.out.size (Nat.le_refl _)
end Go.Proofs.Ytiobbclciboggaa
