/- Values by their numbers: both sides. -/
import Derived.Test.YtleaaigjnniglaaBs
import Derived.Test.YtleaaigjnniglaaCnM
namespace Go.Proofs.Ytleaaigjnniglaa
open Go.RowKit Go.ChangeShapes Go.WideShapes

/-- The first k values with the number n. -/
def valK (L n k : Nat) : List Bool := (List.range k).map fun i => n.testBit (L - (i + 1))
def valsB (L n : Nat) : List Bool := valK L n L
theorem valK_len (L n k : Nat) : (valK L n k).length = k := by simp [valK]
theorem valK_up (L n k : Nat) : valK L n (k + 1) = valK L n k ++ [n.testBit (L - (k + 1))] := by
  unfold valK
  rw [List.range_succ, List.map_append]; rfl
/-- The letters up to k that are true. -/
def trueK (L n k : Nat) : List Int := ((List.range k).filter fun i => n.testBit (L - (i + 1))).map fun i : Nat => (i : Int) + 1
theorem trueK_yes {L n k : Nat} (h : n.testBit (L - (k + 1)) = true) : trueK L n (k + 1) = trueK L n k ++ [(k : Int) + 1] := by
  unfold trueK
  rw [List.range_succ, List.filter_append, List.map_append]
  simp [h]
theorem trueK_no {L n k : Nat} (h : n.testBit (L - (k + 1)) = false) : trueK L n (k + 1) = trueK L n k := by
  unfold trueK
  rw [List.range_succ, List.filter_append, List.map_append]
  simp [h]
theorem trueK_len (L n : Nat) : ∀ k, (trueK L n k).length ≤ k
  | 0 => by simp [trueK]
  | k + 1 => by
    have ih := trueK_len L n k
    cases h : n.testBit (L - (k + 1)) with
    | true => rw [trueK_yes h, List.length_append]; simp; omega
    | false => rw [trueK_no h]; omega
theorem trueK_mem {L n k : Nat} {x : Int} : x ∈ trueK L n k ↔ ∃ i : Nat, i < k ∧ n.testBit (L - (i + 1)) = true ∧ x = (i : Int) + 1 := by
  unfold trueK
  rw [List.mem_map]
  constructor
  · rintro ⟨i, hi, rfl⟩
    rw [List.mem_filter, List.mem_range] at hi
    exact ⟨i, hi.1, hi.2, rfl⟩
  · rintro ⟨i, h1, h2, rfl⟩
    exact ⟨i, List.mem_filter.2 ⟨List.mem_range.2 h1, h2⟩, rfl⟩
/-- Values of which those of the first j letters of a list are set. -/
def setT (T : List Int) (L j : Nat) : List Bool := (List.range L).map fun i : Nat => decide (((i : Int) + 1) ∈ T.take j)
theorem setT_len (T : List Int) (L j : Nat) : (setT T L j).length = L := by simp [setT]
theorem setT_zero (T : List Int) (L : Nat) : List.replicate L false = setT T L 0 := by
  refine List.ext_getElem (by simp [setT]) fun i h1 h2 => ?_
  rw [List.getElem_replicate]
  simp [setT]
theorem setT_step {T : List Int} {L j i : Nat} (hj : j < T.length) (e : T.getD j 0 = (i : Int) + 1) : (setT T L j).set i true = setT T L (j + 1) := by
  refine List.ext_getElem (by simp [setT]) fun q h1 h2 => ?_
  have hT : T.take (j + 1) = T.take j ++ [(i : Int) + 1] := by
    rw [List.take_add_one, ← e]
    simp [List.getD, hj]
  rw [List.getElem_set]
  simp only [setT, List.getElem_map, List.getElem_range, hT, List.mem_append, List.mem_singleton]
  by_cases h : i = q
  · subst h; simp
  · rw [if_neg h]
    have : ¬ ((q : Int) + 1 = (i : Int) + 1) := by omega
    simp [this]
theorem setT_end {L n : Nat} : setT (trueK L n L) L (trueK L n L).length = valsB L n := by
  unfold setT valsB valK
  rw [List.take_length]
  refine List.map_congr_left fun i hi => ?_
  have hi := List.mem_range.1 hi
  cases h : n.testBit (L - (i + 1)) with
  | true => exact decide_eq_true (trueK_mem.2 ⟨i, hi, h, rfl⟩)
  | false =>
    refine decide_eq_false fun hc => ?_
    obtain ⟨q, h1, h2, h3⟩ := trueK_mem.1 hc
    obtain rfl : q = i := by omega
    rw [h] at h2; cases h2
theorem and_pow (n d : Nat) : n &&& 2 ^ d = if n.testBit d then 2 ^ d else 0 := by
  apply Nat.eq_of_testBit_eq
  intro i
  rw [Nat.testBit_and, Nat.testBit_two_pow]
  by_cases h : d = i
  · subst h
    cases n.testBit d <;> simp
  · rw [decide_eq_false h, Bool.and_false]
    cases n.testBit d
    · simp
    · simp only [if_true, Nat.testBit_two_pow]
      rw [decide_eq_false h]
set_option maxRecDepth 100000 in
set_option maxHeartbeats 4000000 in
theorem trueIn_any (L M : Nat) (w : World) (hL : L ≤ 10) (hM : M < 1024) :
    Calls Try.prog 95 #[.int .i64 L, .int .i64 M] w (Made (Value.int .i64) (0 : Int) (trueK L M L) w) := by
  obtain ⟨i0, hi, hz0, hz1, hz2⟩ := info_parts Try.infoI
  go_enter Try.func95, Try.ntmps95
  go_wp2_with fail
  go_loopg [5, 6] L (fun gk v i wr => ∃ k : Nat, k ≤ L ∧ gk + k = L ∧ i = .int .i64 ((k : Int) + 1) ∧ Below w.heap.size w wr ∧ Grows (Value.int .i64) 2 w.heap.size v (trueK L M k) wr)
  case atStart => exact ⟨0, Nat.zero_le _, by omega, rfl, Below.refl _ _, Grows.nil _ _ _ _⟩
  case round =>
    obtain ⟨k, hk, hgk, rfl, hB, hG⟩ := hrel
    have HB := Lib.hid hB
    have HG := Lib.hid hG
    by_cases hlt : k < L
    · have hle : (k : Int) + 1 ≤ (L : Int) := by omega
      obtain ⟨p1, p2⟩ := pow10 (L := L - (k + 1)) (by omega)
      have hand := i64_and62 M (2 ^ (L - (k + 1))) (by omega) (by omega)
      rw [and_pow] at hand
      obtain ⟨D, hD⟩ : ∃ D, D = 2 ^ (L - (k + 1)) := ⟨_, rfl⟩
      rw [← hD] at p1 p2 hand
      have HD := Lib.hid hD
      have HK : Hid (((k + 1 : Nat) : Int) = (k : Int) + 1) := Lib.hid (by omega)
      clear hD hB hG
      cases hm : M.testBit (L - (k + 1)) with
      | true =>
        have hml := trueK_len L M k
        have HUP := Lib.hid (trueK_yes hm)
        have HML : Hid ((trueK L M k).length ≤ k) := Lib.hid hml
        have hand1 : bits .and .i64 (M : Int) (D : Int) = (D : Int) := by rw [hand, hm]; rfl
        have hne : ((D : Int) != 0) = true := by simp; omega
        clear hml hm hand
        go_wp2_with fail
        go_at_call 65; refine (digitOf_is (L : Int) ((k : Int) + 1) L (k + 1) _ rfl HK.out.symm (by omega) hL).mono ?_; rintro e w' ⟨rfl, rfl⟩
        rw [← HD.out]
        go_wp2_with (at_builtin; refine wpList_append_own _ rfl _ _ 22 rfl w.heap.size 2 i0 (.int .i64 0) 1 8 Try.underlying22 hi hz0 hz1 hz2 rfl (by decide) _ _ _ rfl (Grows.alloc HG.out _) ⟨wr.heap.size, 0, none⟩ 1 1 [.int .i64 ((k : Int) + 1)] rfl rfl ?c1 ?c2 ?c3 ?c4 ?c5 ?_)
        case c1 => exact one_new
        case c2 => intro u hu; simp at hu; subst hu; rfl
        case c3 => have := HML.out; unfold maxLen; omega
        case c4 => have := HML.out; omega
        case c5 => have := HB.out.size; simp; omega
        intro v' w' hown hgrow _
        have HN2 : Hid (Below w.heap.size w w' ∧ Grows (Value.int .i64) 2 w.heap.size v' (trueK L M (k + 1)) w') := Lib.hid ⟨(HB.out.alloc HB.out.size _).grown hgrow (by have := HB.out.size; simp; omega) (fun g hg => HG.out.block g hg), by rw [HUP.out]; exact Grows.more (news := [(k : Int) + 1]) rfl hown⟩
        clear hown hgrow
        go_wp2_with fail
        go_roundg (gk - 1)
        case measure => omega
        case rel => exact ⟨k + 1, by omega, by omega, by go_num, HN2.out.1, HN2.out.2⟩
      | false =>
        have HUP := Lib.hid (trueK_no hm)
        have hand1 : bits .and .i64 (M : Int) (D : Int) = 0 := by rw [hand, hm]; rfl
        clear hm hand
        go_wp2_with fail
        go_at_call 65; refine (digitOf_is (L : Int) ((k : Int) + 1) L (k + 1) _ rfl HK.out.symm (by omega) hL).mono ?_; rintro e w' ⟨rfl, rfl⟩
        rw [← HD.out]
        go_wp2_with fail
        go_roundg (gk - 1)
        case measure => omega
        case rel => exact ⟨k + 1, by omega, by omega, by go_num, HB.out, by rw [HUP.out]; exact HG.out⟩
    · obtain rfl : k = L := by omega
      clear hB hG
      go_wp2_with fail
      refine bodyPost_ret (results_tmp rfl _ _ _) rfl ?_
      exact ⟨_, rfl, HG.out.si, HB.out⟩
theorem BoolAt.keep {w w1 w2 : World} {B : Nat} {Z : List Bool} (h : BoolAt w B Z w1) (b : Below w1.heap.size w1 w2) : BoolAt w B Z w2 :=
  ⟨h.below.trans (b.mono h.below.size), Nat.lt_of_lt_of_le h.lt b.size, h.ge, h.arr.below b h.lt⟩
set_option maxRecDepth 100000 in
set_option maxHeartbeats 4000000 in
theorem valuesAt_any (L M : Nat) (w : World) (hL : L ≤ 10) (hM : M < 1024) :
    Calls Try.prog 70 #[.int .i64 L, .int .i64 M] w (Made Value.bool false (valsB L M) w) := by
  obtain ⟨i0, hi, hz0, hz1, hz2⟩ := info_parts Try.infoB
  go_enter Try.func70, Try.ntmps70
  go_wp2_with (at_make; refine wpList_make_full _ rfl _ _ 36 rfl w.heap.size 4 i0 (.bool false) 1 Try.underlying36 hi hz0 hz1 _ _ _ _ L rfl rfl rfl rfl (by rw [hz2]; omega) (by unfold maxLen; omega) (Nat.le_refl _) ?_; intro w1 hown hgrow; have HA := Lib.hid (show BoolAt w w.heap.size (setT (trueK L M L) L 0) w1 from ⟨(Below.refl _ _).grown hgrow (Nat.le_refl _) (fun g hg => by cases hg), (hown.lt _ rfl).2, Nat.le_refl _, by rw [← setT_zero]; exact Arr.made_b hown⟩); clear hown hgrow)
  go_wp2_with fail
  go_at_call 95; refine (trueIn_any L M _ hL hM).mono ?_; rintro e w2 ⟨v2, rfl, hi2, b2⟩
  have hTl := trueK_len L M L
  have HTM := Lib.hid (fun x => @trueK_mem L M L x)
  have HA2 := Lib.hid (HA.out.keep b2)
  have HSE := Lib.hid (@setT_end L M)
  generalize trueK L M L = T at hi2 hTl HTM HA HA2 HSE
  have hlt1 := HA.out.lt
  have hIL := II.il hi2
  have hlo2 : w1.heap.size ≤ w2.heap.size := b2.size
  have hblo : ∀ b off cap', v2 = .slice (some ⟨b, off, none⟩) T.length cap' → 0 < T.length → w1.heap.size ≤ b := by
    intro b off cap' e hp
    obtain ⟨-, ⟨e0, -⟩ | ⟨b', off', cap2, e1, -, h3, -⟩⟩ := hi2
    · rw [e0] at hp; simp at hp
    · rw [e1] at e
      simp only [Value.slice.injEq, Option.some.injEq, Addr.mk.injEq, and_true, true_and] at e
      omega
  clear b2 HA hi2
  rcases hIL with ⟨hz, ao, cap, rfl⟩ | ⟨b, off, cap, rfl, hpos, hbl, hcell⟩
  · subst hz
    have hS := HSE.out
    clear hblo HTM
    go_wp2_with fail
    refine wp_loop_rounds 1 ?_
    rw [rounds_succ]
    go_wp2
    refine bodyPost_ret (results_tmp rfl _ _ _) rfl ?_
    have hs := HA2.out.arr.si (lo := w.heap.size) (Nat.le_refl _) HA2.out.lt
    rw [setT_len] at hs
    exact ⟨_, rfl, by rw [← HSE.out]; exact hs, HA2.out.below⟩
  have hbge : w.heap.size < b := by have := hblo b off _ rfl hpos; omega
  have HC := Lib.hid hcell
  clear hcell hblo
  go_wp2_with fail
  go_loopg [14] T.length (fun gk i wr => ∃ k : Nat, k ≤ T.length ∧ gk + k = T.length ∧ i = .int .i64 k ∧ BoolAt w w.heap.size (setT T L k) wr ∧ ∀ i, i < T.length → wr.cell? ⟨b, off + i, none⟩ = some (.int .i64 (T.getD i 0)))
  case atStart => exact ⟨0, Nat.zero_le _, by omega, rfl, HA2.out, HC.out⟩
  case round =>
    clear HA2
    obtain ⟨k, hk, hgk, rfl, hA, hcl⟩ := hrel
    have HA := Lib.hid hA
    have HCL := Lib.hid hcl
    by_cases hlt : k < T.length
    · have c0 := hcl k hlt
      obtain ⟨i, hi1, hi2, hi3⟩ := (HTM.out (T.getD k 0)).1 (by rw [getDI hlt]; exact List.getElem_mem hlt)
      have hil : i < (setT T L k).length := by rw [setT_len]; exact hi1
      have r0 := hA.cell hil
      have f0 : wr.frozen? ⟨w.heap.size, i, none⟩ = false := hA.arr.free i
      have HS : Hid (BoolAt w w.heap.size (setT T L (k + 1)) (wr.setCell ⟨w.heap.size, i, none⟩ (.bool true))) := Lib.hid ((hA.set hil true).to (setT_step hlt hi3))
      have HN : Hid (∀ q, q < T.length → (wr.setCell ⟨w.heap.size, i, none⟩ (.bool true)).cell? ⟨b, off + q, none⟩ = some (.int .i64 (T.getD q 0))) := Lib.hid fun q hq => by
        rw [World.cell?_setCell_other _ _ _ _ (by intro hh; injection hh with h1 _ _; omega)]
        exact HCL.out q hq
      rw [hi3] at c0
      generalize (setT T L k).getD i false = old at r0
      have hiL : (i : Int) < (L : Int) := by omega
      clear hA hcl hi2 hi3 hil
      go_wp2_with fail
      go_roundg (gk - 1)
      case measure => omega
      case rel => exact ⟨k + 1, by omega, by omega, by go_num, HS.out, HN.out⟩
    · obtain rfl : k = T.length := by omega
      clear hA hcl
      go_wp2_with fail
      refine bodyPost_ret (results_tmp rfl _ _ _) rfl ?_
      have hs := HA.out.arr.si (lo := w.heap.size) (Nat.le_refl _) HA.out.lt
      rw [setT_len, HSE.out] at hs
      exact ⟨_, rfl, hs, HA.out.below⟩
theorem litT_pos {L n k : Nat} : litT L n ((k : Int) + 1) = n.testBit (L - (k + 1)) := by
  unfold litT
  have h1 : ltr ((k : Int) + 1) = (k : Int) + 1 := by unfold ltr; rw [if_neg (by omega)]
  rw [h1, decide_eq_true (by omega : (0 : Int) < (k : Int) + 1), show ((k : Int) + 1).toNat = k + 1 by omega]
  cases n.testBit (L - (k + 1)) <;> rfl
set_option maxRecDepth 100000 in
set_option maxHeartbeats 4000000 in
theorem l05Values_any (L M : Nat) (w : World) (hL : L ≤ 10) (hM : M < 1024) :
    Calls Try.prog 68 #[.int .i64 L, .int .i64 M] w (Made Value.bool false (valsB L M) w) := by
  obtain ⟨i0, hi, hz0, hz1, hz2⟩ := info_parts Try.infoB
  go_enter Try.func68, Try.ntmps68
  go_wp2_with fail
  go_loopg [5, 6] L (fun gk v i wr => ∃ k : Nat, k ≤ L ∧ gk + k = L ∧ i = .int .i64 ((k : Int) + 1) ∧ Below w.heap.size w wr ∧ Grows Value.bool 4 w.heap.size v (valK L M k) wr)
  case atStart => exact ⟨0, Nat.zero_le _, by omega, rfl, below_alloc _ _, Grows.empty _ _ _ _ (Nat.le_refl _)⟩
  case round =>
    obtain ⟨k, hk, hgk, rfl, hB, hG⟩ := hrel
    have HB := Lib.hid hB
    have HG := Lib.hid hG
    clear hB hG
    by_cases hlt : k < L
    · have hle : (k : Int) + 1 ≤ (L : Int) := by omega
      obtain ⟨t, ht⟩ : ∃ t, t = M.testBit (L - (k + 1)) := ⟨_, rfl⟩
      have HUP : Hid (valK L M (k + 1) = valK L M k ++ [t]) := Lib.hid (by rw [ht]; exact valK_up L M k)
      have HLT : Hid (litT L M ((k : Int) + 1) = t) := Lib.hid (by rw [ht]; exact litT_pos)
      have HLR : Hid (ltr ((k : Int) + 1) = ((k + 1 : Nat) : Int)) := Lib.hid (by unfold ltr; rw [if_neg (by omega)]; rfl)
      have HML := Lib.hid (valK_len L M k)
      clear ht
      go_wp2_with fail
      go_at_call 94; refine (l05True_is (L : Int) (M : Int) ((k : Int) + 1) L M (k + 1) _ rfl rfl hM hL HLR.out (by omega) (by omega)).mono ?_; rintro e w' ⟨rfl, rfl⟩
      rw [HLT.out]
      go_wp2_with (at_builtin; refine wpList_append_own _ rfl _ _ 36 rfl w.heap.size 4 i0 (.bool false) 1 1 Try.underlying36 hi hz0 hz1 hz2 rfl (by decide) _ _ _ rfl (Grows.alloc HG.out _) ⟨wr.heap.size, 0, none⟩ 1 1 [.bool t] rfl rfl ?c1 ?c2 ?c3 ?c4 ?c5 ?_)
      case c1 => exact one_new
      case c2 => intro u hu; simp at hu; subst hu; rfl
      case c3 => rw [HML.out]; unfold maxLen; omega
      case c4 => rw [HML.out]; omega
      case c5 => have := HB.out.size; simp; omega
      intro v' w' hown hgrow _
      have HN2 : Hid (Below w.heap.size w w' ∧ Grows Value.bool 4 w.heap.size v' (valK L M (k + 1)) w') := Lib.hid ⟨(HB.out.alloc HB.out.size _).grown hgrow (by have := HB.out.size; simp; omega) (fun g hg => HG.out.block g hg), by rw [HUP.out]; exact Grows.more (news := [t]) rfl hown⟩
      clear hown hgrow
      go_wp2_with fail
      go_roundg (gk - 1)
      case measure => omega
      case rel => exact ⟨k + 1, by omega, by omega, by go_num, HN2.out.1, HN2.out.2⟩
    · obtain rfl : k = L := by omega
      go_wp2_with fail
      refine bodyPost_ret (results_tmp rfl _ _ _) rfl ?_
      exact ⟨_, rfl, HG.out.si, HB.out⟩
end Go.Proofs.Ytleaaigjnniglaa
