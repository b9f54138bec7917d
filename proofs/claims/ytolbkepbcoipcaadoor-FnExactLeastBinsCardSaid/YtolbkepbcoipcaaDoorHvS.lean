/- The best halves: the model's side. -/
import Derived.Test.YtolbkepbcoipcaaDoorSizes
import Derived.Test.YtolbkepbcoipcaaDoorHv0
import Derived.Test.YtolbkepbcoipcaaDoorGrw
import Derived.Test.YtolbkepbcoipcaaDoorTz
import Derived.Laws.ShiftsVar
import Derived.Deep.LoopGhost
import Derived.Deep.QuietTactic
import Derived.BigQuiet
import Derived.WalkSpells
namespace Go.Proofs.YtolbkepbcoipcaaDoor
open Go.RowKit Go.ChangeShapes Go.WideShapes

abbrev MadeI (Z : List Int) (w : World) (e : Ending) (w' : World) : Prop := Made (Value.int .i64) (0 : Int) Z w e w'
/-- A digit of a set, as the model asks it. -/
theorem digit {m : Nat} (hm : m < 65536) (i : Nat) : ∃ q : Nat, (m : Int) / 2 ^ i = (q : Int) ∧ q < 65536 ∧ bits .and .i64 (q : Int) 1 = (if m.testBit i then 1 else 0) := by
  refine ⟨m / 2 ^ i, by simp, Nat.lt_of_le_of_lt (Nat.div_le_self _ _) hm, ?_⟩
  have hq : m / 2 ^ i < 65536 := Nat.lt_of_le_of_lt (Nat.div_le_self _ _) hm
  show IntKind.i64.wrap ((BitVec.ofInt 64 ((m / 2 ^ i : Nat) : Int) &&& BitVec.ofInt 64 ((1 : Nat) : Int)).toNat : Int) = _
  rw [BitVec.toNat_and, ofInt_u64 _ (by omega), ofInt_u64 1 (by omega), Nat.and_one_is_mod]
  have h2 : m.testBit i = decide (m / 2 ^ i % 2 = 1) := by rw [Nat.testBit_eq_decide_div_mod_eq]
  rw [h2]
  have h3 : m / 2 ^ i % 2 < 2 := Nat.mod_lt _ (by omega)
  by_cases h : m / 2 ^ i % 2 = 1
  · rw [h]; simp; exact IntWalk.i64_in _ (by omega)
  · have h0 : m / 2 ^ i % 2 = 0 := by omega
    rw [h0]; simp; exact IntWalk.i64_in _ (by omega)
set_option maxRecDepth 100000 in
set_option maxHeartbeats 4000000 in
theorem l04Set_any (m n : Nat) (w : World) (hm : m < 65536) (hn : n ≤ 16) :
    Calls Tryd.prog 23 #[.int .i64 m, .int .i64 n] w (MadeI (memP n m) w) := by
  obtain ⟨i0, hi, hz0, hz1, hz2⟩ := info_parts Tryd.infoI
  go_enter Tryd.func23, Tryd.ntmps23
  go_wp2_with fail
  go_loopg [5, 6] n (fun gk v i wr => ∃ k : Nat, k ≤ n ∧ gk + k = n ∧ i = .int .i64 k ∧ Below w.heap.size w wr ∧ Grows (Value.int .i64) 2 w.heap.size v (memP k m) wr)
  case atStart => exact ⟨0, Nat.zero_le _, by omega, rfl, below_alloc w _, Grows.empty _ _ _ _ (Nat.le_refl _)⟩
  case round =>
    obtain ⟨k, hk, hgk, rfl, hB, hG⟩ := hrel
    have HB := Lib.hid hB
    have HG := Lib.hid hG
    have HML := Lib.hid (memP_len k m)
    clear hB hG
    by_cases hlt : k < n
    · obtain ⟨q, d1, d2, d3⟩ := digit hm k
      have hb : IntKind.i64.wrap ((1 : Int)) = 1 := IntWalk.i64_in _ (by omega)
      cases ht : m.testBit k with
      | true =>
        have HN : Hid (memP (k + 1) m = memP k m ++ [(k : Int)]) := Lib.hid (by rw [memP, ht]; rfl)
        rw [ht] at d3
        simp only [if_true] at d3
        clear ht hb
        go_wp2_with (at_builtin; refine wpList_append_own _ rfl _ _ 22 rfl w.heap.size 2 i0 (.int .i64 0) 1 8 Tryd.underlying22 hi hz0 hz1 hz2 rfl (by decide) _ _ _ rfl (Grows.alloc HG.out _) ⟨wr.heap.size, 0, none⟩ 1 1 [.int .i64 (k : Int)] rfl rfl ?c1 ?c2 ?c3 ?c4 ?c5 ?_)
        case c1 => exact one_new
        case c2 => intro u hu; simp at hu; subst hu; rfl
        case c3 => have := HML.out; unfold maxLen; omega
        case c4 => have := HML.out; omega
        case c5 => have := HB.out.size; simp; omega
        intro v' w' hown hgrow _
        have HN2 : Hid (Below w.heap.size w w' ∧ Grows (Value.int .i64) 2 w.heap.size v' (memP (k + 1) m) w') := Lib.hid ⟨(HB.out.alloc HB.out.size _).grown hgrow (by have := HB.out.size; simp; omega) (fun g hg => HG.out.block g hg), by rw [HN.out]; exact Grows.more (news := [(k : Int)]) rfl hown⟩
        clear hown hgrow d1 d3
        go_wp2_with fail
        go_roundg (gk - 1)
        case measure => omega
        case rel => exact ⟨k + 1, by omega, by omega, by go_num, HN2.out.1, HN2.out.2⟩
      | false =>
        have HN : Hid (memP (k + 1) m = memP k m) := Lib.hid (by rw [memP, ht]; exact List.append_nil _)
        rw [ht] at d3
        simp only [Bool.false_eq_true, if_false] at d3
        clear ht hb
        go_wp2_with fail
        go_roundg (gk - 1)
        case measure => omega
        case rel => exact ⟨k + 1, by omega, by omega, by go_num, HB.out, by rw [HN.out]; exact HG.out⟩
    · obtain rfl : k = n := by omega
      go_wp2_with fail
      refine bodyPost_ret (results_tmp rfl _ _ _) rfl ?_
      exact ⟨_, rfl, HG.out.si, HB.out⟩
set_option maxRecDepth 100000 in
set_option maxHeartbeats 4000000 in
theorem l04Sums_any (v : Value) (S : List Int) (w : World) (hv : IL w v S) (OK : SizesOk S) :
    Calls Tryd.prog 17 #[v] w (MadeI (sumsL S) w) := by
  obtain ⟨i0, hi, hz0, hz1, hz2⟩ := info_parts Tryd.infoI
  have OKH := Lib.hid OK
  have l1 := OK.l1
  have l2 := OK.l2
  obtain ⟨q1, q2⟩ := pow16 l2
  rcases hv with ⟨rfl, ao, cap, rfl⟩ | ⟨b, off, cap, rfl, hpos, hbl, hcell⟩
  · simp at l1
  have HC := Lib.hid hcell
  obtain ⟨N, hN⟩ : ∃ N, N = 2 ^ S.length := ⟨_, rfl⟩
  have HN := Lib.hid hN
  have hp : (2 : Int) ^ S.length = (N : Int) := by rw [hN]; simp
  rw [← hN] at q1 q2
  clear hcell OK hN
  go_enter Tryd.func17, Tryd.ntmps17
  go_wp2_with fail
  go_loopg [3, 4] N (fun gk v m wr => ∃ k : Nat, k ≤ N ∧ gk + k = N ∧ m = .int .i64 k ∧ Below w.heap.size w wr ∧ Grows (Value.int .i64) 2 w.heap.size v (allF (sumM S S.length) k) wr)
  case atStart => exact ⟨0, Nat.zero_le _, by omega, rfl, below_alloc w _, Grows.empty _ _ _ _ (Nat.le_refl _)⟩
  case round =>
    obtain ⟨k, hk, hgk, rfl, hB, hG⟩ := hrel
    have HB := Lib.hid hB
    have HG := Lib.hid hG
    clear hB hG
    by_cases hlt : k < N
    · go_wp2_with fail
      obtain ⟨wo, rfl⟩ : ∃ x : World, x = wr := ⟨_, rfl⟩
      obtain ⟨g2, rfl⟩ : ∃ x : Nat, x = gk := ⟨_, rfl⟩
      go_loopg [5, 6] S.length (fun gk s i wr => ∃ j : Nat, j ≤ S.length ∧ gk + j = S.length ∧ i = .int .i64 j ∧ s = .int .i64 (sumM S j k) ∧ wo = wr)
      case atStart => exact ⟨0, Nat.zero_le _, by omega, rfl, rfl, rfl⟩
      case round =>
        obtain ⟨j, hj, hgj, rfl, rfl, rfl⟩ := hrel
        have hs := sumM_in OKH.out.a k j hj
        by_cases hjl : j < S.length
        · obtain ⟨q, d1, d2, d3⟩ := digit (show k < 65536 by omega) j
          have x1 : wo.cell? ⟨b, off + j, none⟩ = some (.int .i64 (S.getD j 0)) := by rw [HB.out.cell (p := ⟨b, off + j, none⟩) hbl]; exact HC.out j hjl
          have hy := OKH.out.a j hjl
          cases ht : k.testBit j with
          | true =>
            have HNX : Hid (sumM S (j + 1) k = sumM S j k + S.getD j 0) := Lib.hid (by rw [sumM, ht]; rfl)
            rw [ht] at d3
            simp only [if_true] at d3
            generalize S.getD j 0 = y at x1 hy HNX
            generalize sumM S j k = s at hs HNX
            obtain ⟨s1, s2⟩ := hs
            obtain ⟨y1, y2⟩ := hy
            clear ht
            go_wp2_with fail
            go_roundg (gk - 1)
            case measure => omega
            case rel => exact ⟨j + 1, by omega, by omega, by go_num, by rw [HNX.out], rfl⟩
          | false =>
            have HNX : Hid (sumM S (j + 1) k = sumM S j k) := Lib.hid (by rw [sumM, ht]; exact Int.add_zero _)
            rw [ht] at d3
            simp only [Bool.false_eq_true, if_false] at d3
            generalize hsm : sumM S j k = s at hs
            have HSM := Lib.hid hsm
            clear ht hsm
            go_wp2_with fail
            go_roundg (gk - 1)
            case measure => omega
            case rel => exact ⟨j + 1, by omega, by omega, by go_num, by rw [HNX.out, HSM.out], rfl⟩
        · obtain rfl : j = S.length := by omega
          have HNX : Hid (allF (sumM S S.length) (k + 1) = allF (sumM S S.length) k ++ [sumM S S.length k]) := Lib.hid (by unfold allF; rw [List.range_succ, List.map_append]; rfl)
          have HAL := Lib.hid (allF_len (sumM S S.length) k)
          obtain ⟨Y, hY⟩ : ∃ Y, Y = allF (sumM S S.length) k := ⟨_, rfl⟩
          rw [← hY] at HNX HAL HG
          generalize sumM S S.length k = s at HNX hs
          clear hY
          go_wp2_with (at_builtin; refine wpList_append_own _ rfl _ _ 22 rfl w.heap.size 2 i0 (.int .i64 0) 1 8 Tryd.underlying22 hi hz0 hz1 hz2 rfl (by decide) _ _ _ rfl (Grows.alloc HG.out _) ⟨wo.heap.size, 0, none⟩ 1 1 [.int .i64 s] rfl rfl ?c1 ?c2 ?c3 ?c4 ?c5 ?_)
          case c1 => exact one_new
          case c2 => intro u hu; simp at hu; subst hu; rfl
          case c3 => rw [HAL.out]; unfold maxLen; omega
          case c4 => rw [HAL.out]; omega
          case c5 => have := HB.out.size; simp; omega
          intro v' w' hown hgrow _
          have HN2 : Hid (Below w.heap.size w w' ∧ Grows (Value.int .i64) 2 w.heap.size v' (allF (sumM S S.length) (k + 1)) w') := Lib.hid ⟨(HB.out.alloc HB.out.size _).grown hgrow (by have := HB.out.size; simp; omega) (fun g hg => HG.out.block g hg), by rw [HNX.out]; exact Grows.more (news := [s]) rfl hown⟩
          clear hown hgrow
          go_wp2_with fail
          go_roundg (g2 - 1)
          case measure => omega
          case rel => exact ⟨k + 1, by omega, by omega, by go_num, HN2.out.1, HN2.out.2⟩
    · obtain rfl : k = N := by omega
      go_wp2_with fail
      refine bodyPost_ret (results_tmp rfl _ _ _) rfl ?_
      exact ⟨_, rfl, by unfold sumsL; rw [← HN.out]; exact HG.out.si, HB.out⟩
end Go.Proofs.YtolbkepbcoipcaaDoor
