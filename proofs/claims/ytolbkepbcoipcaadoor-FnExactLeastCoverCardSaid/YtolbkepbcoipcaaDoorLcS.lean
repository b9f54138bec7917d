/- The least cover: the model's side. -/
import Derived.Test.YtolbkepbcoipcaaDoorSets
import Derived.Test.YtolbkepbcoipcaaDoorOnes
import Derived.Test.YtolbkepbcoipcaaDoorLc0
import Derived.Test.YtolbkepbcoipcaaDoorHvS
import Derived.Test.YtolbkepbcoipcaaDoorBitI
import Derived.Laws.ShiftsVar
import Derived.Deep.LoopGhost
import Derived.Deep.QuietTactic
import Derived.BigQuiet
import Derived.WalkSpells
namespace Go.Proofs.YtolbkepbcoipcaaDoor
open Go.RowKit Go.ChangeShapes Go.WideShapes

theorem vnat {a b : Nat} (h : a = b) : Value.int .i64 (a : Int) = Value.int .i64 (b : Int) := by rw [h]
theorem vspB {a b : Nat} (h : a = b) : Value.int .i64 (spB a) = Value.int .i64 (spB b) := by rw [h]
set_option maxRecDepth 100000 in
set_option maxHeartbeats 8000000 in
theorem specLc_yes (n : Nat) (v : Value) (L : List Int) (w : World) (hv : IL w v L) (hn : L.length ≤ 1048576) (h1 : setsB (n : Int) L = true) (OK : SetsOk n L) :
    Calls Tryd.prog 14 #[.int .i64 n, v] w (SaysJB (memP L.length (lcB n L (2 ^ L.length))) (decide (lcB n L (2 ^ L.length) ≠ 0)) w) := by
  have H1 := Lib.hid h1
  have HV := Lib.hid hv
  have OKH := Lib.hid OK
  have n1 := OK.n1
  have n2 := OK.n2
  have l1 := OK.l1
  have l2 := OK.l2
  rcases hv with ⟨rfl, ao, cap, rfl⟩ | ⟨b, off, cap, rfl, hpos, hbl, hcell⟩
  · simp at l1
  have HC : Hid (∀ wx, Below w.heap.size w wx → ∀ i, i < L.length → wx.cell? ⟨b, off + i, none⟩ = some (.int .i64 (setN L i : Int))) := Lib.hid fun wx hb i hi => by
    rw [hb.cell (p := ⟨b, off + i, none⟩) hbl, ← (OKH.out.s i hi).1]; exact hcell i hi
  obtain ⟨A, hA⟩ : ∃ A, A = allS n := ⟨_, rfl⟩
  have HA := Lib.hid hA
  have a1 : A < 65536 := by rw [hA]; exact allS_lt n2
  obtain ⟨p1, p2⟩ := pow_in (n := (n : Int)) (by omega)
  rw [Int.toNat_natCast] at p1 p2
  have hp2 : (2 : Int) ^ n - 1 = (A : Int) := by
    have h3 : 0 < 2 ^ n := Nat.pow_pos (by omega)
    have h2 : ((2 ^ n : Nat) : Int) = (2 : Int) ^ n := by simp
    rw [hA]; unfold allS; omega
  have hp : IntKind.i64.wrap ((2 : Int) ^ n - 1) = (A : Int) := by
    rw [hp2]; exact IntWalk.i64_in _ (by omega)
  obtain ⟨N, hN⟩ : ∃ N, N = 2 ^ L.length := ⟨_, rfl⟩
  have hpN : (2 : Int) ^ L.length = (N : Int) := by rw [hN]; simp
  obtain ⟨q1, q2⟩ := pow16 l2
  rw [← hN] at q1 q2 ⊢
  clear h1 hcell OK hA hN
  go_enter Tryd.func14, Tryd.ntmps14
  go_wp2_with fail
  go_at_call 26; refine (l04Sets_is true n _ L _ HV.out hn H1.out).mono ?_; rintro e w' ⟨rfl, m, rfl⟩
  go_wp2_with fail
  go_loopg [6, 7] N (fun gk s6 s7 wr => ∃ k : Nat, k ≤ N ∧ gk + k = N ∧ s6 = .int .i64 (spB (lcB n L k)) ∧ s7 = .int .i64 k ∧ wr = w.drewN m)
  case atStart => exact ⟨0, Nat.zero_le _, by omega, rfl, rfl, rfl⟩
  case round =>
    obtain ⟨k, hk, hgk, rfl, rfl, rfl⟩ := hrel
    by_cases hlt : k < N
    · go_wp2_with fail
      obtain ⟨g2, rfl⟩ : ∃ x : Nat, x = gk := ⟨_, rfl⟩
      go_loopg [8, 9] L.length (fun gk s8 s9 wr => ∃ j : Nat, j ≤ L.length ∧ gk + j = L.length ∧ s8 = .int .i64 (orM L j k : Nat) ∧ s9 = .int .i64 j ∧ wr = w.drewN m)
      case atStart => exact ⟨0, Nat.zero_le _, by omega, rfl, rfl, rfl⟩
      case round =>
        obtain ⟨j, hj, hgj, rfl, rfl, rfl⟩ := hrel
        have hs := orM_lt OKH.out k j hj
        by_cases hjl : j < L.length
        · obtain ⟨q, d1, d2, d3⟩ := digit (show k < 65536 by omega) j
          have x1 := HC.out (w.drewN m) (below_drewN (Below.refl _ _) m) j hjl
          have hy := set_lt OKH.out hjl
          cases ht : k.testBit j with
          | true =>
            have HNX := Lib.hid (or_yes (L := L) ht)
            rw [ht] at d3
            simp only [if_true] at d3
            generalize setN L j = y at x1 hy HNX
            generalize orM L j k = s at hs HNX
            have e1 := i64_or s y hs hy
            clear ht
            go_wp2_with fail
            go_roundg (gk - 1)
            case measure => omega
            case rel => exact ⟨j + 1, by omega, by omega, by rw [HNX.out], by go_num, rfl⟩
          | false =>
            have HNX := Lib.hid (or_no (L := L) ht)
            rw [ht] at d3
            simp only [Bool.false_eq_true, if_false] at d3
            generalize hsm : orM L j k = s at hs HNX
            clear ht hsm
            go_wp2_with fail
            go_roundg (gk - 1)
            case measure => omega
            case rel => exact ⟨j + 1, by omega, by omega, by rw [HNX.out], by go_num, rfl⟩
        · obtain rfl : j = L.length := by omega
          have Y1 := Lib.hid (lc_yes1 (n := n) (L := L) (j := k))
          have Y2 := Lib.hid (lc_yes2 (n := n) (L := L) (j := k))
          have N1 := Lib.hid (lc_no1 (n := n) (L := L) (j := k))
          have N2 := Lib.hid (lc_no2 (n := n) (L := L) (j := k))
          have HK := Lib.hid (all_some (j := k) OKH.out)
          have hbl2 := lc_le n L k
          rw [← HA.out] at Y1 Y2 N1 HK
          generalize orM L L.length k = s at hs Y1 Y2 N1 HK
          generalize hb : lcB n L k = b at Y1 Y2 N1 N2 hbl2
          clear hb
          by_cases hsa : s = A
          · subst hsa
            have hk0 := HK.out rfl
            have Y2' := Lib.hid (Y2.out rfl)
            have Y1' := Lib.hid (Y1.out rfl)
            clear Y1 Y2
            by_cases hb0 : b = 0
            · rw [spB_no hb0]
              have HR : Hid (lcB n L (k + 1) = k) := Lib.hid (Y1'.out hb0)
              go_wp2_with fail
              go_roundg (g2 - 1)
              case measure => omega
              case rel => exact ⟨k + 1, by omega, by omega, by rw [HR.out, spB_yes hk0], by go_num, rfl⟩
            · rw [spB_yes hb0]
              have N2' := Lib.hid (N2.out hb0)
              go_wp2_with fail
              go_at_call 27; refine (l04Ones_same k _ (by omega)).mono ?_; rintro e w' ⟨rfl, rfl⟩
              go_wp2_with fail
              go_at_call 27; refine (l04Ones_same b _ (by omega)).mono ?_; rintro e w' ⟨rfl, rfl⟩
              have c1 := pop_le k
              have c2 := pop_le b
              by_cases hlt2 : pop k < pop b
              · have HR : Hid (lcB n L (k + 1) = k) := Lib.hid (Y2'.out hlt2)
                generalize pop k = c at hlt2 c1
                generalize pop b = d at hlt2 c2
                have hd : decide ((c : Int) < (d : Int)) = true := by simp; omega
                go_wp2_with fail
                go_roundg (g2 - 1)
                case measure => omega
                case rel => exact ⟨k + 1, by omega, by omega, by rw [HR.out, spB_yes hk0], by go_num, rfl⟩
              · have HR : Hid (lcB n L (k + 1) = b) := Lib.hid (N2'.out hlt2)
                generalize pop k = c at hlt2 c1
                generalize pop b = d at hlt2 c2
                have hd : decide ((c : Int) < (d : Int)) = false := by simp; omega
                go_wp2_with fail
                go_roundg (g2 - 1)
                case measure => omega
                case rel => exact ⟨k + 1, by omega, by omega, by rw [HR.out, spB_yes hb0], by go_num, rfl⟩
          · have hne : ((s : Int) == (A : Int)) = false := by simp; omega
            have HR : Hid (lcB n L (k + 1) = b) := Lib.hid (N1.out hsa)
            generalize hz : spB b = z
            have HZ := Lib.hid hz
            clear hz
            go_wp2_with fail
            go_roundg (g2 - 1)
            case measure => omega
            case rel => exact ⟨k + 1, by omega, by omega, by rw [HR.out, HZ.out], by go_num, rfl⟩
    · obtain rfl : k = N := by omega
      have hb1 := lc_lt n L (j := k) q1
      generalize hbb : lcB n L k = b at hb1
      have HBB := Lib.hid hbb
      clear hbb
      by_cases hb0 : b = 0
      · subst hb0
        rw [spB_no rfl]
        go_wp2_with fail
        refine bodyPost_ret (v := .tuple #[.slice none 0 0, .bool false]) (by simp [results, Tryd.results14, go_sem]) rfl ?_
        rw [HBB.out, memP_zero]
        exact ⟨_, rfl, SI.nil _ (Nat.le_refl _) _ _, below_drewN (Below.refl _ _) m⟩
      · rw [spB_yes hb0]
        have HD : Hid (decide (b ≠ 0) = true) := Lib.hid (by simpa using hb0)
        go_wp2_with fail
        go_at_call 23; refine (l04Set_any b L.length _ (by omega) l2).mono ?_; rintro e w5 ⟨v5, rfl, i5, b5⟩
        have B5 := Lib.hid ((below_drewN (Below.refl w.heap.size w) m).trans b5)
        have I5 := Lib.hid i5
        clear i5 b5
        go_wp2_with fail
        refine bodyPost_ret (v := .tuple #[v5, .bool true]) (by simp [results, Tryd.results14, go_sem]) rfl ?_
        rw [HBB.out, HD.out]
        exact ⟨_, rfl, I5.out, B5.out⟩
set_option maxHeartbeats 1000000 in
theorem specLeastCover_any (n : Int) (v : Value) (L : List Int) (w : World) (hv : IL w v L) (_ : -9223372036854775808 ≤ n ∧ n ≤ 9223372036854775807) (o : OKI L) :
    Calls Tryd.prog 14 #[.int .i64 n, v] w (SaysJB (lcL n L) (lcO n L) w) := by
  have hn := o.size
  unfold lcL lcO lcX
  cases h1 : setsB n L with
  | false =>
    have HV := Lib.hid hv
    have H1 := Lib.hid h1
    obtain ⟨ao, cap, rfl⟩ := hv.long
    clear h1 hv
    go_enter Tryd.func14, Tryd.ntmps14
    go_wp2_with fail
    go_at_call 26; refine (l04Sets_is false n _ L _ HV.out hn H1.out).mono ?_; rintro e w' ⟨rfl, m, rfl⟩
    have HB := Lib.hid (below_drewN (Below.refl w.heap.size w) m)
    go_wp2_with fail
    refine bodyPost_ret (v := .tuple #[.slice none 0 0, .bool false]) (by simp [results, Tryd.results14, go_sem]) rfl ?_
    exact ⟨_, rfl, SI.nil _ (Nat.le_refl _) _ _, HB.out⟩
  | true =>
    obtain ⟨m, rfl, OK⟩ := setsB_ok h1
    exact specLc_yes m v L w hv hn h1 OK
end Go.Proofs.YtolbkepbcoipcaaDoor
