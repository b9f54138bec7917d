/- Lists of cases: their sizes. -/
import Derived.Test.YtiobbclciboggaaCss
namespace Go.Proofs.Ytiobbclciboggaa
open Go.RowKit Go.ChangeShapes Go.WideShapes
set_option maxHeartbeats 1000000 in
theorem szCaseS_yes (v : Value) (L : List Cs) (m : Int) (w : World) (hv : CsLV w v L) (hm : (szCs L : Int) ≤ m) (hb : m ≤ 1048576) :
    Calls Try.prog 38 #[v, .int .i64 m] w fun e w' => e = .returned (.int .i64 (m - szCs L)) ∧ Below w.heap.size w w' := by
  have hm1 := hm
  unfold szCs at hm1
  rw [Int.natCast_add] at hm1
  rcases hv with ⟨rfl, ao, cap, rfl⟩ | ⟨b, off, cap, rfl, hpos, hbl, hcell⟩
  · go_enter Try.func38, Try.ntmps38
    go_wp2
    refine wp_loop_rounds 1 ?_
    rw [rounds_succ]
    go_wp2
    go_ret
    exact ⟨by simp [szCs, totC], Below.refl _ _⟩
  · have HC := Lib.hid hcell
    have hlen : (L.length : Int) ≤ m := by omega
    clear hcell
    go_enter Try.func38, Try.ntmps38
    go_wp2_with fail
    go_loopg [1, 5] L.length (fun gk l i wr => ∃ k : Nat, k ≤ L.length ∧ gk + k = L.length ∧ i = .int .i64 k ∧ l = .int .i64 (m - (L.length : Int) - (totC L k : Int)) ∧ Below w.heap.size w wr)
    case atStart => exact ⟨0, Nat.zero_le _, by omega, rfl, by simp [totC], Below.refl _ _⟩
    case round =>
      obtain ⟨k, hk, hgk, rfl, rfl, hwr⟩ := hrel
      have ht := totC_le (L := L) hk
      have HW := Lib.hid hwr
      by_cases hlt : k < L.length
      · have ht1 := totC_le (L := L) (k := k + 1) (n := L.length) hlt
        obtain ⟨x1, n1, k1, x2, n2, k2, ⟨c0, c1, c2, c3⟩, e1, e2, l1, l2⟩ := (HC.out k hlt).below hwr (Nat.le_refl _)
        have HT : totC L (k + 1) = totC L k + szC (L.getD k zC) := rfl
        have HV : Hid (CsV wr (.agg #[.string (L.getD k zC).name, .int .i64 (L.getD k zC).form.letters, .slice x1 n1 k1, .slice x2 n2 k2]) (L.getD k zC)) := Lib.hid ⟨_, _, rfl, l1, l2⟩
        clear e1 e2 l1 l2 hwr
        generalize L.getD k zC = C at c0 c1 HT HV
        have HTT := Lib.hid HT
        obtain ⟨t, htt⟩ : ∃ t, t = totC L k := ⟨_, rfl⟩
        rw [← htt]
        rw [HT, ← htt] at ht1
        rw [← htt] at HTT
        clear HT htt ht
        obtain ⟨z, hz⟩ : ∃ z, z = szC C := ⟨_, rfl⟩
        rw [← hz] at ht1 HTT
        have HZ := Lib.hid hz
        clear hz
        go_wp2_with fail
        go_at_call 72; refine (szCase_yes _ C _ _ HV.out (by rw [← HZ.out]; omega) (by omega)).mono ?_; rintro e w1 ⟨rfl, b1⟩
        rw [← HZ.out]
        have B1 := Lib.hid (HW.out.trans (b1.mono HW.out.size))
        clear b1 c0 c1 c2 c3
        go_wp2_with fail
        go_roundg (gk - 1)
        case measure => omega
        case rel => exact ⟨k + 1, by omega, by omega, by go_num, by rw [HTT.out]; go_num, B1.out⟩
      · obtain rfl : k = L.length := by omega
        clear hwr
        go_wp2_with fail
        go_ret
        exact ⟨ret_mark1 (by unfold szCs; omega), HW.out⟩
set_option maxHeartbeats 1000000 in
theorem szCaseS_no (v : Value) (L : List Cs) (m : Int) (w : World) (hv : CsLV w v L) (hm : m < (szCs L : Int)) (h0 : 0 ≤ m) (hb : m ≤ 1048576) (hf : FitCs L) :
    Calls Try.prog 38 #[v, .int .i64 m] w fun e w' => e = .returned (.int .i64 (-1)) ∧ Below w.heap.size w w' := by
  have hm1 := hm
  unfold szCs at hm1
  rw [Int.natCast_add] at hm1
  have hx := hf.1
  unfold maxLen at hx
  by_cases hlen : (L.length : Int) ≤ m
  · rcases hv with ⟨rfl, ao, cap, rfl⟩ | ⟨b, off, cap, rfl, hpos, hbl, hcell⟩
    · simp [szCs, totC] at hm; omega
    have HC := Lib.hid hcell
    have HF := Lib.hid hf
    clear hcell hf
    go_enter Try.func38, Try.ntmps38
    go_wp2_with fail
    go_loopg [1, 5] L.length (fun gk l i wr => ∃ k : Nat, k ≤ L.length ∧ gk + k = L.length ∧ i = .int .i64 k ∧ (totC L k : Int) ≤ m - (L.length : Int) ∧ l = .int .i64 (m - (L.length : Int) - (totC L k : Int)) ∧ Below w.heap.size w wr)
    case atStart => exact ⟨0, Nat.zero_le _, by omega, rfl, by simp [totC]; omega, by simp [totC], Below.refl _ _⟩
    case round =>
      obtain ⟨k, hk, hgk, rfl, hle, rfl, hwr⟩ := hrel
      have HW := Lib.hid hwr
      by_cases hlt : k < L.length
      · obtain ⟨x1, n1, k1, x2, n2, k2, ⟨c0, c1, c2, c3⟩, e1, e2, l1, l2⟩ := (HC.out k hlt).below hwr (Nat.le_refl _)
        have hfx := HF.out.2 k hlt
        have HT : totC L (k + 1) = totC L k + szC (L.getD k zC) := rfl
        have HV : Hid (CsV wr (.agg #[.string (L.getD k zC).name, .int .i64 (L.getD k zC).form.letters, .slice x1 n1 k1, .slice x2 n2 k2]) (L.getD k zC)) := Lib.hid ⟨_, _, rfl, l1, l2⟩
        clear e1 e2 l1 l2 hwr
        generalize L.getD k zC = C at c0 c1 HT HV hfx
        have HFX := Lib.hid hfx
        obtain ⟨t, htt⟩ : ∃ t, t = totC L k := ⟨_, rfl⟩
        rw [← htt] at HT hle ⊢
        have HTT := Lib.hid HT
        clear HT htt hfx
        obtain ⟨z, hz⟩ : ∃ z, z = szC C := ⟨_, rfl⟩
        rw [← hz] at HTT
        have HZ := Lib.hid hz
        clear hz
        by_cases hy : (z : Int) ≤ m - (L.length : Int) - (t : Int)
        · go_wp2_with fail
          go_at_call 72; refine (szCase_yes _ C _ _ HV.out (by rw [← HZ.out]; exact hy) (by omega)).mono ?_; rintro e w1 ⟨rfl, b1⟩
          rw [← HZ.out]
          have B1 := Lib.hid (HW.out.trans (b1.mono HW.out.size))
          clear b1 c0 c1 c2 c3
          go_wp2_with fail
          go_roundg (gk - 1)
          case measure => omega
          case rel => exact ⟨k + 1, by omega, by omega, by go_num, by rw [HTT.out]; omega, by rw [HTT.out]; go_num, B1.out⟩
        · go_wp2_with fail
          go_at_call 72; refine (szCase_no _ C _ _ HV.out (by rw [← HZ.out]; omega) (by omega) (by omega) HFX.out.1 HFX.out.2.1 HFX.out.2.2).mono ?_; rintro e w1 ⟨rfl, b1⟩
          have B1 := Lib.hid (HW.out.trans (b1.mono HW.out.size))
          clear b1 c0 c1 c2 c3
          go_wp2_with fail
          go_ret
          exact ⟨rfl, B1.out⟩
      · obtain rfl : k = L.length := by omega
        exfalso; omega
  · obtain ⟨ao, cap, rfl⟩ := hv.long
    clear hv
    go_enter Try.func38, Try.ntmps38
    go_wp2_with fail
    go_ret
    exact ⟨rfl, Below.refl _ _⟩
end Go.Proofs.Ytiobbclciboggaa
