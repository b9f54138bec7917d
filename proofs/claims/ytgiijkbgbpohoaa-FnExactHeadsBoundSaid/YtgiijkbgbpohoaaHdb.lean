/- A bound by ready times: both sides. -/
import Derived.Test.YtgiijkbgbpohoaaJbS
import Derived.Test.YtgiijkbgbpohoaaJbI
import Derived.Test.YtgiijkbgbpohoaaRowA
import Derived.Test.YtgiijkbgbpohoaaMax
namespace Go.Proofs.Ytgiijkbgbpohoaa
open Go.RowKit Go.ChangeShapes Go.WideShapes

theorem hbI_no {Z : List Ac} (h : jobsB Z = false) : hbI Z = 0 := by unfold hbI; rw [h]; rfl
theorem hbI_yes {Z : List Ac} (h : jobsB Z = true) : hbI Z = hdM Z Z.length := by unfold hbI; rw [if_pos h]
set_option maxRecDepth 100000 in
set_option maxHeartbeats 4000000 in
theorem specHeads_yes (v : Value) (Z : List Ac) (w : World) (hv : AV w v Z) (hn : Z.length ≤ 1048576) (h : jobsB Z = true) :
    Calls Try.prog 33 #[v] w (SaysIB (hbI Z) true w) := by
  have HV := Lib.hid hv
  have H := Lib.hid h
  have HR := Lib.hid (hbI_yes h)
  have J := Lib.hid (jobsB_ok h)
  have n1 := J.out.n1
  have n2 := J.out.n2
  rcases hv with ⟨hz, -⟩ | ⟨b, off, cap, rfl, hpos, hbl, hcell⟩
  · rw [hz] at n1; simp at n1
  have HC := Lib.hid hcell
  clear hcell h
  go_enter Try.func33, Try.ntmps33
  go_wp2_with fail
  go_at_call 50; refine (l06Are_is true _ Z _ HV.out hn H.out).mono ?_; rintro e w1 ⟨rfl, m1, rfl⟩
  go_wp2_with fail
  go_loopg [4, 5] Z.length (fun gk s i wr => ∃ k : Nat, k ≤ Z.length ∧ gk + k = Z.length ∧ i = .int .i64 k ∧ s = .int .i64 (hdM Z k) ∧ ∃ m, wr = w.drewN m)
  case atStart => exact ⟨0, Nat.zero_le _, by omega, rfl, rfl, _, rfl⟩
  case round =>
    obtain ⟨k, hk, hgk, rfl, rfl, hwr⟩ := hrel
    have HWR := Lib.hid hwr
    by_cases hlt : k < Z.length
    · have a3 : wr.cell? ⟨b, off + k * 4 + 3, none⟩ = some (.int .i64 (Z.getD k zA).c) := by obtain ⟨m, rfl⟩ := hwr; exact (HC.out k hlt).c3
      have hm := hdM_in J.out k hk
      have HS : Hid (hdM Z (k + 1) = max (hdM Z k) (hdS Z k Z.length)) := Lib.hid rfl
      generalize hdM Z k = mm at hm HS
      have H0 : Hid ((Z.getD k zA).c = hdS Z k 0) := Lib.hid rfl
      generalize (Z.getD k zA).c = ck at a3 H0
      obtain ⟨q1, q2⟩ := hm
      clear hwr
      obtain ⟨wo, rfl⟩ : ∃ x : World, x = wr := ⟨_, rfl⟩
      obtain ⟨g2, rfl⟩ : ∃ x : Nat, x = gk := ⟨_, rfl⟩
      go_wp2_with fail
      go_loopg [6, 7] Z.length (fun gk s i wr => ∃ p : Nat, p ≤ Z.length ∧ gk + p = Z.length ∧ i = .int .i64 p ∧ s = .int .i64 (hdS Z k p) ∧ ∃ m, wr = w.drewN m)
      case atStart => exact ⟨0, Nat.zero_le _, by omega, rfl, by rw [H0.out], HWR.out⟩
      case round =>
        obtain ⟨p, hp, hgp, rfl, rfl, hwr⟩ := hrel
        have HW := Lib.hid (drewMore hwr)
        have HWR2 := Lib.hid hwr
        by_cases hlp : p < Z.length
        · have b0 : wr.cell? ⟨b, off + p * 4, none⟩ = some (.int .i64 (Z.getD p zA).f) := by obtain ⟨m, rfl⟩ := hwr; exact (HC.out p hlp).c0
          have b3 : wr.cell? ⟨b, off + p * 4 + 3, none⟩ = some (.int .i64 (Z.getD p zA).c) := by obtain ⟨m, rfl⟩ := hwr; exact (HC.out p hlp).c3
          have e3 : wr.cell? ⟨b, off + k * 4 + 3, none⟩ = some (.int .i64 (Z.getD k zA).c) := by obtain ⟨m, rfl⟩ := hwr; exact (HC.out k hlt).c3
          have hs := hdS_in J.out hlt p hp
          have hj := J.out.ok p hlp
          obtain ⟨f1, f2⟩ := (⟨hj.f1, hj.f2⟩ : 1 ≤ (Z.getD p zA).f ∧ (Z.getD p zA).f ≤ 1000)
          have HT : Hid (hdS Z k (p + 1) = hdS Z k p + if (Z.getD k zA).c ≤ (Z.getD p zA).c then (Z.getD p zA).f else 0) := Lib.hid rfl
          generalize hdS Z k p = s at hs HT
          generalize (Z.getD p zA).f = fp at b0 f1 f2 HT
          generalize (Z.getD p zA).c = cp at b3 HT
          generalize (Z.getD k zA).c = cq at e3 HT
          obtain ⟨s1, s2⟩ := hs
          have ws : IntKind.i64.wrap (s + fp) = s + fp := IntWalk.i64_in _ (by omega)
          clear hwr hj a3
          by_cases hq : cq ≤ cp
          · have hd : decide (cp ≥ cq) = true := by simp; omega
            have HT2 := Lib.hid (HT.out.trans (by rw [if_pos hq]))
            go_wp2_with fail
            go_quiet (fail)
            go_wp2_with fail
            go_roundg (gk - 1)
            case measure => omega
            case rel => exact ⟨p + 1, by omega, by omega, by go_num, by rw [HT2.out], HW.out _⟩
          · have hd : decide (cp ≥ cq) = false := by simp; omega
            have HT2 := Lib.hid (HT.out.trans (by rw [if_neg hq, Int.add_zero]))
            go_wp2_with fail
            go_quiet (fail)
            go_wp2_with fail
            go_roundg (gk - 1)
            case measure => omega
            case rel => exact ⟨p + 1, by omega, by omega, by go_num, by rw [HT2.out], HW.out _⟩
        · obtain rfl : p = Z.length := by omega
          clear hwr
          go_wp2_with fail
          go_at_call 60; refine (l00Max_is _ _ _).mono ?_; rintro e wq ⟨rfl, rfl⟩
          go_wp2_with fail
          go_roundg (g2 - 1)
          case measure => omega
          case rel => exact ⟨k + 1, by omega, by omega, by go_num, by rw [HS.out], HWR2.out⟩
    · obtain rfl : k = Z.length := by omega
      clear hwr
      go_wp2_with fail
      go_ret2
      obtain ⟨m, rfl⟩ := HWR.out
      exact saysIB HR.out.symm (below_drewN (Below.refl _ _) m)
theorem specHeadsBound_any (v : Value) (Z : List Ac) (w : World) (hv : AV w v Z) (o : OKA Z) : Calls Try.prog 33 #[v] w (SaysIB (hbI Z) (jobsB Z) w) := by
  have hn := o.size
  cases h : jobsB Z with
  | true => exact specHeads_yes v Z w hv hn h
  | false =>
    rw [hbI_no h]
    have HV := Lib.hid hv
    obtain ⟨ao, cap, rfl⟩ := hv.long
    have H := Lib.hid h
    clear hv h
    go_enter Try.func33, Try.ntmps33
    go_wp2_with fail
    go_at_call 50; refine (l06Are_is false _ Z _ HV.out hn H.out).mono ?_; rintro e w1 ⟨rfl, m1, rfl⟩
    go_wp2_with fail
    go_ret2
    exact saysIB rfl (below_drewN (Below.refl _ _) m1)
set_option maxRecDepth 100000 in
set_option maxHeartbeats 4000000 in
theorem implHeadsBound_any (v : Value) (Z : List Ac) (w : World) (hv : AV w v Z) (o : OKA Z) : Calls Try.prog 34 #[v] w (SaysIB (hbI Z) (jobsB Z) w) := by
  have hn := o.size
  have HV := Lib.hid hv
  cases h : jobsB Z with
  | false =>
    rw [hbI_no h]
    obtain ⟨ao, cap, rfl⟩ := hv.long
    have H := Lib.hid h
    clear hv h
    go_enter Try.func34, Try.ntmps34
    go_wp2_with fail
    go_at_call 18; refine (areJobs_is false _ Z _ HV.out hn H.out).mono ?_; rintro e w1 ⟨rfl, b1⟩
    have B1 := Lib.hid b1
    clear b1
    go_wp2_with fail
    go_ret2
    exact saysIB rfl B1.out
  | true =>
    have H := Lib.hid h
    have HR := Lib.hid (hbI_yes h)
    have J := Lib.hid (jobsB_ok h)
    have n1 := J.out.n1
    have n2 := J.out.n2
    rcases hv with ⟨hz, -⟩ | ⟨b, off, cap, rfl, hpos, hbl, hcell⟩
    · rw [hz] at n1; simp at n1
    have HC := Lib.hid hcell
    clear hcell h
    go_enter Try.func34, Try.ntmps34
    go_wp2_with fail
    go_at_call 18; refine (areJobs_is true _ Z _ HV.out hn H.out).mono ?_; rintro e w1 ⟨rfl, b1⟩
    have B1 := Lib.hid b1
    clear b1
    go_wp2_with fail
    go_loopg [4, 15] Z.length (fun gk s i wr => ∃ k : Nat, k ≤ Z.length ∧ gk + k = Z.length ∧ i = .int .i64 k ∧ s = .int .i64 (hdM Z k) ∧ Below w.heap.size w wr)
    case atStart => exact ⟨0, Nat.zero_le _, by omega, rfl, rfl, B1.out⟩
    case round =>
      obtain ⟨k, hk, hgk, rfl, rfl, hwr⟩ := hrel
      have HWR := Lib.hid hwr
      have hbw : b < wr.heap.size := Nat.lt_of_lt_of_le hbl hwr.size
      by_cases hlt : k < Z.length
      · have ak := (HC.out k hlt).keep hwr hbl
        have hm := hdM_in J.out k hk
        have HS : Hid (hdM Z (k + 1) = max (hdM Z k) (hdS Z k Z.length)) := Lib.hid rfl
        generalize hdM Z k = mm at hm HS
        obtain ⟨A, hA⟩ : ∃ A, A = Z.getD k zA := ⟨_, rfl⟩
        rw [← hA] at ak
        have H0 : Hid (A.c = hdS Z k 0) := Lib.hid (by rw [hA]; rfl)
        have HAq := Lib.hid hA
        obtain ⟨a0, a1, a2, a3⟩ := ak
        obtain ⟨q1, q2⟩ := hm
        clear hwr hA
        obtain ⟨wo, rfl⟩ : ∃ x : World, x = wr := ⟨_, rfl⟩
        obtain ⟨g2, rfl⟩ : ∃ x : Nat, x = gk := ⟨_, rfl⟩
        have X0 := Lib.hid (Box4.mk' wo (.int .i64 A.f) (.int .i64 A.t) (.int .i64 A.r) (.int .i64 A.c) 59)
        have BX := Lib.hid (HWR.out.trans ((below_alloc wo (.cells #[.int .i64 A.f, .int .i64 A.t, .int .i64 A.r, .int .i64 A.c] 59)).mono HWR.out.size))
        go_wp2_with fail
        clear a0 a1 a2 a3
        go_loopg [7, 23] Z.length (fun gk s i wr => ∃ p : Nat, p ≤ Z.length ∧ gk + p = Z.length ∧ i = .int .i64 p ∧ s = .int .i64 (hdS Z k p) ∧ Box4 wr wo.heap.size (.int .i64 A.f) (.int .i64 A.t) (.int .i64 A.r) (.int .i64 A.c) ∧ Below w.heap.size w wr)
        case atStart => exact ⟨0, Nat.zero_le _, by omega, rfl, by rw [H0.out], X0.out, BX.out⟩
        case round =>
          clear X0 BX
          obtain ⟨p, hp, hgp, rfl, rfl, hx, hwr⟩ := hrel
          have HX := Lib.hid hx
          have HW := Lib.hid hwr
          have hlx := hx.lt
          have hbw2 : b < wr.heap.size := Nat.lt_of_lt_of_le hbl hwr.size
          obtain ⟨d0, d1, d2, d3⟩ := hx
          by_cases hlp : p < Z.length
          · obtain ⟨b0, b1, b2, b3⟩ := (HC.out p hlp).keep hwr hbl
            have hs := hdS_in J.out hlt p hp
            have hj := J.out.ok p hlp
            obtain ⟨f1, f2⟩ := (⟨hj.f1, hj.f2⟩ : 1 ≤ (Z.getD p zA).f ∧ (Z.getD p zA).f ≤ 1000)
            have HT : Hid (hdS Z k (p + 1) = hdS Z k p + if A.c ≤ (Z.getD p zA).c then (Z.getD p zA).f else 0) := Lib.hid (by rw [HAq.out]; rfl)
            have HN := Lib.hid fun f t r c => (⟨HX.out.keep (below_alloc wr (.cells #[.int .i64 f, .int .i64 t, .int .i64 r, .int .i64 c] 59)) HX.out.lt, HW.out.trans ((below_alloc wr (.cells #[.int .i64 f, .int .i64 t, .int .i64 r, .int .i64 c] 59)).mono HW.out.size)⟩ : Box4 (wr.alloc (.cells #[.int .i64 f, .int .i64 t, .int .i64 r, .int .i64 c] 59)) wo.heap.size (.int .i64 A.f) (.int .i64 A.t) (.int .i64 A.r) (.int .i64 A.c) ∧ Below w.heap.size w (wr.alloc (.cells #[.int .i64 f, .int .i64 t, .int .i64 r, .int .i64 c] 59)))
            generalize hdS Z k p = s at hs HT
            generalize Z.getD p zA = Q at b0 b1 b2 b3 f1 f2 HT
            obtain ⟨s1, s2⟩ := hs
            have ws : IntKind.i64.wrap (s + Q.f) = s + Q.f := IntWalk.i64_in _ (by omega)
            clear hwr hj
            by_cases hq : A.c ≤ Q.c
            · have hd : decide (Q.c ≥ A.c) = true := by simp; omega
              have HT2 := Lib.hid (HT.out.trans (by rw [if_pos hq]))
              go_wp2_with fail
              go_roundg (gk - 1)
              case measure => omega
              case rel => exact ⟨p + 1, by omega, by omega, by go_num, by rw [HT2.out], (HN.out _ _ _ _).1, (HN.out _ _ _ _).2⟩
            · have hd : decide (Q.c ≥ A.c) = false := by simp; omega
              have HT2 := Lib.hid (HT.out.trans (by rw [if_neg hq, Int.add_zero]))
              go_wp2_with fail
              go_roundg (gk - 1)
              case measure => omega
              case rel => exact ⟨p + 1, by omega, by omega, by go_num, by rw [HT2.out], (HN.out _ _ _ _).1, (HN.out _ _ _ _).2⟩
          · obtain rfl : p = Z.length := by omega
            have hs := hdS_in J.out hlt Z.length (Nat.le_refl _)
            generalize hdS Z k Z.length = s at hs HS
            clear hwr d0 d1 d2 d3
            go_wp2_with fail
            all_goals
              go_roundg (g2 - 1)
              case measure => omega
              case rel => exact ⟨k + 1, by omega, by omega, by go_num, by rw [HS.out] <;> congr 1 <;> omega, HW.out⟩
      · obtain rfl : k = Z.length := by omega
        clear hwr
        go_wp2_with fail
        go_ret2
        exact saysIB HR.out.symm HWR.out
end Go.Proofs.Ytgiijkbgbpohoaa
