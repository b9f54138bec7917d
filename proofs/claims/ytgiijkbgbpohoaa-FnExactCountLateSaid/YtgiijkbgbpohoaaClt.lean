/- How many jobs are late: both sides. -/
import Derived.Test.YtgiijkbgbpohoaaEnS
import Derived.Test.YtgiijkbgbpohoaaEnI
import Derived.Test.YtgiijkbgbpohoaaMax
namespace Go.Proofs.Ytgiijkbgbpohoaa
open Go.RowKit Go.ChangeShapes Go.WideShapes

theorem clI_no {Z : List Ac} {T : List Int} (h : jvalB Z T = false) : clI Z T = 0 := by unfold clI; rw [h]; rfl
theorem clI_yes {Z : List Ac} {T : List Int} (h : jvalB Z T = true) : clI Z T = clS Z (endL Z T Z.length) Z.length := by unfold clI; rw [if_pos h]
set_option maxRecDepth 100000 in
set_option maxHeartbeats 4000000 in
theorem specCountLate_yes (v u : Value) (Z : List Ac) (T : List Int) (w : World) (hv : AV w v Z) (hu : IL w u T) (hn : Z.length ≤ 1048576) (h : jvalB Z T = true) :
    Calls Try.prog 31 #[v, u] w (SaysIB (clI Z T) true w) := by
  have HV := Lib.hid hv
  have HU := Lib.hid hu
  have H := Lib.hid h
  have hR := clI_yes h
  have J := Lib.hid (jval_ok h)
  have n1 := J.out.1.n1
  have n2 := J.out.1.n2
  have hIN := endL_in J.out.1 J.out.2 Z.length (Nat.le_refl _)
  have hEL := endL_len Z T Z.length
  obtain ⟨E, hE⟩ : ∃ E, E = endL Z T Z.length := ⟨_, rfl⟩
  rw [← hE] at hR hIN hEL
  have HR := Lib.hid hR
  have HIN := Lib.hid hIN
  have HEL := Lib.hid hEL
  have HEq := Lib.hid hE
  clear hR hIN hEL hE
  rcases hv with ⟨hz, -⟩ | ⟨b, off, cap, rfl, hpos, hbl, hcell⟩
  · rw [hz] at n1; simp at n1
  obtain ⟨ao2, cap2, rfl⟩ := hu.long
  have HC := Lib.hid hcell
  clear hcell hu h
  go_enter Try.func31, Try.ntmps31
  go_wp2_with fail
  go_at_call 57; refine (l06Valid_is true _ _ Z T _ HV.out HU.out hn H.out).mono ?_; rintro e w1 ⟨rfl, b1⟩
  have B1 := Lib.hid b1
  clear b1
  go_wp2_with fail
  go_at_call 58; refine (l06Ends_any _ _ Z T _ (HV.out.below B1.out (Nat.le_refl _)) (HU.out.below B1.out (Nat.le_refl _)) J.out.1 J.out.2).mono ?_; rintro e w2 ⟨B, rfl, hr⟩
  have R := Lib.hid hr
  have B2 : Hid (Below w.heap.size w w2) := Lib.hid (B1.out.trans (hr.below.mono B1.out.size))
  rw [← HEq.out] at R ⊢
  rw [HEL.out]
  clear hr
  go_wp2_with fail
  go_loopg [7, 8] Z.length (fun gk s i wr => ∃ k : Nat, k ≤ Z.length ∧ gk + k = Z.length ∧ i = .int .i64 k ∧ s = .int .i64 (clS Z E k) ∧ ∃ m, wr = w2.drewN m)
  case atStart => exact ⟨0, Nat.zero_le _, by omega, rfl, rfl, 0, rfl⟩
  case round =>
    obtain ⟨k, hk, hgk, rfl, rfl, hwr⟩ := hrel
    have HW := Lib.hid (drewMore hwr)
    have HWR := Lib.hid hwr
    by_cases hlt : k < Z.length
    · have y1 := R.out.cell (i := k) (by rw [HEL.out]; exact hlt)
      have a1 := ((HC.out k hlt).keep B2.out hbl).c1
      have y2 : wr.cell? ⟨B, k, none⟩ = some (.int .i64 (E.getD k 0)) := by obtain ⟨m, rfl⟩ := hwr; exact y1
      have a2 : wr.cell? ⟨b, off + k * 4 + 1, none⟩ = some (.int .i64 (Z.getD k zA).t) := by obtain ⟨m, rfl⟩ := hwr; exact a1
      have hi := HIN.out k
      have hj := J.out.1.ok k hlt
      obtain ⟨r1, r2⟩ := (⟨hj.t1, hj.t2⟩ : 0 ≤ (Z.getD k zA).t ∧ (Z.getD k zA).t ≤ 100000)
      clear y1 a1 hwr hj
      have hw := clS_in (Z := Z) (E := E) k
      have HS : Hid (clS Z E (k + 1) = clS Z E k + if (Z.getD k zA).t < E.getD k 0 then 1 else 0) := Lib.hid rfl
      generalize clS Z E k = s at HS hw
      generalize E.getD k 0 = y at y2 hi HS
      generalize (Z.getD k zA).t = q at a2 r1 r2 HS
      obtain ⟨h1, h2⟩ := hw
      have ws : IntKind.i64.wrap (s + 1) = s + 1 := IntWalk.i64_in _ (by omega)
      by_cases hq : q < y
      · have hd : decide (y > q) = true := by simp; omega
        have HS2 := Lib.hid (HS.out.trans (by rw [if_pos hq]))
        go_wp2_with fail
        go_quiet (fail)
        go_wp2_with fail
        go_roundg (gk - 1)
        case measure => omega
        case rel => exact ⟨k + 1, by omega, by omega, by go_num, by rw [HS2.out], HW.out _⟩
      · have hd : decide (y > q) = false := by simp; omega
        have HS2 := Lib.hid (HS.out.trans (by rw [if_neg hq, Int.add_zero]))
        go_wp2_with fail
        go_quiet (fail)
        go_wp2_with fail
        go_roundg (gk - 1)
        case measure => omega
        case rel => exact ⟨k + 1, by omega, by omega, by go_num, by rw [HS2.out], HW.out _⟩
    · obtain rfl : k = Z.length := by omega
      clear hwr
      go_wp2_with fail
      go_ret2
      obtain ⟨m, rfl⟩ := HWR.out
      exact saysIB HR.out.symm (below_drewN B2.out m)
set_option maxHeartbeats 1000000 in
theorem specCountLate_any (v : Value) (Z : List Ac) (u : Value) (T : List Int) (w : World) (hv : AV w v Z) (hu : IL w u T) (oZ : OKA Z) (_ : OKI T) :
    Calls Try.prog 31 #[v, u] w (SaysIB (clI Z T) (jvalB Z T) w) := by
  have hn := oZ.size
  cases h : jvalB Z T with
  | true => exact specCountLate_yes v u Z T w hv hu hn h
  | false =>
    rw [clI_no h]
    have HV := Lib.hid hv
    have HU := Lib.hid hu
    obtain ⟨ao, cap, rfl⟩ := hv.long
    obtain ⟨ao2, cap2, rfl⟩ := hu.long
    have H := Lib.hid h
    clear hv hu h
    go_enter Try.func31, Try.ntmps31
    go_wp2_with fail
    go_at_call 57; refine (l06Valid_is false _ _ Z T _ HV.out HU.out hn H.out).mono ?_; rintro e w1 ⟨rfl, b1⟩
    have B1 := Lib.hid b1
    clear b1
    go_wp2_with fail
    go_ret2
    exact saysIB rfl B1.out
set_option maxRecDepth 100000 in
set_option maxHeartbeats 4000000 in
theorem implCountLate_any (v : Value) (Z : List Ac) (u : Value) (T : List Int) (w : World) (hv : AV w v Z) (hu : IL w u T) (oZ : OKA Z) (oT : OKI T) :
    Calls Try.prog 32 #[v, u] w (SaysIB (clI Z T) (jvalB Z T) w) := by
  have HV := Lib.hid hv
  have HU := Lib.hid hu
  cases h : jvalB Z T with
  | false =>
    rw [clI_no h]
    obtain ⟨ao, cap, rfl⟩ := hv.long
    obtain ⟨ao2, cap2, rfl⟩ := hu.long
    have H := Lib.hid h
    clear hv hu h
    go_enter Try.func32, Try.ntmps32
    go_wp2_with fail
    go_at_call 22; refine (implEnds_is false _ _ Z T _ HV.out HU.out oZ oT H.out).mono ?_; rintro e w1 ⟨v1, rfl, i1, b1⟩
    have B1 := Lib.hid b1
    clear i1 b1
    go_wp2_with fail
    go_ret2
    exact saysIB rfl B1.out
  | true =>
    rw [clI_yes h]
    have H := Lib.hid h
    have J := Lib.hid (jval_ok h)
    have n1 := J.out.1.n1
    have n2 := J.out.1.n2
    obtain ⟨E, hE⟩ : ∃ E, E = endL Z T Z.length := ⟨_, rfl⟩
    have hIN := endL_in J.out.1 J.out.2 Z.length (Nat.le_refl _)
    have hEL := endL_len Z T Z.length
    have hER := endsL_yes h
    rw [← hE] at hIN hEL hER ⊢
    have HIN := Lib.hid hIN
    have HEL := Lib.hid hEL
    have HER := Lib.hid hER
    clear hIN hEL hER hE
    rcases hv with ⟨hz, -⟩ | ⟨b, off, cap, rfl, hpos, hbl, hcell⟩
    · rw [hz] at n1; simp at n1
    obtain ⟨ao2, cap2, rfl⟩ := hu.long
    have HC := Lib.hid hcell
    clear hcell hu h
    go_enter Try.func32, Try.ntmps32
    go_wp2_with fail
    go_at_call 22; refine (implEnds_is true _ _ Z T _ HV.out HU.out oZ oT H.out).mono ?_; rintro e w1 ⟨v1, rfl, i1, b1⟩
    have B1 := Lib.hid b1
    rw [HER.out] at i1
    have hel := HEL.out
    rcases i1.il with ⟨hz, -⟩ | ⟨b2, off2, cap3, rfl, hpos2, hbl2, hcell2⟩
    · rw [hz] at hel; simp at hel; omega
    rw [hel]
    have HC2 := Lib.hid hcell2
    clear i1 b1 hcell2 hpos2 hel
    go_wp2_with fail
    go_loopg [8, 21] Z.length (fun gk s i wr => ∃ k : Nat, k ≤ Z.length ∧ gk + k = Z.length ∧ i = .int .i64 k ∧ s = .int .i64 (clS Z E k) ∧ ∃ m, wr = w1.drewN m)
    case atStart => exact ⟨0, Nat.zero_le _, by omega, rfl, rfl, 0, rfl⟩
    case round =>
      obtain ⟨k, hk, hgk, rfl, rfl, hwr⟩ := hrel
      have HW := Lib.hid (drewMore hwr)
      have HWR := Lib.hid hwr
      by_cases hlt : k < Z.length
      · have y2 : wr.cell? ⟨b2, off2 + k, none⟩ = some (.int .i64 (E.getD k 0)) := by obtain ⟨m, rfl⟩ := hwr; exact HC2.out k (by rw [HEL.out]; exact hlt)
        have a1 := ((HC.out k hlt).keep B1.out hbl).c1
        have a2 : wr.cell? ⟨b, off + k * 4 + 1, none⟩ = some (.int .i64 (Z.getD k zA).t) := by obtain ⟨m, rfl⟩ := hwr; exact a1
        have hi := HIN.out k
        have hj := J.out.1.ok k hlt
        obtain ⟨r1, r2⟩ := (⟨hj.t1, hj.t2⟩ : 0 ≤ (Z.getD k zA).t ∧ (Z.getD k zA).t ≤ 100000)
        clear a1 hwr hj
        have hw := clS_in (Z := Z) (E := E) k
        have HS : Hid (clS Z E (k + 1) = clS Z E k + if (Z.getD k zA).t < E.getD k 0 then 1 else 0) := Lib.hid rfl
        generalize clS Z E k = s at HS hw
        generalize E.getD k 0 = y at y2 hi HS
        generalize (Z.getD k zA).t = q at a2 r1 r2 HS
        obtain ⟨h1, h2⟩ := hw
        have ws : IntKind.i64.wrap (s + 1) = s + 1 := IntWalk.i64_in _ (by omega)
        by_cases hq : q < y
        · have hd : decide (y > q) = true := by simp; omega
          have HS2 := Lib.hid (HS.out.trans (by rw [if_pos hq]))
          go_wp2_with fail
          go_roundg (gk - 1)
          case measure => omega
          case rel => exact ⟨k + 1, by omega, by omega, by go_num, by rw [HS2.out], HWR.out⟩
        · have hd : decide (y > q) = false := by simp; omega
          have HS2 := Lib.hid (HS.out.trans (by rw [if_neg hq, Int.add_zero]))
          go_wp2_with fail
          go_roundg (gk - 1)
          case measure => omega
          case rel => exact ⟨k + 1, by omega, by omega, by go_num, by rw [HS2.out], HWR.out⟩
      · obtain rfl : k = Z.length := by omega
        clear hwr
        go_wp2_with fail
        go_ret2
        obtain ⟨m, rfl⟩ := HWR.out
        exact saysIB rfl (below_drewN B1.out m)
end Go.Proofs.Ytgiijkbgbpohoaa
