/- How late the latest job is: both sides. -/
import Derived.Test.YtgiijkbgbpohoaaEnS
import Derived.Test.YtgiijkbgbpohoaaEnI
import Derived.Test.YtgiijkbgbpohoaaMax
namespace Go.Proofs.Ytgiijkbgbpohoaa
open Go.RowKit Go.ChangeShapes Go.WideShapes

theorem mlI_no {Z : List Ac} {T : List Int} (h : jvalB Z T = false) : mlI Z T = 0 := by unfold mlI; rw [h]; rfl
theorem mlI_yes {Z : List Ac} {T : List Int} (h : jvalB Z T = true) : mlI Z T = mlS Z (endL Z T Z.length) Z.length := by unfold mlI; rw [if_pos h]
set_option maxRecDepth 100000 in
set_option maxHeartbeats 4000000 in
theorem specMostLate_yes (v u : Value) (Z : List Ac) (T : List Int) (w : World) (hv : AV w v Z) (hu : IL w u T) (hn : Z.length ≤ 1048576) (h : jvalB Z T = true) :
    Calls Try.prog 29 #[v, u] w (SaysIB (mlI Z T) true w) := by
  have HV := Lib.hid hv
  have HU := Lib.hid hu
  have H := Lib.hid h
  have hR := mlI_yes h
  have J := Lib.hid (jval_ok h)
  have n1 := J.out.1.n1
  have n2 := J.out.1.n2
  have hIN := endL_in J.out.1 J.out.2 Z.length (Nat.le_refl _)
  have hEL := endL_len Z T Z.length
  obtain ⟨E, hE⟩ : ∃ E, E = endL Z T Z.length := ⟨_, rfl⟩
  rw [← hE] at hR hIN hEL
  have HR := Lib.hid hR
  have HIN := Lib.hid hIN
  have HEL := Lib.hid hEL
  have HEq := Lib.hid hE
  clear hR hIN hEL hE
  rcases hv with ⟨hz, -⟩ | ⟨b, off, cap, rfl, hpos, hbl, hcell⟩
  · rw [hz] at n1; simp at n1
  obtain ⟨ao2, cap2, rfl⟩ := hu.long
  have HC := Lib.hid hcell
  clear hcell hu h
  go_enter Try.func29, Try.ntmps29
  go_wp2_with fail
  go_at_call 57; refine (l06Valid_is true _ _ Z T _ HV.out HU.out hn H.out).mono ?_; rintro e w1 ⟨rfl, b1⟩
  have B1 := Lib.hid b1
  clear b1
  go_wp2_with fail
  go_at_call 58; refine (l06Ends_any _ _ Z T _ (HV.out.below B1.out (Nat.le_refl _)) (HU.out.below B1.out (Nat.le_refl _)) J.out.1 J.out.2).mono ?_; rintro e w2 ⟨B, rfl, hr⟩
  have R := Lib.hid hr
  have B2 : Hid (Below w.heap.size w w2) := Lib.hid (B1.out.trans (hr.below.mono B1.out.size))
  rw [← HEq.out] at R ⊢
  rw [HEL.out]
  clear hr
  have y0 := R.out.cell (i := 0) (by rw [HEL.out]; exact n1)
  have a0 := ((HC.out 0 n1).keep B2.out hbl).c1
  have HONE := Lib.hid (mlS_one J.out.1 HIN.out)
  have hi0 := HIN.out 0
  have hj0 := J.out.1.ok 0 n1
  obtain ⟨g1, g2⟩ := (⟨hj0.t1, hj0.t2⟩ : 0 ≤ (Z.getD 0 zA).t ∧ (Z.getD 0 zA).t ≤ 100000)
  have wd0 : IntKind.i64.wrap (E.getD 0 0 - (Z.getD 0 zA).t) = E.getD 0 0 - (Z.getD 0 zA).t := IntWalk.i64_in _ (by omega)
  clear hj0
  generalize E.getD 0 0 = e0 at y0 HONE hi0 wd0
  generalize (Z.getD 0 zA).t = t0 at a0 HONE g1 g2 wd0
  obtain ⟨p1, p2⟩ := hi0
  go_wp2_with fail
  go_quiet (fail)
  go_wp2_with fail
  go_loopg [7, 8] (Z.length - 1) (fun gk s i wr => ∃ k : Nat, 1 ≤ k ∧ k ≤ Z.length ∧ gk + k = Z.length ∧ i = .int .i64 k ∧ s = .int .i64 (mlS Z E k) ∧ ∃ m, wr = w2.drewN m)
  case atStart => exact ⟨1, Nat.le_refl _, n1, by omega, rfl, by rw [HONE.out], _, rfl⟩
  case round =>
    obtain ⟨k, hk1, hk, hgk, rfl, rfl, hwr⟩ := hrel
    have HW := Lib.hid (drewMore hwr)
    have HWR := Lib.hid hwr
    by_cases hlt : k < Z.length
    · have y1 := R.out.cell (i := k) (by rw [HEL.out]; exact hlt)
      have a1 := ((HC.out k hlt).keep B2.out hbl).c1
      have y2 : wr.cell? ⟨B, k, none⟩ = some (.int .i64 (E.getD k 0)) := by obtain ⟨m, rfl⟩ := hwr; exact y1
      have a2 : wr.cell? ⟨b, off + k * 4 + 1, none⟩ = some (.int .i64 (Z.getD k zA).t) := by obtain ⟨m, rfl⟩ := hwr; exact a1
      have hi := HIN.out k
      have hj := J.out.1.ok k hlt
      obtain ⟨r1, r2⟩ := (⟨hj.t1, hj.t2⟩ : 0 ≤ (Z.getD k zA).t ∧ (Z.getD k zA).t ≤ 100000)
      clear y1 a1 hwr hj
      have hw := mlS_in J.out.1 HIN.out k hk
      have HS : Hid (mlS Z E (k + 1) = max (mlS Z E k) (E.getD k 0 - (Z.getD k zA).t)) := Lib.hid rfl
      have hlo : -9223372036854775808 ≤ mlS Z E k := by rcases hw.1 with e | e
                                                        · rw [e]; exact Int.le_refl _
                                                        · omega
      generalize mlS Z E k = s at HS hw hlo
      generalize E.getD k 0 = y at y2 hi HS
      generalize (Z.getD k zA).t = q at a2 r1 r2 HS
      obtain ⟨-, hw2⟩ := hw
      have wd : IntKind.i64.wrap (y - q) = y - q := IntWalk.i64_in _ (by omega)
      obtain ⟨h1, h2⟩ := hi
      go_wp2_with fail
      go_quiet ((go_at_call 60; exact Calls.quiet_of_same ((l00Max_is s (y - q) _).mono fun _ _ ⟨h1, h2⟩ => ⟨h1, h2.symm⟩)))
      go_wp2_with fail
      go_roundg (gk - 1)
      case measure => omega
      case rel => exact ⟨k + 1, by omega, by omega, by omega, by go_num, by rw [HS.out], HW.out _⟩
    · obtain rfl : k = Z.length := by omega
      clear hwr
      go_wp2_with fail
      go_ret2
      obtain ⟨m, rfl⟩ := HWR.out
      exact saysIB HR.out.symm (below_drewN B2.out m)
set_option maxHeartbeats 1000000 in
theorem specMostLate_any (v : Value) (Z : List Ac) (u : Value) (T : List Int) (w : World) (hv : AV w v Z) (hu : IL w u T) (oZ : OKA Z) (_ : OKI T) :
    Calls Try.prog 29 #[v, u] w (SaysIB (mlI Z T) (jvalB Z T) w) := by
  have hn := oZ.size
  cases h : jvalB Z T with
  | true => exact specMostLate_yes v u Z T w hv hu hn h
  | false =>
    rw [mlI_no h]
    have HV := Lib.hid hv
    have HU := Lib.hid hu
    obtain ⟨ao, cap, rfl⟩ := hv.long
    obtain ⟨ao2, cap2, rfl⟩ := hu.long
    have H := Lib.hid h
    clear hv hu h
    go_enter Try.func29, Try.ntmps29
    go_wp2_with fail
    go_at_call 57; refine (l06Valid_is false _ _ Z T _ HV.out HU.out hn H.out).mono ?_; rintro e w1 ⟨rfl, b1⟩
    have B1 := Lib.hid b1
    clear b1
    go_wp2_with fail
    go_ret2
    exact saysIB rfl B1.out
set_option maxRecDepth 100000 in
set_option maxHeartbeats 4000000 in
theorem implMostLate_any (v : Value) (Z : List Ac) (u : Value) (T : List Int) (w : World) (hv : AV w v Z) (hu : IL w u T) (oZ : OKA Z) (oT : OKI T) :
    Calls Try.prog 30 #[v, u] w (SaysIB (mlI Z T) (jvalB Z T) w) := by
  have HV := Lib.hid hv
  have HU := Lib.hid hu
  cases h : jvalB Z T with
  | false =>
    rw [mlI_no h]
    obtain ⟨ao, cap, rfl⟩ := hv.long
    obtain ⟨ao2, cap2, rfl⟩ := hu.long
    have H := Lib.hid h
    clear hv hu h
    go_enter Try.func30, Try.ntmps30
    go_wp2_with fail
    go_at_call 22; refine (implEnds_is false _ _ Z T _ HV.out HU.out oZ oT H.out).mono ?_; rintro e w1 ⟨v1, rfl, i1, b1⟩
    have B1 := Lib.hid b1
    clear i1 b1
    go_wp2_with fail
    go_ret2
    exact saysIB rfl B1.out
  | true =>
    rw [mlI_yes h]
    have H := Lib.hid h
    have J := Lib.hid (jval_ok h)
    have n1 := J.out.1.n1
    have n2 := J.out.1.n2
    obtain ⟨E, hE⟩ : ∃ E, E = endL Z T Z.length := ⟨_, rfl⟩
    have hIN := endL_in J.out.1 J.out.2 Z.length (Nat.le_refl _)
    have hEL := endL_len Z T Z.length
    have hER := endsL_yes h
    rw [← hE] at hIN hEL hER ⊢
    have HIN := Lib.hid hIN
    have HEL := Lib.hid hEL
    have HER := Lib.hid hER
    clear hIN hEL hER hE
    rcases hv with ⟨hz, -⟩ | ⟨b, off, cap, rfl, hpos, hbl, hcell⟩
    · rw [hz] at n1; simp at n1
    obtain ⟨ao2, cap2, rfl⟩ := hu.long
    have HC := Lib.hid hcell
    clear hcell hu h
    go_enter Try.func30, Try.ntmps30
    go_wp2_with fail
    go_at_call 22; refine (implEnds_is true _ _ Z T _ HV.out HU.out oZ oT H.out).mono ?_; rintro e w1 ⟨v1, rfl, i1, b1⟩
    have B1 := Lib.hid b1
    rw [HER.out] at i1
    have hel := HEL.out
    rcases i1.il with ⟨hz, -⟩ | ⟨b2, off2, cap3, rfl, hpos2, hbl2, hcell2⟩
    · rw [hz] at hel; simp at hel; omega
    rw [hel]
    have HC2 := Lib.hid hcell2
    clear i1 b1 hcell2 hpos2 hel
    go_wp2_with fail
    go_loopg [8, 21] Z.length (fun gk s i wr => ∃ k : Nat, k ≤ Z.length ∧ gk + k = Z.length ∧ i = .int .i64 k ∧ s = .int .i64 (mlS Z E k) ∧ ∃ m, wr = w1.drewN m)
    case atStart => exact ⟨0, Nat.zero_le _, by omega, rfl, rfl, 0, rfl⟩
    case round =>
      obtain ⟨k, hk, hgk, rfl, rfl, hwr⟩ := hrel
      have HW := Lib.hid (drewMore hwr)
      have HWR := Lib.hid hwr
      by_cases hlt : k < Z.length
      · have y2 : wr.cell? ⟨b2, off2 + k, none⟩ = some (.int .i64 (E.getD k 0)) := by obtain ⟨m, rfl⟩ := hwr; exact HC2.out k (by rw [HEL.out]; exact hlt)
        have a1 := ((HC.out k hlt).keep B1.out hbl).c1
        have a2 : wr.cell? ⟨b, off + k * 4 + 1, none⟩ = some (.int .i64 (Z.getD k zA).t) := by obtain ⟨m, rfl⟩ := hwr; exact a1
        have hi := HIN.out k
        have hj := J.out.1.ok k hlt
        obtain ⟨r1, r2⟩ := (⟨hj.t1, hj.t2⟩ : 0 ≤ (Z.getD k zA).t ∧ (Z.getD k zA).t ≤ 100000)
        clear a1 hwr hj
        have hw := mlS_in J.out.1 HIN.out k hk
        have HS : Hid (mlS Z E (k + 1) = max (mlS Z E k) (E.getD k 0 - (Z.getD k zA).t)) := Lib.hid rfl
        have hlo : -9223372036854775808 ≤ mlS Z E k := by rcases hw.1 with e | e
                                                          · rw [e]; exact Int.le_refl _
                                                          · omega
        generalize mlS Z E k = s at HS hw hlo
        generalize E.getD k 0 = y at y2 hi HS
        generalize (Z.getD k zA).t = q at a2 r1 r2 HS
        obtain ⟨-, hw2⟩ := hw
        have wd : IntKind.i64.wrap (y - q) = y - q := IntWalk.i64_in _ (by omega)
        obtain ⟨h1, h2⟩ := hi
        go_wp2_with fail
        all_goals
          go_roundg (gk - 1)
          case measure => omega
          case rel => exact ⟨k + 1, by omega, by omega, by go_num, by rw [HS.out] <;> congr 1 <;> omega, HWR.out⟩
      · obtain rfl : k = Z.length := by omega
        clear hwr
        go_wp2_with fail
        go_ret2
        obtain ⟨m, rfl⟩ := HWR.out
        exact saysIB rfl (below_drewN B1.out m)
end Go.Proofs.Ytgiijkbgbpohoaa
