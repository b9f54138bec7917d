/- When jobs end in an order: the program. -/
import Derived.Test.YtgiijkbgbpohoaaJbI
import Derived.Test.YtgiijkbgbpohoaaOrd
import Derived.Test.YtgiijkbgbpohoaaRowA
namespace Go.Proofs.Ytgiijkbgbpohoaa
open Go.RowKit Go.ChangeShapes Go.WideShapes

set_option maxHeartbeats 1000000 in
theorem implEnds_no1 (v u : Value) (Z : List Ac) (T : List Int) (w : World) (hv : AV w v Z) (hu : IL w u T) (hn : Z.length ≤ 1048576) (h : jobsB Z = false) :
    Calls Try.prog 22 #[v, u] w (SaysJB [] false w) := by
  have HV := Lib.hid hv
  obtain ⟨ao, cap, rfl⟩ := hv.long
  obtain ⟨ao2, cap2, rfl⟩ := hu.long
  have H := Lib.hid h
  clear hv hu h
  go_enter Try.func22, Try.ntmps22
  go_wp2_with fail
  go_at_call 18; refine (areJobs_is false _ Z _ HV.out hn H.out).mono ?_; rintro e w1 ⟨rfl, b1⟩
  have B1 := Lib.hid b1
  clear b1
  go_wp2_with fail
  go_ret2
  exact ⟨_, rfl, SI.nil _ (Nat.le_refl _) _ _, B1.out⟩
set_option maxHeartbeats 1000000 in
theorem implEnds_no2 (v u : Value) (Z : List Ac) (T : List Int) (w : World) (hv : AV w v Z) (hu : IL w u T) (hn : Z.length ≤ 1048576) (hm : T.length ≤ 1048576) (h : jobsB Z = true) (h2 : tourB T Z.length = false) :
    Calls Try.prog 22 #[v, u] w (SaysJB [] false w) := by
  have HV := Lib.hid hv
  have HU := Lib.hid hu
  obtain ⟨ao, cap, rfl⟩ := hv.long
  obtain ⟨ao2, cap2, rfl⟩ := hu.long
  have H := Lib.hid h
  have H2 := Lib.hid h2
  have J := Lib.hid (jobsB_ok h)
  clear hv hu h h2
  go_enter Try.func22, Try.ntmps22
  go_wp2_with fail
  go_at_call 18; refine (areJobs_is true _ Z _ HV.out hn H.out).mono ?_; rintro e w1 ⟨rfl, b1⟩
  have B1 := Lib.hid b1
  clear b1
  go_wp2_with fail
  go_at_call 59; refine (isOrder_is false Z.length _ T _ (HU.out.below B1.out (Nat.le_refl _)) hm J.out.n1 (by have := J.out.n2; omega) H2.out).mono ?_; rintro e w2 ⟨rfl, b2⟩
  have B2 := Lib.hid (B1.out.trans (b2.mono B1.out.size))
  clear b2
  go_wp2_with fail
  go_ret2
  exact ⟨_, rfl, SI.nil _ (Nat.le_refl _) _ _, B2.out⟩
set_option maxRecDepth 100000 in
set_option maxHeartbeats 4000000 in
theorem implEnds_yes (v u : Value) (Z : List Ac) (T : List Int) (w : World) (hv : AV w v Z) (hu : IL w u T) (hn : Z.length ≤ 1048576) (hm : T.length ≤ 1048576) (h : jobsB Z = true) (h2 : tourB T Z.length = true) :
    Calls Try.prog 22 #[v, u] w (SaysJB (endL Z T Z.length) true w) := by
  obtain ⟨i0, hi, hz0, hz1, hz2⟩ := info_parts Try.infoI
  have HV := Lib.hid hv
  have HU := Lib.hid hu
  have H := Lib.hid h
  have H2 := Lib.hid h2
  have HJ := Lib.hid (jobsB_ok h)
  have HT := Lib.hid (tourB_ok h2)
  have n1 := HJ.out.n1
  have n2 := HJ.out.n2
  have htl := HT.out.len
  rcases hv with ⟨hz, -⟩ | ⟨b, off, cap, rfl, hpos, hbl, hcell⟩
  · rw [hz] at n1; simp at n1
  rcases hu with ⟨hz, -⟩ | ⟨b2, off2, cap2, rfl, hpos2, hbl2, hcell2⟩
  · rw [hz] at htl; simp at htl; omega
  have HC := Lib.hid hcell
  have HC2 := Lib.hid hcell2
  have HL := Lib.hid htl
  rw [htl] at HU ⊢
  have HEL := Lib.hid (endL_len Z T)
  clear hcell hcell2 htl h h2 hpos2
  go_enter Try.func22, Try.ntmps22
  go_wp2_with fail
  go_at_call 18; refine (areJobs_is true _ Z _ HV.out hn H.out).mono ?_; rintro e w1 ⟨rfl, b1⟩
  have B1 := Lib.hid b1
  clear b1
  go_wp2_with fail
  go_at_call 59; refine (isOrder_is true Z.length _ T _ (HU.out.below B1.out (Nat.le_refl _)) hm n1 (by omega) H2.out).mono ?_; rintro e w2 ⟨rfl, b2⟩
  have B2 := Lib.hid (B1.out.trans (b2.mono B1.out.size))
  clear b2
  go_wp2_with (at_make; refine wpList_make_full _ rfl _ _ 29 rfl w2.heap.size 2 i0 (.int .i64 0) 1 Try.underlying29 hi hz0 hz1 _ _ _ _ Z.length rfl rfl rfl rfl (by rw [hz2]; omega) (by unfold maxLen; omega) (Nat.le_refl _) ?_; intro w3 hown hgrow; have bm := (Below.refl w2.heap.size w2).grown hgrow (Nat.le_refl _) (fun g hg => by cases hg); have hA := Lib.hid (show RowAt w w2.heap.size (endL Z T 0) w3 from ⟨B2.out.trans (bm.mono B2.out.size), (hown.lt _ rfl).2, B2.out.size, Arr.made_i hown⟩); clear hown hgrow bm)
  go_loopg [7, 25] Z.length (fun gk at_ i wr => ∃ k : Nat, k ≤ Z.length ∧ gk + k = Z.length ∧ i = .int .i64 k ∧ at_ = .int .i64 (lnS Z T k) ∧ RowAt w w2.heap.size (endL Z T k) wr)
  case atStart => exact ⟨0, Nat.zero_le _, by omega, rfl, rfl, hA.out⟩
  case round =>
    clear hA
    obtain ⟨k, hk, hgk, rfl, rfl, hat⟩ := hrel
    have HA := Lib.hid hat
    clear hat
    by_cases hlt : k < Z.length
    · have x1 := (show wr.cell? ⟨b2, off2 + k, none⟩ = some (.int .i64 (T.getD k 0)) by rw [HA.out.below.cell (p := ⟨b2, off2 + k, none⟩) hbl2]; exact HC2.out k (by rw [HL.out]; exact hlt))
      obtain ⟨he, hc⟩ := HT.out.inn k hlt
      rw [he] at x1
      have a1 := ((HC.out (tN T k) hc).keep HA.out.below hbl).c0
      have hf := HJ.out.ok _ hc
      have f1 := hf.f1
      have f2 := hf.f2
      obtain ⟨l1, l2⟩ := lnS_in HJ.out HT.out k (Nat.le_of_lt hlt)
      have HS : Hid (lnS Z T (k + 1) = lnS Z T k + (Z.getD (tN T k) zA).f) := Lib.hid rfl
      have HE : Hid ((endL Z T k).set (tN T k) (lnS Z T (k + 1)) = endL Z T (k + 1)) := Lib.hid rfl
      obtain ⟨y, hy⟩ := HA.out.arr.cell (i := tN T k) (by rw [HEL.out]; exact hc)
      rw [Nat.zero_add] at hy
      have hfr := HA.out.arr.free (tN T k)
      have HLT : Hid (tN T k < (endL Z T k).length) := Lib.hid (by rw [HEL.out]; exact hc)
      have lc : (tN T k : Int) < (Z.length : Int) := by omega
      clear he hf
      generalize (Z.getD (tN T k) zA).f = q at a1 HS f1 f2
      generalize lnS Z T k = s at HS l1 l2
      generalize tN T k = c at x1 a1 HE hy hfr HLT lc hc
      go_wp2_with fail
      go_roundg (gk - 1)
      case measure => omega
      case rel => exact ⟨k + 1, by omega, by omega, by go_num, by rw [HS.out], by rw [← HE.out, HS.out]; exact HA.out.set HLT.out _⟩
    · obtain rfl : k = Z.length := by omega
      go_wp2_with fail
      go_ret2
      exact ⟨_, rfl, by have h := HA.out.arr.si HA.out.ge HA.out.lt; rw [HEL.out] at h; exact h, HA.out.below⟩
theorem implEndsOf_any (v : Value) (Z : List Ac) (u : Value) (T : List Int) (w : World) (hv : AV w v Z) (hu : IL w u T) (oZ : OKA Z) (oT : OKI T) :
    Calls Try.prog 22 #[v, u] w (SaysJB (endsL Z T) (jvalB Z T) w) := by
  unfold endsL jvalB
  cases h : jobsB Z with
  | false => exact implEnds_no1 v u Z T w hv hu oZ.size h
  | true =>
    cases h2 : tourB T Z.length with
    | false => exact implEnds_no2 v u Z T w hv hu oZ.size oT.size h h2
    | true => exact implEnds_yes v u Z T w hv hu oZ.size oT.size h h2
theorem implEnds_is (t : Bool) (v u : Value) (Z : List Ac) (T : List Int) (w : World) (hv : AV w v Z) (hu : IL w u T) (oZ : OKA Z) (oT : OKI T) (ht : jvalB Z T = t) :
    Calls Try.prog 22 #[v, u] w (SaysJB (endsL Z T) t w) := by subst ht; exact implEndsOf_any v Z u T w hv hu oZ oT
end Go.Proofs.Ytgiijkbgbpohoaa
