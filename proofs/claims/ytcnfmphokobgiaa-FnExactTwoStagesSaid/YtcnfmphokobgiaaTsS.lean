/- Things on two machines: the model. -/
import Derived.Test.YtcnfmphokobgiaaTs0
import Derived.Test.YtcnfmphokobgiaaSzS
import Derived.Test.YtcnfmphokobgiaaOrdS
import Derived.Test.YtcnfmphokobgiaaMax
import Derived.BigRegion
import Derived.Deep.RegionWith
import Derived.Deep.LoopGhost
namespace Go.Proofs.Ytcnfmphokobgiaa
open Go.RowKit Go.ChangeShapes Go.WideShapes

theorem l06Longs_any (v : Value) (L : List Int) (w : World) (hv : IL w v L) (hn : L.length ≤ 1048576) :
    Calls Try.prog 66 #[v] w (Tells (lonB L) w) := by
  have HV := Lib.hid hv
  obtain ⟨ao, cap, rfl⟩ := hv.long
  unfold lonB
  clear hv
  cases h : sizesB L with
  | false =>
    have H := Lib.hid h
    clear h
    go_enter Try.func66, Try.ntmps66
    go_wp2_with fail
    go_at_call 115; refine (l04Sizes_is false _ L _ HV.out hn H.out).mono ?_; rintro e w1 ⟨rfl, n1, rfl⟩
    go_wp2_with fail
    go_ret
    exact tells _ rfl
  | true =>
    have H := Lib.hid h
    clear h
    by_cases h2 : (L.length : Int) ≤ 12
    · rw [decide_eq_true h2]
      go_enter Try.func66, Try.ntmps66
      go_wp2_with fail
      go_at_call 115; refine (l04Sizes_is true _ L _ HV.out hn H.out).mono ?_; rintro e w1 ⟨rfl, n1, rfl⟩
      go_wp2_with fail
      go_ret
      exact tells _ rfl
    · rw [decide_eq_false h2]
      go_enter Try.func66, Try.ntmps66
      go_wp2_with fail
      go_at_call 115; refine (l04Sizes_is true _ L _ HV.out hn H.out).mono ?_; rintro e w1 ⟨rfl, n1, rfl⟩
      go_wp2_with fail
      go_ret
      exact tells _ (decide_eq_false (by omega))
theorem longs_is (t : Bool) (v : Value) (L : List Int) (w : World) (hv : IL w v L) (hn : L.length ≤ 1048576) (h : lonB L = t) :
    Calls Try.prog 66 #[v] w (Tells t w) := by subst h; exact l06Longs_any v L w hv hn
set_option maxRecDepth 100000 in
set_option maxHeartbeats 8000000 in
theorem specTwo_yes (v u : Value) (F S : List Int) (w : World) (hv : IL w v F) (hu : IL w u S) (h : stgB F S = true) :
    Calls Try.prog 26 #[v, u] w (SaysJIB (tsL F S) (tsI F S) true w) := by
  obtain ⟨i0, hi, hz0, hz1, hz2⟩ := info_parts Try.infoI
  have h0 := h
  unfold stgB at h0
  simp only [Bool.and_eq_true, decide_eq_true_eq] at h0
  have H1 := Lib.hid h0.1
  have H2 := Lib.hid h0.2.1
  have ok := stgB_ok h
  have OK := Lib.hid ok
  have n1 := ok.n1
  have n2 := ok.n2
  have HL := Lib.hid ok.l
  have HE := Lib.hid (ts_yes h)
  have HV := Lib.hid hv
  have HU := Lib.hid hu
  have htl := ok.l
  rcases hv with ⟨hz, -⟩ | ⟨b, off, cap, rfl, hpos, hbl, hcell⟩
  · rw [hz] at n1; simp at n1
  rcases hu with ⟨hz, -⟩ | ⟨b2, off2, cap2, rfl, hpos2, hbl2, hcell2⟩
  · rw [hz] at htl; simp at htl; omega
  have HC := Lib.hid hcell
  have HC2 := Lib.hid hcell2
  have HKL := Lib.hid (keyL_order F S)
  have HKN := Lib.hid (keyL_len F S F.length)
  have HOL := Lib.hid (tsO_len F S)
  rw [htl] at HU ⊢
  clear hcell hcell2 htl h h0 ok hpos2
  go_enter Try.func26, Try.ntmps26
  go_wp2_with fail
  go_at_call 66; refine (longs_is true _ F _ HV.out (by omega) H1.out).mono ?_; rintro e w1 ⟨rfl, m1, rfl⟩
  go_wp2_with fail
  go_at_call 66; refine (longs_is true _ S _ (VL.drewN HU.out m1) (by rw [HL.out]; omega) H2.out).mono ?_; rintro e w1 ⟨rfl, m2, rfl⟩
  go_wp2_with fail
  go_loopg [7, 8] F.length (fun gk v i wr => ∃ k : Nat, k ≤ F.length ∧ gk + k = F.length ∧ i = .int .i64 k ∧ Below w.heap.size w wr ∧ Grows (Value.int .i64) 2 w.heap.size v (keyL F S k) wr)
  case atStart => exact ⟨0, Nat.zero_le _, by omega, rfl, (below_drewN (Below.refl w.heap.size w) _).alloc (Nat.le_refl _) _, Grows.empty (Value.int .i64) _ _ (w.drewN _) (Nat.le_refl _)⟩
  case round =>
    obtain ⟨k, hk, hgk, rfl, hB, hG⟩ := hrel
    have HB := Lib.hid hB
    have HG := Lib.hid hG
    have HML := Lib.hid (keyL_len F S k)
    have HUP := Lib.hid (keyL_up F S k)
    have hsz := hB.size
    clear hB hG
    by_cases hlt : k < F.length
    · have x1 := (show wr.cell? ⟨b, off + k, none⟩ = some (.int .i64 (F.getD k 0)) by rw [HB.out.cell (p := ⟨b, off + k, none⟩) hbl]; exact HC.out k hlt)
      have x2 := (show wr.cell? ⟨b2, off2 + k, none⟩ = some (.int .i64 (S.getD k 0)) by rw [HB.out.cell (p := ⟨b2, off2 + k, none⟩) hbl2]; exact HC2.out k (by rw [HL.out]; exact hlt))
      have HSH : Hid (tsKey F S k = if F.getD k 0 ≤ S.getD k 0 then F.getD k 0 else 10000 - S.getD k 0) := Lib.hid rfl
      have hf := OK.out.f k hlt
      have hs := OK.out.s k hlt
      have lk : (k : Int) < (F.length : Int) := by omega
      generalize F.getD k 0 = x at x1 HSH hf
      generalize S.getD k 0 = y at x2 HSH hs
      by_cases hq : x ≤ y
      · have HSH2 := Lib.hid (HSH.out.trans (if_pos hq))
        clear HSH
        go_wp2_with fail
        go_quiet (fail)
        go_wp2_with (at_builtin; refine wpList_append_own _ rfl _ _ 24 rfl w.heap.size 2 i0 (.int .i64 0) 1 8 Try.underlying24 hi hz0 hz1 hz2 rfl (by decide) _ _ _ rfl (Grows.alloc (HG.out.drewN _) _) ⟨wr.heap.size, 0, none⟩ 1 1 [.int .i64 (x)] rfl rfl one_new (by intro u hu; simp at hu; subst hu; rfl) (by rw [HML.out]; unfold maxLen; omega) (by rw [HML.out]; omega) (by simp; omega) ?_)
        intro v' w' hown hgrow _
        have HN2 : Hid (Below w.heap.size w w' ∧ Grows (Value.int .i64) 2 w.heap.size v' (keyL F S (k + 1)) w') := Lib.hid ⟨((below_drewN HB.out _).alloc (by simpa using HB.out.size) _).grown hgrow (by simp; omega) (fun g hg => HG.out.block g hg), by rw [HUP.out, HSH2.out]; exact Grows.more (news := [x]) rfl hown⟩
        clear hown hgrow
        go_wp2_with fail
        go_roundg (gk - 1)
        case measure => omega
        case rel => exact ⟨k + 1, by omega, by omega, by go_num, HN2.out.1, HN2.out.2⟩
      · have HSH2 := Lib.hid (HSH.out.trans (if_neg hq))
        clear HSH
        go_wp2_with fail
        go_quiet (fail)
        go_wp2_with (at_builtin; refine wpList_append_own _ rfl _ _ 24 rfl w.heap.size 2 i0 (.int .i64 0) 1 8 Try.underlying24 hi hz0 hz1 hz2 rfl (by decide) _ _ _ rfl (Grows.alloc (HG.out.drewN _) _) ⟨wr.heap.size, 0, none⟩ 1 1 [.int .i64 (10000 - y)] rfl rfl one_new (by intro u hu; simp at hu; subst hu; rfl) (by rw [HML.out]; unfold maxLen; omega) (by rw [HML.out]; omega) (by simp; omega) ?_)
        intro v' w' hown hgrow _
        have HN2 : Hid (Below w.heap.size w w' ∧ Grows (Value.int .i64) 2 w.heap.size v' (keyL F S (k + 1)) w') := Lib.hid ⟨((below_drewN HB.out _).alloc (by simpa using HB.out.size) _).grown hgrow (by simp; omega) (fun g hg => HG.out.block g hg), by rw [HUP.out, HSH2.out]; exact Grows.more (news := [10000 - y]) rfl hown⟩
        clear hown hgrow
        go_wp2_with fail
        go_roundg (gk - 1)
        case measure => omega
        case rel => exact ⟨k + 1, by omega, by omega, by go_num, HN2.out.1, HN2.out.2⟩
    · obtain rfl : k = F.length := by omega
      have HI := Lib.hid (HG.out.si (d := (0 : Int)))
      clear hsz
      go_wp2_with fail
      go_at_call 61; refine (l06Order_any _ (keyL F S F.length) _ (SI.vl HI.out) (by rw [HKN.out]; omega)).mono ?_; rintro e w2 ⟨o, rfl, io, b2o⟩
      rw [HKL.out] at io
      have BW := Lib.hid (HB.out.trans (b2o.mono HB.out.size))
      have IO := Lib.hid (SI.wide io (lo' := w.heap.size) HB.out.size (Nat.le_refl _) (Nat.le_refl _))
      obtain ⟨_, hz | ⟨b3, off3, cap3, rfl, hpos3, hge3, hbl3, hfr3, hcell3⟩⟩ := io
      · have := congrArg List.length hz.1
        rw [intsN_len, HOL.out, List.length_nil] at this
        omega
      have HC3 := Lib.hid hcell3
      have e3 : (intsN (tsO F S)).length = F.length := by rw [intsN_len, HOL.out]
      rw [e3] at IO ⊢
      have E3 := Lib.hid e3
      clear b2o hcell3 hfr3 hpos3 hge3 e3 HG HI HB HML HUP HKL HKN
      go_wp2_with fail
      go_loopg [10, 11, 12] F.length (fun gk a c i wr => ∃ k : Nat, k ≤ F.length ∧ gk + k = F.length ∧ i = .int .i64 k ∧ a = .int .i64 (tsA F (tsO F S) k) ∧ c = .int .i64 (tsB F S (tsO F S) k) ∧ ∃ m, wr = w2.drewN m)
      case atStart => exact ⟨0, Nat.zero_le _, by omega, rfl, rfl, rfl, 0, rfl⟩
      case round =>
        obtain ⟨k, hk, hgk, rfl, rfl, rfl, hwr⟩ := hrel
        have HW := Lib.hid (drewO hwr)
        have HWB : Hid (Below w.heap.size w wr) := Lib.hid (by obtain ⟨m, rfl⟩ := hwr; exact below_drewN BW.out _)
        have HWI : Hid (II w.heap.size wr.heap.size wr (.slice (some ⟨b3, off3, none⟩) F.length (F.length + cap3)) (intsN (tsO F S))) := Lib.hid (by obtain ⟨m, rfl⟩ := hwr; exact SI.below IO.out (below_drewN (Below.refl _ _) _) (Nat.le_refl _))
        by_cases hlt : k < F.length
        · have hin := tsO_in (F := F) (S := S) hlt
          have y3 : wr.cell? ⟨b3, off3 + k, none⟩ = some (.int .i64 (((tsO F S).getD k 0 : Nat) : Int)) := by obtain ⟨m, rfl⟩ := hwr; exact (HC3.out k (by rw [E3.out]; exact hlt)).trans (by rw [intsN_at (by rw [HOL.out]; exact hlt)])
          have y1 : wr.cell? ⟨b, off + (tsO F S).getD k 0, none⟩ = some (.int .i64 (F.getD ((tsO F S).getD k 0) 0)) := by obtain ⟨m, rfl⟩ := hwr; exact (BW.out.cell (p := ⟨b, off + (tsO F S).getD k 0, none⟩) hbl).trans (HC.out _ hin)
          have y2 : wr.cell? ⟨b2, off2 + (tsO F S).getD k 0, none⟩ = some (.int .i64 (S.getD ((tsO F S).getD k 0) 0)) := by obtain ⟨m, rfl⟩ := hwr; exact (BW.out.cell (p := ⟨b2, off2 + (tsO F S).getD k 0, none⟩) hbl2).trans (HC2.out _ (by rw [HL.out]; exact hin))
          have hA := tsA_in OK.out k hk
          have hBb := tsB_in OK.out k hk
          have hf := OK.out.f _ hin
          have hs := OK.out.s _ hin
          have UA : Hid (tsA F (tsO F S) (k + 1) = tsA F (tsO F S) k + F.getD ((tsO F S).getD k 0) 0) := Lib.hid rfl
          have UB : Hid (tsB F S (tsO F S) (k + 1) = max (tsA F (tsO F S) k + F.getD ((tsO F S).getD k 0) 0) (tsB F S (tsO F S) k) + S.getD ((tsO F S).getD k 0) 0) := Lib.hid rfl
          clear hwr
          have lk : (k : Int) < (F.length : Int) := by omega
          have lc : (((tsO F S).getD k 0 : Nat) : Int) < (F.length : Int) := by omega
          generalize tsA F (tsO F S) k = a at hA UA UB
          generalize tsB F S (tsO F S) k = c at hBb UB
          generalize F.getD ((tsO F S).getD k 0) 0 = x at y1 hf UA UB
          generalize S.getD ((tsO F S).getD k 0) 0 = y at y2 hs UB
          generalize (tsO F S).getD k 0 = j at y1 y2 y3 lc hin
          have w4 : IntKind.i64.wrap (max (a + x) c + y) = max (a + x) c + y := by rw [IntKind.wrap_i64]; omega
          have w5 : IntKind.i64.wrap (a + x) = a + x := by rw [IntKind.wrap_i64]; omega
          go_wp2_with fail
          go_quiet ((go_at_call 67; exact Calls.quiet_of_same ((l00Max_is (a + x) c _).mono fun _ _ ⟨h1, h2⟩ => ⟨h1, h2.symm⟩)))
          go_wp2_with fail
          go_roundg (gk - 1)
          case measure => omega
          case rel => exact ⟨k + 1, by omega, by omega, by go_num, by rw [UA.out], by rw [UB.out], HW.out _⟩
        · obtain rfl : k = F.length := by omega
          clear hwr
          go_wp2_with fail
          refine bodyPost_ret (v := .tuple #[.slice (some ⟨b3, off3, none⟩) F.length (F.length + cap3), .int .i64 (tsB F S (tsO F S) F.length), .bool true]) (by simp [results, Try.results26, go_sem]) rfl ?_
          exact ⟨_, by rw [HE.out.2], by rw [HE.out.1]; exact HWI.out, HWB.out⟩
theorem specTwoStages_any (v : Value) (F : List Int) (u : Value) (S : List Int) (w : World) (hv : IL w v F) (hu : IL w u S) (oF : OKI F) (oS : OKI S) :
    Calls Try.prog 26 #[v, u] w (SaysJIB (tsL F S) (tsI F S) (stgB F S) w) := by
  cases h : stgB F S with
  | true => exact specTwo_yes v u F S w hv hu h
  | false =>
    have HE := Lib.hid (ts_no h)
    have hn := oF.size
    have hm := oS.size
    have HV := Lib.hid hv
    have HU := Lib.hid hu
    obtain ⟨a1, c1, rfl⟩ := hv.long
    obtain ⟨a2, c2, rfl⟩ := hu.long
    clear hv hu
    unfold stgB at h
    cases h1 : lonB F with
    | false =>
      have H1 := Lib.hid h1
      clear h h1
      go_enter Try.func26, Try.ntmps26
      go_wp2_with fail
      go_at_call 66; refine (longs_is false _ F _ HV.out hn H1.out).mono ?_; rintro e w1 ⟨rfl, m1, rfl⟩
      go_wp2_with fail
      refine bodyPost_ret (v := .tuple #[.slice none 0 0, .int .i64 0, .bool false]) (by simp [results, Try.results26, go_sem]) rfl ?_
      exact ⟨_, by rw [HE.out.2], by rw [HE.out.1]; exact SI.nil _ (Nat.le_refl _) _ _, below_drewN (Below.refl _ _) _⟩
    | true =>
      have H1 := Lib.hid h1
      cases h2 : lonB S with
      | false =>
        have H2 := Lib.hid h2
        clear h h1 h2
        go_enter Try.func26, Try.ntmps26
        go_wp2_with fail
        go_at_call 66; refine (longs_is true _ F _ HV.out hn H1.out).mono ?_; rintro e w1 ⟨rfl, m1, rfl⟩
        go_wp2_with fail
        go_at_call 66; refine (longs_is false _ S _ (VL.drewN HU.out m1) hm H2.out).mono ?_; rintro e w1 ⟨rfl, m2, rfl⟩
        go_wp2_with fail
        refine bodyPost_ret (v := .tuple #[.slice none 0 0, .int .i64 0, .bool false]) (by simp [results, Try.results26, go_sem]) rfl ?_
        exact ⟨_, by rw [HE.out.2], by rw [HE.out.1]; exact SI.nil _ (Nat.le_refl _) _ _, below_drewN (Below.refl _ _) _⟩
      | true =>
        have H2 := Lib.hid h2
        rw [h1, h2, Bool.true_and, Bool.true_and] at h
        have h3 : ¬ (F.length : Int) = (S.length : Int) := of_decide_eq_false h
        clear h h1 h2
        go_enter Try.func26, Try.ntmps26
        go_wp2_with fail
        go_at_call 66; refine (longs_is true _ F _ HV.out hn H1.out).mono ?_; rintro e w1 ⟨rfl, m1, rfl⟩
        go_wp2_with fail
        go_at_call 66; refine (longs_is true _ S _ (VL.drewN HU.out m1) hm H2.out).mono ?_; rintro e w1 ⟨rfl, m2, rfl⟩
        go_wp2_with fail
        refine bodyPost_ret (v := .tuple #[.slice none 0 0, .int .i64 0, .bool false]) (by simp [results, Try.results26, go_sem]) rfl ?_
        exact ⟨_, by rw [HE.out.2], by rw [HE.out.1]; exact SI.nil _ (Nat.le_refl _) _ _, below_drewN (Below.refl _ _) _⟩
end Go.Proofs.Ytcnfmphokobgiaa
