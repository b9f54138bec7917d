/- Things on two machines: the program. -/
import Derived.Test.YtcnfmphokobgiaaTsO
import Derived.Test.YtcnfmphokobgiaaArF
namespace Go.Proofs.Ytcnfmphokobgiaa
open Go.RowKit Go.ChangeShapes Go.WideShapes

def stgA (n : Nat) : Bool := decide ((1 : Int) ≤ (n : Int)) && decide ((n : Int) ≤ 12)
theorem areStages_is (t : Bool) (v u : Value) (F S : List Int) (w : World) (hv : IL w v F) (hu : IL w u S) (hn : F.length ≤ 1048576) (hm : S.length ≤ 1048576) (ht : stgB F S = t) :
    Calls Try.prog 68 #[v, u] w (Tells t w) := by
  subst ht
  rw [stgB_eq]
  have HV := Lib.hid hv
  have HU := Lib.hid hu
  obtain ⟨a1, k1, rfl⟩ := hv.long
  obtain ⟨a2, k2, rfl⟩ := hu.long
  clear hv hu
  cases h1 : (decide ((1 : Int) ≤ (F.length : Int)) && decide ((F.length : Int) ≤ 12)) with
  | false =>
    have H1 := Lib.hid h1
    clear h1
    go_enter Try.func68, Try.ntmps68
    go_wp2_with fail
    go_at_call 104; refine (isFrom_is false _ _ _ _ H1.out).mono ?_; rintro e w1 ⟨rfl, m1, rfl⟩
    go_wp2_with fail
    go_ret
    exact tells _ rfl
  | true =>
    have H1 := Lib.hid h1
    clear h1
    by_cases h2 : (S.length : Int) = (F.length : Int)
    · rw [decide_eq_true h2]
      cases h3 : allIn F 1 1000 with
      | false =>
        have H3 := Lib.hid h3
        clear h3
        go_enter Try.func68, Try.ntmps68
        go_wp2_with fail
        go_at_call 104; refine (isFrom_is true _ _ _ _ H1.out).mono ?_; rintro e w1 ⟨rfl, m1, rfl⟩
        go_wp2_with fail
        go_at_call 116; refine (areFrom_is false 1 _ F 1000 _ (VL.drewN HV.out _) hn H3.out).mono ?_; rintro e w2 ⟨rfl, m2, rfl⟩
        go_wp2_with fail
        go_ret
        exact tells _ rfl
      | true =>
        have H3 := Lib.hid h3
        clear h3
        cases h4 : allIn S 1 1000 with
        | false =>
          have H4 := Lib.hid h4
          clear h4
          go_enter Try.func68, Try.ntmps68
          go_wp2_with fail
          go_at_call 104; refine (isFrom_is true _ _ _ _ H1.out).mono ?_; rintro e w1 ⟨rfl, m1, rfl⟩
          go_wp2_with fail
          go_at_call 116; refine (areFrom_is true 1 _ F 1000 _ (VL.drewN HV.out _) hn H3.out).mono ?_; rintro e w2 ⟨rfl, m2, rfl⟩
          go_wp2_with fail
          go_at_call 116; refine (areFrom_is false 1 _ S 1000 _ (VL.drewN HU.out _) hm H4.out).mono ?_; rintro e w2 ⟨rfl, m3, rfl⟩
          go_wp2_with fail
          go_ret
          exact tells _ rfl
        | true =>
          have H4 := Lib.hid h4
          clear h4
          go_enter Try.func68, Try.ntmps68
          go_wp2_with fail
          go_at_call 104; refine (isFrom_is true _ _ _ _ H1.out).mono ?_; rintro e w1 ⟨rfl, m1, rfl⟩
          go_wp2_with fail
          go_at_call 116; refine (areFrom_is true 1 _ F 1000 _ (VL.drewN HV.out _) hn H3.out).mono ?_; rintro e w2 ⟨rfl, m2, rfl⟩
          go_wp2_with fail
          go_at_call 116; refine (areFrom_is true 1 _ S 1000 _ (VL.drewN HU.out _) hm H4.out).mono ?_; rintro e w2 ⟨rfl, m3, rfl⟩
          go_wp2_with fail
          go_ret
          exact tells _ rfl
    · rw [decide_eq_false h2]
      go_enter Try.func68, Try.ntmps68
      go_wp2_with fail
      go_at_call 104; refine (isFrom_is true _ _ _ _ H1.out).mono ?_; rintro e w1 ⟨rfl, m1, rfl⟩
      go_wp2_with fail
      go_ret
      exact tells _ rfl
set_option maxRecDepth 100000 in
set_option maxHeartbeats 8000000 in
theorem implTwo_yes (v u : Value) (F S : List Int) (w : World) (hv : IL w v F) (hu : IL w u S) (h : stgB F S = true) :
    Calls Try.prog 28 #[v, u] w (SaysJIB (tsL F S) (tsI F S) true w) := by
  have H := Lib.hid h
  have ok := stgB_ok h
  have OK := Lib.hid ok
  have n1 := ok.n1
  have n2 := ok.n2
  have HL := Lib.hid ok.l
  have HE := Lib.hid (ts_yes h)
  have HV := Lib.hid hv
  have HU := Lib.hid hu
  have htl := ok.l
  rcases hv with ⟨hz, -⟩ | ⟨b, off, cap, rfl, hpos, hbl, hcell⟩
  · rw [hz] at n1; simp at n1
  rcases hu with ⟨hz, -⟩ | ⟨b2, off2, cap2, rfl, hpos2, hbl2, hcell2⟩
  · rw [hz] at htl; simp at htl; omega
  have HC := Lib.hid hcell
  have HC2 := Lib.hid hcell2
  have HOL := Lib.hid (tsO_len F S)
  have HS : Hid (S.length ≤ 1048576) := Lib.hid (by omega)
  rw [htl] at HU ⊢
  clear hcell hcell2 htl h ok hpos2
  go_enter Try.func28, Try.ntmps28
  go_wp2_with fail
  go_at_call 68; refine (areStages_is true _ _ F S _ HV.out HU.out (by omega) HS.out H.out).mono ?_; rintro e w1 ⟨rfl, m1, rfl⟩
  go_wp2_with fail
  go_at_call 69; refine (stageOrder_any _ _ F S _ (VL.drewN HV.out m1) (VL.drewN HU.out m1) OK.out).mono ?_; rintro e w2 ⟨o, rfl, io, b2o⟩
  have B0 := Lib.hid (below_drewN (Below.refl w.heap.size w) m1)
  have BW := Lib.hid (B0.out.trans (b2o.mono B0.out.size))
  have IO := Lib.hid (SI.wide io (lo' := w.heap.size) B0.out.size (Nat.le_refl _) (Nat.le_refl _))
  obtain ⟨_, hz | ⟨b3, off3, cap3, rfl, hpos3, hge3, hbl3, hfr3, hcell3⟩⟩ := io
  · have := congrArg List.length hz.1
    rw [intsN_len, HOL.out, List.length_nil] at this
    omega
  have HC3 := Lib.hid hcell3
  have e3 : (intsN (tsO F S)).length = F.length := by rw [intsN_len, HOL.out]
  rw [e3] at IO ⊢
  have E3 := Lib.hid e3
  clear b2o hcell3 hfr3 hpos3 hge3 e3 B0
  go_wp2_with fail
  go_loopg [8, 9, 21] F.length (fun gk a c i wr => ∃ k : Nat, k ≤ F.length ∧ gk + k = F.length ∧ i = .int .i64 k ∧ a = .int .i64 (tsA F (tsO F S) k) ∧ c = .int .i64 (tsB F S (tsO F S) k) ∧ wr = w2)
  case atStart => exact ⟨0, Nat.zero_le _, by omega, rfl, rfl, rfl, rfl⟩
  case round =>
    obtain ⟨k, hk, hgk, rfl, rfl, rfl, rfl⟩ := hrel
    by_cases hlt : k < F.length
    · have hin := tsO_in (F := F) (S := S) hlt
      have y3 := (show wr.cell? ⟨b3, off3 + k, none⟩ = some (.int .i64 (((tsO F S).getD k 0 : Nat) : Int)) from (HC3.out k (by rw [E3.out]; exact hlt)).trans (by rw [intsN_at (by rw [HOL.out]; exact hlt)]))
      have y1 := (show wr.cell? ⟨b, off + (tsO F S).getD k 0, none⟩ = some (.int .i64 (F.getD ((tsO F S).getD k 0) 0)) from (BW.out.cell (p := ⟨b, off + (tsO F S).getD k 0, none⟩) hbl).trans (HC.out _ hin))
      have y2 := (show wr.cell? ⟨b2, off2 + (tsO F S).getD k 0, none⟩ = some (.int .i64 (S.getD ((tsO F S).getD k 0) 0)) from (BW.out.cell (p := ⟨b2, off2 + (tsO F S).getD k 0, none⟩) hbl2).trans (HC2.out _ (by rw [HL.out]; exact hin)))
      have hA := tsA_in OK.out k hk
      have hBb := tsB_in OK.out k hk
      have hf := OK.out.f _ hin
      have hs := OK.out.s _ hin
      have UA : Hid (tsA F (tsO F S) (k + 1) = tsA F (tsO F S) k + F.getD ((tsO F S).getD k 0) 0) := Lib.hid rfl
      have UB : Hid (tsB F S (tsO F S) (k + 1) = max (tsA F (tsO F S) k + F.getD ((tsO F S).getD k 0) 0) (tsB F S (tsO F S) k) + S.getD ((tsO F S).getD k 0) 0) := Lib.hid rfl
      have lk : (k : Int) < (F.length : Int) := by omega
      have lc : (((tsO F S).getD k 0 : Nat) : Int) < (F.length : Int) := by omega
      generalize tsA F (tsO F S) k = a at hA UA UB
      generalize tsB F S (tsO F S) k = c at hBb UB
      generalize F.getD ((tsO F S).getD k 0) 0 = x at y1 hf UA UB
      generalize S.getD ((tsO F S).getD k 0) 0 = y at y2 hs UB
      generalize (tsO F S).getD k 0 = j at y1 y2 y3 lc hin
      go_wp2_with fail
      all_goals
        go_roundg (gk - 1)
        case measure => omega
        case rel => exact ⟨k + 1, by omega, by omega, by go_num, by rw [UA.out], by rw [UB.out]; all_goals (first | rfl | (congr 1; omega)), rfl⟩
    · obtain rfl : k = F.length := by omega
      go_wp2_with fail
      refine bodyPost_ret (v := .tuple #[.slice (some ⟨b3, off3, none⟩) F.length (F.length + cap3), .int .i64 (tsB F S (tsO F S) F.length), .bool true]) (by simp [results, Try.results28, go_sem]) rfl ?_
      exact ⟨_, by rw [HE.out.2], by rw [HE.out.1]; exact IO.out, BW.out⟩
theorem implTwoStages_any (v : Value) (F : List Int) (u : Value) (S : List Int) (w : World) (hv : IL w v F) (hu : IL w u S) (oF : OKI F) (oS : OKI S) :
    Calls Try.prog 28 #[v, u] w (SaysJIB (tsL F S) (tsI F S) (stgB F S) w) := by
  cases h : stgB F S with
  | true => exact implTwo_yes v u F S w hv hu h
  | false =>
    have HE := Lib.hid (ts_no h)
    have H := Lib.hid h
    have hn := oF.size
    have hm := oS.size
    have HV := Lib.hid hv
    have HU := Lib.hid hu
    obtain ⟨a1, c1, rfl⟩ := hv.long
    obtain ⟨a2, c2, rfl⟩ := hu.long
    clear hv hu h
    go_enter Try.func28, Try.ntmps28
    go_wp2_with fail
    go_at_call 68; refine (areStages_is false _ _ F S _ HV.out HU.out hn hm H.out).mono ?_; rintro e w1 ⟨rfl, m1, rfl⟩
    go_wp2_with fail
    refine bodyPost_ret (v := .tuple #[.slice none 0 0, .int .i64 0, .bool false]) (by simp [results, Try.results28, go_sem]) rfl ?_
    exact ⟨_, by rw [HE.out.2], by rw [HE.out.1]; exact SI.nil _ (Nat.le_refl _) _ _, below_drewN (Below.refl _ _) _⟩
end Go.Proofs.Ytcnfmphokobgiaa
