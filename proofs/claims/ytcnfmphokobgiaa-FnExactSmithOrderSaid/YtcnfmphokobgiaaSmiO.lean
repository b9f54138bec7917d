/- Orders by weights: the program, whole. -/
import Derived.Test.YtcnfmphokobgiaaSmiM
namespace Go.Proofs.Ytcnfmphokobgiaa
open Go.RowKit Go.ChangeShapes Go.WideShapes

set_option maxHeartbeats 1000000 in
theorem stableM_any (v : Value) (Z : List Ac) (n g off cap : Nat) (w : World) (hJ : JobsOk Z) (hn : Z.length = n) (hA : Arr (Value.int .i64) 0 w g off (numL n)) (hAV : ∀ W, Turned g (g + 1) w W → AV W v Z) :
    Calls Try.prog 136 #[.slice (some ⟨g, off, none⟩) n cap, .int .i64 n, .func (.func 58) #[v] #[]] w (PutO g off (ordN (ltQ (lonK Z) (wgtK Z)) n) w) := by
  have H := Lib.hid (insM_any v Z n g off cap w hJ hn hA hAV)
  have h2 : n ≤ 12 := by have := hJ.n2; omega
  have d1 : decide ((20 : Int) ≤ (n : Int)) = false := by simp; omega
  have d2 : decide ((20 : Int) < (n : Int)) = false := by simp; omega
  clear hJ hn hA hAV
  go_enter Try.func136, Try.ntmps136
  go_wp2_with fail
  refine wp_loop_rounds 1 ?_
  rw [rounds_succ]
  go_wp2_with fail
  go_at_call 155; refine (H.out).mono ?_; rintro e w2 ⟨rfl, t, a⟩
  have T := Lib.hid t
  have A := Lib.hid a
  clear t a
  go_wp2_with fail
  refine wp_loop_rounds 1 ?_
  rw [rounds_succ]
  go_wp2_with fail
  refine bodyPost_ret (v := .tuple #[]) (by simp [results, Try.results136, go_sem]) rfl ?_
  exact ⟨rfl, T.out, A.out⟩
theorem sortStableM_any (v : Value) (Z : List Ac) (n g off cap : Nat) (w : World) (hJ : JobsOk Z) (hn : Z.length = n) (hA : Arr (Value.int .i64) 0 w g off (numL n)) (hAV : ∀ W, Turned g (g + 1) w W → AV W v Z) :
    Calls Try.prog 107 #[.slice (some ⟨g, off, none⟩) n cap, .func (.func 58) #[v] #[]] w (PutO g off (ordN (ltQ (lonK Z) (wgtK Z)) n) w) := by
  have H := Lib.hid (stableM_any v Z n g off cap w hJ hn hA hAV)
  clear hJ hn hA hAV
  go_enter Try.func107, Try.ntmps107
  go_wp2_with fail
  go_at_call 136; refine (H.out).mono ?_; rintro e w2 ⟨rfl, t, a⟩
  have T := Lib.hid t
  have A := Lib.hid a
  clear t a
  go_wp2_with fail
  refine bodyPost_ret (v := .tuple #[]) (by simp [results, Try.results107, go_sem]) rfl ?_
  exact ⟨rfl, T.out, A.out⟩
set_option maxHeartbeats 1000000 in
theorem orderByM_any (v : Value) (Z : List Ac) (w : World) (hv : AV w v Z) (hJ : JobsOk Z) :
    Calls Try.prog 53 #[.int .i64 Z.length, .func (.func 58) #[v] #[]] w (Made (Value.int .i64) (0 : Int) (intsN (ordN (ltQ (lonK Z) (wgtK Z)) Z.length)) w) := by
  have HV := Lib.hid hv
  have HJ := Lib.hid hJ
  obtain ⟨n, hn⟩ : ∃ n, Z.length = n := ⟨_, rfl⟩
  have HN := Lib.hid hn
  rw [hn]
  have h1 : 1 ≤ n := by have := hJ.n1; omega
  have h2 : n ≤ 12 := by have := hJ.n2; omega
  clear hv hJ hn
  go_enter Try.func53, Try.ntmps53
  go_wp2_with fail
  go_at_call 106; refine (numbersBelow_any n _ (by omega)).mono ?_; rintro e w1 ⟨v1, rfl, i1, b1⟩
  have B1 := Lib.hid b1
  obtain ⟨hz, h0 | ⟨b, off, c1, rfl, hpos, hlo, hhi, hfz, hcell⟩⟩ := i1
  · have := congrArg List.length h0.1
    rw [numL_len] at this
    simp at this; omega
  have A1 := Lib.hid (show Arr (Value.int .i64) 0 w1 b off (numL n) from ⟨hcell, hfz⟩)
  have HLO := Lib.hid hlo
  have HHI := Lib.hid hhi
  have HAV : Hid (∀ W, Turned b (b + 1) w1 W → AV W v Z) := Lib.hid fun W t => HV.out.below (B1.out.trans ((t.below (Nat.le_of_lt HHI.out)).mono HLO.out)) (Nat.le_refl _)
  rw [numL_len]
  clear b1 hfz hcell hlo hhi hz hpos
  go_wp2_with fail
  go_at_call 107; refine (sortStableM_any v Z n b off _ w1 HJ.out HN.out A1.out HAV.out).mono ?_; rintro e w2 ⟨rfl, t2, a2⟩
  have B2 : Hid (Below w.heap.size w w2) := Lib.hid (B1.out.trans ((t2.below (Nat.le_of_lt HHI.out)).mono HLO.out))
  have HB2 : Hid (b < w2.heap.size) := Lib.hid (Nat.lt_of_lt_of_le HHI.out t2.size)
  have A2 := Lib.hid a2
  clear t2 a2
  go_wp2_with fail
  refine bodyPost_ret (results_tmp rfl _ _ _) rfl ?_
  have hl : (intsN (ordN (ltQ (lonK Z) (wgtK Z)) n)).length = n := by rw [intsN_len, ordN_len]
  exact ⟨_, rfl, ⟨Nat.le_refl _, Or.inr ⟨b, off, c1, by rw [hl]; rfl, by rw [hl]; exact h1, HLO.out, HB2.out, A2.out.free, A2.out.cells⟩⟩, B2.out⟩
set_option maxHeartbeats 2000000 in
theorem implSmithOrder_any (v : Value) (Z : List Ac) (w : World) (hv : AV w v Z) (o : OKA Z) :
    Calls Try.prog 23 #[v] w (SaysJB (smiL Z) (jobsB Z) w) := by
  have hn := o.size
  have HV := Lib.hid hv
  obtain ⟨ao, cap, rfl⟩ := hv.long
  clear hv
  cases h : jobsB Z with
  | false =>
    have H := Lib.hid h
    have HE := Lib.hid (smiL_no h)
    clear h
    go_enter Try.func23, Try.ntmps23
    go_wp2_with fail
    go_at_call 52; refine (areJobs_is false _ Z _ HV.out hn H.out).mono ?_; rintro e w1 ⟨rfl, b1⟩
    have B1 := Lib.hid b1
    clear b1
    go_wp2_with fail
    go_ret2
    exact ⟨_, rfl, by rw [HE.out]; exact SI.nil _ (Nat.le_refl _) _ _, B1.out⟩
  | true =>
    have H := Lib.hid h
    have HE := Lib.hid (smiL_yes h)
    have J := Lib.hid (jobsB_ok h)
    clear h
    go_enter Try.func23, Try.ntmps23
    go_wp2_with fail
    go_at_call 52; refine (areJobs_is true _ Z _ HV.out hn H.out).mono ?_; rintro e w1 ⟨rfl, b1⟩
    have B1 := Lib.hid b1
    clear b1
    go_wp2_with fail
    go_at_call 53; refine (orderByM_any _ Z _ (HV.out.below B1.out (Nat.le_refl _)) J.out).mono ?_; rintro e w3 ⟨v3, rfl, i3, b3⟩
    rw [← HE.out] at i3
    have I3 := Lib.hid (SI.wide i3 (lo' := w.heap.size) B1.out.size (Nat.le_refl _) (Nat.le_refl _))
    have B3 := Lib.hid (B1.out.trans (b3.mono B1.out.size))
    obtain ⟨a3, c3, rfl⟩ := i3.len
    clear i3 b3
    go_wp2_with fail
    go_ret2
    exact ⟨_, rfl, I3.out, B3.out⟩
end Go.Proofs.Ytcnfmphokobgiaa
