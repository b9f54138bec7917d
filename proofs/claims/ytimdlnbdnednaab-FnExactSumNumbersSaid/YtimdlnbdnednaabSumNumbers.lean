/- SumNumbers answers as its model, for every list of numbers; it writes into no argument. -/
import Derived.Test.YtimdlnbdnednaabSums
import Derived.Test.YtimdlnbdnednaabEqF
import Derived.Test.YtimdlnbdnednaabFrame
import Derived.ProofKit
namespace Go.Proofs.Ytimdlnbdnednaab
open Go.ChangeShapes Go.WideShapes Go.ChangeAt Go.RowKit Go.ChangeMaps
attribute [local go_sem] run_add Fl.run_widen

set_option maxHeartbeats 400000 in
theorem implSum_yes (v : Value) (Z : List Nat) (w : World) (hv : SL w v Z) (hn : Z.length ≤ 256) :
    Calls Try.prog 11 #[v] w (Ans32b (sumC Z Z.length) w) := by
  rcases hv with ⟨rfl, ao, cap, rfl⟩ | ⟨b, off, cap, rfl, hpos, hbl, hcell⟩
  · go_enter Try.func11, Try.ntmps11
    go_wp2
    refine wp_loop_rounds 1 ?_
    rw [rounds_succ]
    go_wp2
    refine bodyPost_ret (results_tmp2 rfl _ _ _) rfl ?_
    exact ⟨_, 0, rfl, rfl, cls_zero⟩
  · go_enter Try.func11, Try.ntmps11
    go_wp2
    go_loopw [4, 12] (fun s i wr => ∃ k : Nat, k ≤ Z.length ∧ i = .int .i64 k ∧ SumAt Z k s ∧ ∃ n, wr = w.drewN n) (fun _ i _ => Z.length - (intOf i).toNat)
    case atStart => exact ⟨0, Nat.zero_le _, rfl, ⟨0, rfl, cls_zero⟩, 0, rfl⟩
    case round =>
      obtain ⟨k, hk, rfl, ⟨r, rfl, hr⟩, n, rfl⟩ := hrel
      have HR := Lib.hid hr
      clear hr
      by_cases hlt : k < Z.length
      · have hc1 := hcell k hlt
        have hst := Lib.hid (fun W => sum_step W HR.out)
        have hg := Lib.hid (getD_at hlt)
        clear hcell
        go_wp2
        go_roundw
        case rel => exact ⟨k + 1, by omega, by go_num, by have h := hst.out (w.drewN n); rw [hg.out] at h; exact h, _, rfl⟩
        case measure => simp [intOf]; omega
      · obtain rfl : k = Z.length := by omega
        clear hcell
        go_wp2
        refine bodyPost_ret (results_tmp2 rfl _ _ _) rfl ?_
        exact ⟨_, _, rfl, rfl, HR.out⟩
theorem implSum_no (v : Value) (Z : List Nat) (w : World) (hv : SL w v Z) (hn : 256 < Z.length) :
    Calls Try.prog 11 #[v] w fun e w' => e = .returned (.tuple #[.float .f32 0, .bool false]) ∧ w = w' := by
  rcases hv with ⟨rfl, ao, cap, rfl⟩ | ⟨b, off, cap, rfl, hpos, hbl, hcell⟩
  · exact absurd hn (by simp)
  · clear hcell
    go_enter Try.func11, Try.ntmps11
    go_wp2
    go_ret2
    exact ⟨rfl, rfl⟩
theorem specSum_no (v : Value) (Z : List Nat) (w : World) (hv : SL w v Z) (hn : 256 < Z.length) :
    Calls Try.prog 9 #[v] w fun e w' => e = .returned (.tuple #[.float .f32 0, .bool false]) ∧ w = w' := by
  rcases hv with ⟨rfl, ao, cap, rfl⟩ | ⟨b, off, cap, rfl, hpos, hbl, hcell⟩
  · exact absurd hn (by simp)
  · clear hcell
    have hd : decide ((Z.length : Int) ≤ 256) = false := by simp; omega
    go_enter Try.func9, Try.ntmps9
    go_wp2
    go_ret2
    exact ⟨rfl, rfl⟩

theorem SL.drewN {w : World} {v : Value} {Z : List Nat} (h : SL w v Z) (n : Nat) : SL (w.drewN n) v Z := h
theorem SL.len {w : World} {v : Value} {Z : List Nat} (h : SL w v Z) : ∃ ao cap, v = .slice ao Z.length cap := by
  rcases h with ⟨rfl, ao, cap, rfl⟩ | ⟨b, off, cap, rfl, _⟩
  · exact ⟨ao, cap, rfl⟩
  · exact ⟨_, cap, rfl⟩

set_option maxHeartbeats 400000 in
theorem fnExactSumNumbers_any (v : Value) (Z : List Nat) (w : World) (hv : SL w v Z) (hlen : Z.length ≤ maxLen) :
    Calls Try.prog 4 #[v] w fun e w' => e = .returned (.bool true) ∧ Below w.heap.size w w' := by
  unfold maxLen at hlen
  obtain ⟨ao, cap, rfl⟩ := hv.len
  have HV := Lib.hid hv
  clear hv
  by_cases hbig : 1048576 < Z.length
  · go_enter Try.func4, Try.ntmps4
    go_wp2_with fail
    go_ret
    exact ⟨rfl, Below.refl _ _⟩
  go_enter Try.func4, Try.ntmps4
  go_wp2_with fail
  go_at_call 10; refine (toF32_any _ Z _ HV.out (by omega)).mono ?_; rintro e w1 ⟨v1, rfl, hv1, hb1⟩
  have HV1 := Lib.hid hv1
  have HB1 := Lib.hid hb1
  clear hv1 hb1
  go_wp2_with fail
  by_cases hs : Z.length ≤ 256
  · go_at_call 9; refine (specSum_any _ Z _ HV1.out hs).mono ?_; rintro e w2 ⟨r1, n1, rfl, rfl, hc⟩
    have HC1 := Lib.hid hc
    clear hc
    go_wp2_with fail
    go_at_call 10; refine (toF32_any _ Z _ (HV.out.below (below_drewN HB1.out _) (Nat.le_refl _)) (by omega)).mono ?_; rintro e w3 ⟨v3, rfl, hv3, hb3⟩
    have HV3 := Lib.hid hv3
    have HB3 := Lib.hid ((below_drewN HB1.out n1).trans (hb3.mono (by have := HB1.out.size; simpa using this)))
    clear hv3 hb3
    go_wp2_with fail
    go_at_call 11; refine (implSum_yes _ Z _ HV3.out hs).mono ?_; rintro e w4 ⟨r2, n2, rfl, rfl, hc⟩
    have HC2 := Lib.hid hc
    clear hc
    go_wp2_with fail
    go_at_call 8; refine (same_any _ _ (by rw [Fl.cls_wres, Fl.cls_wres, HC1.out, HC2.out]) _).mono ?_; rintro e w5 ⟨rfl, n5, rfl⟩
    go_wp2_with fail
    go_at_call 10; refine (toF32_any _ Z _ (HV.out.below (below_drewN HB3.out _) (Nat.le_refl _)) (by omega)).mono ?_; rintro e w6 ⟨v6, rfl, hv6, hb6⟩
    have HV6 := Lib.hid hv6
    have HV3' := Lib.hid (SL.below (SL.drewN HV3.out _) hb6 (Nat.le_refl _))
    have HB6 := Lib.hid ((below_drewN HB3.out _).trans (hb6.mono (by have := HB3.out.size; simpa using this)))
    clear hv6 hb6
    go_wp2_with fail
    go_at_call 12; refine (eqF32_any _ _ Z _ (by omega) HV3'.out HV6.out).mono ?_; rintro e w7 ⟨rfl, n7, rfl⟩
    go_wp2_with fail
    go_ret
    exact ⟨rfl, below_drewN HB6.out _⟩
  · have hs' : 256 < Z.length := by omega
    go_at_call 9; refine (specSum_no _ Z _ HV1.out hs').mono ?_; rintro e w2 ⟨rfl, rfl⟩
    go_wp2_with fail
    go_at_call 10; refine (toF32_any _ Z _ (HV.out.below HB1.out (Nat.le_refl _)) (by omega)).mono ?_; rintro e w3 ⟨v3, rfl, hv3, hb3⟩
    have HV3 := Lib.hid hv3
    have HB3 := Lib.hid (HB1.out.trans (hb3.mono HB1.out.size))
    clear hv3 hb3
    go_wp2_with fail
    go_at_call 11; refine (implSum_no _ Z _ HV3.out hs').mono ?_; rintro e w4 ⟨rfl, rfl⟩
    go_wp2_with fail
    go_at_call 8; refine (same_any _ _ (by rw [Fl.cls_wres, Fl.cls_wres]) _).mono ?_; rintro e w5 ⟨rfl, n5, rfl⟩
    go_wp2_with fail
    go_at_call 10; refine (toF32_any _ Z _ (HV.out.below (below_drewN HB3.out _) (Nat.le_refl _)) (by omega)).mono ?_; rintro e w6 ⟨v6, rfl, hv6, hb6⟩
    have HV6 := Lib.hid hv6
    have HV3' := Lib.hid (SL.below (SL.drewN HV3.out _) hb6 (Nat.le_refl _))
    have HB6 := Lib.hid ((below_drewN HB3.out _).trans (hb6.mono (by have := HB3.out.size; simpa using this)))
    clear hv6 hb6
    go_wp2_with fail
    go_at_call 12; refine (eqF32_any _ _ Z _ (by omega) HV3'.out HV6.out).mono ?_; rintro e w7 ⟨rfl, n7, rfl⟩
    go_wp2_with fail
    go_ret
    exact ⟨rfl, below_drewN HB6.out _⟩

theorem Try.own : ownKnob Try.prog.godebug = none := by kernel_rfl
theorem Try.laidOut : laidOutB Try.prog = true := by kernel_rfl
theorem f32_lt {x : Nat} (h : (Lit.float .f32 x).wf = true) : x < 4294967296 := by simpa [Lit.wf] using h
theorem f64_lt {x : Nat} (h : (Lit.float .f64 x).wf = true) : x < 18446744073709551616 := by simpa [Lit.wf] using h
theorem i64_in {x : Int} (h : (Lit.int .i64 x).wf = true) : -9223372036854775808 ≤ x ∧ x ≤ 9223372036854775807 := by
  have h1 : IntKind.i64.min = -9223372036854775808 := by decide
  have h2 : IntKind.i64.max = 9223372036854775807 := by decide
  simp only [Lit.wf, Bool.and_eq_true, decide_eq_true_eq, h1, h2] at h
  exact h

set_option maxRecDepth 100000 in
theorem fnExactSumNumbers_lifted (os : Os) (started : os.Started) (H : Type) (enc : TypeId × Value → H) :
    ReturnsInHanded {} Try.checked os 4 .any (Rows.fnExactSumNumbersSpec.pre6 enc Try.prog Try.f4 [] false) (Rows.fnExactSumNumbersSpec.post enc Try.prog Try.f4 false true false false) := by
  refine Frame.law_lifted (tb := 4) Try.own started (by kernel_rfl) Try.func4
    (ChangeSpec.witness6 (enc := enc) (C := Try.checked) false ⟨#[], #[.slice none 0 0], []⟩ 8 (by kernel_rfl) (by kernel_rfl) (by kernel_rfl) (by kernel_rfl))
    Try.laidOut (by kernel_rfl) rfl (by kernel_rfl) Try.underlying4 (fun ds hd => ?_) ?_
  · rw [Try.params4] at hd
    match ds, hd with
    | [_], _ => exact ⟨rfl, rfl, rfl⟩
  intro W base args ds p hval0 hA0 hlt hsz0
  have hval : ∀ (j : Nat) t v, Try.f4.params[j]? = some t → args[j]? = some v → Value.okWide Try.prog W .any base t v := hval0
  have hA : DataW.TrodAll enc Try.prog W 0 (fun _ => true) true Try.f4.params.toList args.toList ds p := hA0
  have hsz : (DataW.weightsEach Try.prog Try.f4.params.toList ds).all (· ≤ reachBytes) = true := hsz0
  rw [Try.params4] at hA hval hsz
  clear hval0 hA0 hsz0
  obtain ⟨v0, d0, rfl, rfl, h0⟩ := trodAll_one hA
  exact by obtain ⟨Z, hZ, hlen⟩ := open_f32s_len Try.underlying27 Try.underlying22 (by kernel_rfl) (hval 0 27 v0 rfl rfl) h0; exact fnExactSumNumbers_any v0 Z W hZ hlen

theorem fnExactSumNumbers_holds : Rows.FnExactSumNumbersSaid :=
  OpenClaim.holds_of_wide 4 Try.f4 rfl rfl rfl rfl rfl rfl rfl ⟨rfl, rfl, rfl, rfl, rfl⟩ rfl rfl rfl rfl rfl (by kernel_rfl) Try.func4 (by kernel_rfl)
    (of_decide_eq_true (by kernel_rfl)) (by unfold Func.isWrapper; first | (rw [if_pos (by decide +kernel)]; kernel_rfl) | (rw [if_neg (by decide +kernel)]; exact ⟨rfl, rfl⟩))
    (fun os started H enc _ => fnExactSumNumbers_lifted os started H enc)
end Go.Proofs.Ytimdlnbdnednaab
