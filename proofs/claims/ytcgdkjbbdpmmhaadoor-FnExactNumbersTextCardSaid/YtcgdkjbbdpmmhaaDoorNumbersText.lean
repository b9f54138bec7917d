/- NumbersText answers as its model, for all arguments; it writes into no argument. -/
import Derived.Test.YtcgdkjbbdpmmhaaDoorNxT
import Derived.Test.YtcgdkjbbdpmmhaaDoorOpF
import Derived.Test.YtcgdkjbbdpmmhaaDoorIl
import Derived.Deep.RegionWith
import Derived.Deep.DeepCutAuto
import Derived.Test.YtcgdkjbbdpmmhaaDoorFrame
import Derived.Outline
import Derived.Test.YtcgdkjbbdpmmhaaDoorFrameP
import Derived.SevenTiedAt
namespace Go.Proofs.YtcgdkjbbdpmmhaaDoor
open Go.ChangeShapes Go.WideShapes Go.ChangeAt Go.RowKit Go.ChangeMaps

theorem eqF32_tells (v u : Value) (Z : List Nat) (w : World) (hn : Z.length ≤ 1048576) (h1 : SL w v Z) (h2 : SL w u Z) : Calls Tryd.prog 17 #[v, u] w (Says true w) :=
  (eqF32_any v u Z w hn h1 h2).mono fun _ _ ⟨h1, h2⟩ => ⟨h1, by obtain ⟨n, rfl⟩ := h2; exact below_drewN (Below.refl _ _) n⟩
set_option maxRecDepth 100000 in
set_option maxHeartbeats 8000000 in
theorem fnExactNumbersText_main (v0 : Value) (A : List Nat) (w : World) (hv0 : SL w v0 A) (hs0 : A.length ≤ 1048576) (hF : Few32 A) (hT : TabZ w) :
    Calls Tryd.prog 4 #[v0] w (Says true w) := by
  have V0 := Lib.hid hv0
  obtain ⟨a0, cap0, rfl⟩ := SL.longN hv0
  clear hv0
  have HTB := Lib.hid hT
  have hl0 : ¬ 1048576 < A.length := by omega
  have CP := Lib.hid (fun W h => toF32_si (.slice a0 A.length cap0) A W h hs0)
  have SP := Lib.hid (fun v W h => specNumbersText_any v A W h hs0 hF)
  have IM := Lib.hid (fun v W h ht => implNumbersText_any v A W h hs0 hF ht)
  have EQ := Lib.hid (fun u v W h1 h2 => eqF32_tells u v A W hs0 h1 h2)
  generalize ntD A = D at *
  generalize ntOk A = t at *
  clear hF hT
  cases t
  all_goals
    go_enter Tryd.func4, Tryd.ntmps4
    go_wp2_with fail
    go_at_call 15; refine (CP.out _ V0.out).mono ?_; rintro e w1 ⟨q0, rfl, i, b⟩
    obtain ⟨q0a, q0c, rfl⟩ := SI.len i
    have F1 := Lib.hid (FI.sl i)
    have H1 := Lib.hid b
    clear i b
    go_wp2_with fail
    go_at_call 14; refine (SP.out _ _ F1.out).mono ?_; rintro e w2 ⟨rfl, b⟩
    have H2 := Lib.hid (H1.out.trans (b.mono H1.out.size))
    clear b F1 H1
    go_wp2_with fail
    go_at_call 15; refine (CP.out _ (SL.below V0.out H2.out (Nat.le_refl _))).mono ?_; rintro e w3 ⟨x0, rfl, i, b⟩
    obtain ⟨x0a, x0c, rfl⟩ := SI.len i
    have F3 := Lib.hid (FI.sl i)
    have H3 := Lib.hid (H2.out.trans (b.mono H2.out.size))
    clear i b H2
    go_wp2_with fail
    go_at_call 16; refine (IM.out _ _ F3.out (HTB.out.below H3.out)).mono ?_; rintro e w4 ⟨rfl, b⟩
    have F4 := Lib.hid (SL.below F3.out b (Nat.le_refl _))
    have H4 := Lib.hid (H3.out.trans (b.mono H3.out.size))
    clear b F3 H3
    go_wp2_with fail
    go_at_call 15; refine (CP.out _ (SL.below V0.out H4.out (Nat.le_refl _))).mono ?_; rintro e w5 ⟨tv, rfl, i, b⟩
    obtain ⟨ta, tc, rfl⟩ := SI.len i
    have F5 := Lib.hid (FI.sl i)
    have G5 := Lib.hid (SL.below F4.out b (Nat.le_refl _))
    have H5 := Lib.hid (H4.out.trans (b.mono H4.out.size))
    clear i b F4 H4
    go_wp2_with fail
    go_at_call 17; refine (EQ.out _ _ _ G5.out F5.out).mono ?_; rintro e w6 ⟨rfl, b⟩
    have H6 := Lib.hid (H5.out.trans (b.mono H5.out.size))
    clear b F5 G5 H5
    go_wp2_with fail
    go_ret
    exact says rfl H6.out
set_option maxRecDepth 100000 in
set_option maxHeartbeats 8000000 in
theorem fnExactNumbersText_all (v0 : Value) (A : List Nat) (w : World) (hv0 : SL w v0 A) (f0 : FitF A) (hT : TabZ w) :
    Calls Tryd.prog 4 #[v0] w (Says true w) := by
  by_cases hl0 : 1048576 < A.length
  · have hx := f0.1
    unfold maxLen at hx
    obtain ⟨a0, cap0, rfl⟩ := SL.longN hv0
    clear hv0
    go_enter Tryd.func4, Tryd.ntmps4
    go_wp2_with fail
    go_ret
    exact says rfl (Below.refl w.heap.size w)
  exact fnExactNumbersText_main v0 A w hv0 (by omega) (fun i hi => by rw [getD_at hi]; exact f0.2 _ (List.getElem_mem hi)) hT

theorem Tryd.own : ownKnob Tryd.prog.godebug = none := by kernel_rfl
theorem Tryd.laidOut : laidOutB Tryd.prog = true := by kernel_rfl
theorem f32_lt {x : Nat} (h : (Lit.float .f32 x).wf = true) : x < 4294967296 := by simpa [Lit.wf] using h
theorem f64_lt {x : Nat} (h : (Lit.float .f64 x).wf = true) : x < 18446744073709551616 := by simpa [Lit.wf] using h
theorem i64_in {x : Int} (h : (Lit.int .i64 x).wf = true) : -9223372036854775808 ≤ x ∧ x ≤ 9223372036854775807 := by
  have h1 : IntKind.i64.min = -9223372036854775808 := by decide
  have h2 : IntKind.i64.max = 9223372036854775807 := by decide
  simp only [Lit.wf, Bool.and_eq_true, decide_eq_true_eq, h1, h2] at h
  exact h

set_option maxRecDepth 100000 in
theorem fnExactNumbersText_lifted (os : Os) (started : os.Started) (H : Type) (enc : TypeId × Value → H) :
    ReturnsInHanded {} Tryd.checked os 4 .any (fun w args => (Rows.fnExactNumbersTextSpec.pre enc Tryd.prog Tryd.f4 [] false w args ∧ laidMetH Tryd.prog laid3 w) ∧ sizedMet enc Tryd.prog Tryd.f4 (OpenSpec.ofChange Rows.fnExactNumbersTextSpec) false w args) (Rows.fnExactNumbersTextSpec.post enc Tryd.prog Tryd.f4 false true false false) := by
  refine Frame.law_lifted_laid (X := fun w => laidMetH Tryd.prog laid3 w) (tb := 4) (fun _ _ hh h => h.of_heap hh) Tryd.own started (by kernel_rfl) Tryd.func4
    (ChangeSpec.witness_shaped (enc := enc) (C := Tryd.checked) (os := os) (X := fun w _ => laidMetH Tryd.prog laid3 w) false (World.doorLaid Tryd.prog 400 os) #[.slice none 0 0] 8 rfl (World.shaped_of_RefB (by kernel_rfl) (by kernel_rfl)) (by kernel_rfl) (by kernel_rfl) (by kernel_rfl) (door3_met os _))
    Tryd.laidOut (by kernel_rfl) rfl (by kernel_rfl) Tryd.underlying4 (fun ds hd => ?_) ?_
  · rw [Tryd.params4] at hd
    match ds, hd with
    | [_], _ => exact ⟨rfl, rfl, rfl⟩
  intro W base args ds p hval0 hA0 hlt hsz0 hX0
  have hT := tabz_of_laid hX0
  have hval : ∀ (j : Nat) t v, Tryd.f4.params[j]? = some t → args[j]? = some v → Value.okWide Tryd.prog W .any base t v := hval0
  have hA : DataW.TrodAll enc Tryd.prog W 0 (fun _ => true) true Tryd.f4.params.toList args.toList ds p := hA0
  have hsz : (DataW.weightsEach Tryd.prog Tryd.f4.params.toList ds).all (· ≤ reachBytes) = true := hsz0
  rw [Tryd.params4] at hA hval hsz
  clear hval0 hA0 hsz0 hX0
  obtain ⟨v0, d0, rfl, rfl, h0⟩ := trodAll_one hA
  obtain ⟨r0, g0, k0⟩ := open_f32s (hval 0 28 v0 rfl rfl) h0
  exact fnExactNumbersText_all v0 r0 W g0 k0 hT

theorem fnExactNumbersText_row : Rows.FnExactNumbersTextSaid :=
  OpenClaim.holds_of_wide 4 Tryd.f4 rfl rfl rfl rfl rfl rfl rfl ⟨rfl, rfl, rfl, rfl, rfl⟩ rfl rfl rfl rfl rfl (by kernel_rfl) Tryd.func4 (by kernel_rfl)
    (of_decide_eq_true (by kernel_rfl)) (by unfold Func.isWrapper; first | (rw [if_pos (by decide +kernel)]; kernel_rfl) | (rw [if_neg (by decide +kernel)]; exact ⟨rfl, rfl⟩))
    (fun os started H enc _ => fnExactNumbersText_lifted os started H enc)

theorem fnExactNumbersText_holds : Rows.FnExactNumbersTextCardSaid :=
  Claim7.holds_tied_plain_at .later [] [.data, .data, .data] true (true, "01f751b03d7642e61d3fb86521ec869908c8625bfd53d49dd3003436e10a58bb") true
    fnExactNumbersText_row (fun _ h => by cases h) (by kernel_rfl) (fun _ h => by cases h) fnExactNumbersText_row_tie rfl ⟨rfl, rfl⟩ (by kernel_rfl) rfl
    (fun f fn hf hfn => by
      obtain rfl : f = 4 := Option.some.inj ((show Tryd.prog.funcNamed "loop.example/g01346/laws.FnExactNumbersText" = some 4 by kernel_rfl).symm.trans hf) |>.symm
      obtain rfl : fn = Tryd.f4 := (Option.some.inj (Tryd.func4.symm.trans hfn)).symm
      exact ⟨by kernel_rfl, fun j t ht => by
        rw [Tryd.params4] at ht
        have hm : t ∈ [28] := by simpa using Array.mem_of_getElem? ht
        have hall : ([28].all fun u => !Tryd.prog.wantsStandIn u) = true := by kernel_rfl
        exact (show Tryd.prog.wantsStandIn t = false by simpa using List.all_eq_true.1 hall t hm)⟩)
    (by kernel_rfl)
end Go.Proofs.YtcgdkjbbdpmmhaaDoor
