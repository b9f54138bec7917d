/- DotNumbers answers as its model, for all two lists of numbers; it writes into no argument. -/
import Derived.Test.YtimdlnbdnednaabDots
import Derived.Test.YtimdlnbdnednaabEqF
import Derived.Test.YtimdlnbdnednaabFrame
import Derived.ProofKit
namespace Go.Proofs.Ytimdlnbdnednaab
open Go.ChangeShapes Go.WideShapes Go.ChangeAt Go.RowKit Go.ChangeMaps
attribute [local go_sem] Fl.run_widen

theorem SL.drewN {w : World} {v : Value} {Z : List Nat} (h : SL w v Z) (n : Nat) : SL (w.drewN n) v Z := h
theorem SL.len {w : World} {v : Value} {Z : List Nat} (h : SL w v Z) : ∃ ao cap, v = .slice ao Z.length cap := by
  rcases h with ⟨rfl, ao, cap, rfl⟩ | ⟨b, off, cap, rfl, _⟩
  · exact ⟨ao, cap, rfl⟩
  · exact ⟨_, cap, rfl⟩
def dotOk (Y Z : List Nat) : Bool := decide (Y.length ≤ 256) && decide (Y.length = Z.length)
/-- What both sides answer. -/
def Dotted (Y Z : List Nat) (w : World) (e : Ending) (w' : World) : Prop :=
  ∃ r n, e = .returned (.tuple #[.float .f32 r, .bool (dotOk Y Z)]) ∧ w' = w.drewN n ∧ Fl.cls .f32 r = bif dotOk Y Z then dotC Y Z Y.length else some 0

theorem dot_yes {Y Z : List Nat} (h1 : Y.length ≤ 256) (h2 : Y.length = Z.length) : dotOk Y Z = true := by unfold dotOk; rw [decide_eq_true h1, decide_eq_true h2]; rfl
theorem dot_no {Y Z : List Nat} (h : ¬ (Y.length ≤ 256 ∧ Y.length = Z.length)) : dotOk Y Z = false := by
  unfold dotOk
  by_cases h1 : Y.length ≤ 256
  · rw [decide_eq_false (fun h2 => h ⟨h1, h2⟩)]; simp
  · rw [decide_eq_false h1]; rfl
theorem l01Dot_any (v u : Value) (Y Z : List Nat) (w : World) (hv : SL w v Y) (hu : SL w u Z) (hn : Y.length ≤ 1048576) (he : Y.length = Z.length) :
    Calls Try.prog 20 #[v, u] w (Ans32 (dotC Y Z Y.length) w) := by
  rcases hv with ⟨rfl, ao, cap, rfl⟩ | ⟨b, off, cap, rfl, hpos, hbl, hcell⟩
  · obtain ⟨ao2, cap2, rfl⟩ := hu.len
    have hz : Z.length = 0 := by rw [← he]; rfl
    rw [hz]
    clear hz hu he
    go_enter Try.func20, Try.ntmps20
    go_wp2
    refine wp_loop_rounds 1 ?_
    rw [rounds_succ]
    go_wp2
    refine bodyPost_ret (results_tmp rfl _ _ _) rfl ?_
    exact ⟨_, 0, rfl, rfl, cls_zero⟩
  · rcases hu with ⟨rfl, ao2, cap2, rfl⟩ | ⟨b2, off2, cap2, rfl, hpos2, hbl2, hcell2⟩
    · rw [he] at hpos; exact absurd hpos (by simp)
    · exact l01Dot_num _ _ _ _ _ _ Y Z w hn he hcell hcell2
theorem specDot_any (v u : Value) (Y Z : List Nat) (w : World) (hv : SL w v Y) (hu : SL w u Z) (hn : Y.length ≤ 1048576) :
    Calls Try.prog 13 #[v, u] w (Dotted Y Z w) := by
  have HV := Lib.hid hv
  have HU := Lib.hid hu
  obtain ⟨ao, cap, rfl⟩ := hv.len
  obtain ⟨ao2, cap2, rfl⟩ := hu.len
  clear hv hu
  by_cases h1 : Y.length ≤ 256
  · by_cases h2 : Y.length = Z.length
    · have H := Lib.hid (dot_yes h1 h2)
      have HE := Lib.hid h2
      have hd : decide ((Y.length : Int) ≤ 256) = true := by simp; omega
      have hne : ((Y.length : Int) != (Z.length : Int)) = false := by simp; omega
      clear h2
      go_enter Try.func13, Try.ntmps13
      go_wp2_with (first | (go_at_call 20; refine (l01Dot_any _ _ Y Z _ HV.out HU.out hn HE.out).mono ?_; rintro e w' ⟨r, n, rfl, rfl, hc⟩; have HC := Lib.hid hc; clear hc) | (go_at_call 18; go_in))
      refine bodyPost_ret (results_tmp2 rfl _ _ _) rfl ?_
      exact ⟨_, _, by rw [H.out]; rfl, rfl, by rw [H.out]; exact Hid.out (by assumption)⟩
    · have H := Lib.hid (dot_no (Y := Y) (Z := Z) (fun h => h2 h.2))
      have hd : decide ((Y.length : Int) ≤ 256) = true := by simp; omega
      have hne : ((Y.length : Int) != (Z.length : Int)) = true := by simp; omega
      clear h2
      go_enter Try.func13, Try.ntmps13
      go_wp2_with (go_at_call 18; go_in)
      refine bodyPost_ret (results_tmp2 rfl _ _ _) rfl ?_
      exact ⟨_, 0, by rw [H.out]; rfl, rfl, by rw [H.out]; exact cls_zero⟩
  · have H := Lib.hid (dot_no (Y := Y) (Z := Z) (fun h => h1 h.1))
    have hd : decide ((Y.length : Int) ≤ 256) = false := by simp; omega
    clear h1
    go_enter Try.func13, Try.ntmps13
    go_wp2_with (go_at_call 18; go_in)
    refine bodyPost_ret (results_tmp2 rfl _ _ _) rfl ?_
    exact ⟨_, 0, by rw [H.out]; rfl, rfl, by rw [H.out]; exact cls_zero⟩
theorem implDot_zero (ao ao2 : Option Addr) (cap cap2 : Nat) (w : World) :
    Calls Try.prog 14 #[.slice ao 0 cap, .slice ao2 0 cap2] w (Ans32b (some 0) w) := by
  go_enter Try.func14, Try.ntmps14
  go_wp2
  refine wp_loop_rounds 1 ?_
  rw [rounds_succ]
  go_wp2
  refine bodyPost_ret (results_tmp2 rfl _ _ _) rfl ?_
  exact ⟨_, 0, rfl, rfl, cls_zero⟩
theorem implDot_any (v u : Value) (Y Z : List Nat) (w : World) (hv : SL w v Y) (hu : SL w u Z) :
    Calls Try.prog 14 #[v, u] w (Dotted Y Z w) := by
  by_cases h1 : Y.length ≤ 256 ∧ Y.length = Z.length
  · have H := dot_yes h1.1 h1.2
    have key : Calls Try.prog 14 #[v, u] w (Ans32b (dotC Y Z Y.length) w) := by
      rcases hv with ⟨rfl, ao, cap, rfl⟩ | ⟨b, off, cap, rfl, hpos, hbl, hcell⟩
      · obtain ⟨ao2, cap2, rfl⟩ := hu.len
        rw [← h1.2]
        exact implDot_zero ao ao2 cap cap2 w
      · rcases hu with ⟨rfl, ao2, cap2, rfl⟩ | ⟨b2, off2, cap2, rfl, hpos2, hbl2, hcell2⟩
        · rw [h1.2] at hpos; exact absurd hpos (by simp)
        · exact implDot_num _ _ _ _ _ _ Y Z w h1.1 h1.2 hcell hcell2
    exact key.mono fun e w' ⟨r, n, he, hw, hc⟩ => ⟨r, n, by rw [H]; exact he, hw, by rw [H]; exact hc⟩
  · have H := Lib.hid (dot_no h1)
    obtain ⟨ao, cap, rfl⟩ := hv.len
    obtain ⟨ao2, cap2, rfl⟩ := hu.len
    clear hv hu
    by_cases h2 : Y.length ≤ 256
    · have h3 : Y.length ≠ Z.length := fun h => h1 ⟨h2, h⟩
      have hne : ((Y.length : Int) != (Z.length : Int)) = true := by simp; omega
      clear h1 h3
      go_enter Try.func14, Try.ntmps14
      go_wp2
      refine bodyPost_ret (results_tmp2 rfl _ _ _) rfl ?_
      exact ⟨_, 0, by rw [H.out]; rfl, rfl, by rw [H.out]; exact cls_zero⟩
    · clear h1
      go_enter Try.func14, Try.ntmps14
      go_wp2
      refine bodyPost_ret (results_tmp2 rfl _ _ _) rfl ?_
      exact ⟨_, 0, by rw [H.out]; rfl, rfl, by rw [H.out]; exact cls_zero⟩

set_option maxHeartbeats 1000000 in
theorem fnExactDotNumbers_any (v u : Value) (Y Z : List Nat) (w : World) (hv : SL w v Y) (hu : SL w u Z) (hY : Y.length ≤ maxLen) (hZ : Z.length ≤ maxLen) :
    Calls Try.prog 5 #[v, u] w fun e w' => e = .returned (.bool true) ∧ Below w.heap.size w w' := by
  unfold maxLen at hY hZ
  obtain ⟨ao, cap, rfl⟩ := hv.len
  obtain ⟨ao2, cap2, rfl⟩ := hu.len
  have HV := Lib.hid hv
  have HU := Lib.hid hu
  clear hv hu
  by_cases hb1 : 1048576 < Y.length
  · go_enter Try.func5, Try.ntmps5
    go_wp2_with fail
    go_ret
    exact ⟨rfl, Below.refl _ _⟩
  by_cases hb2 : 1048576 < Z.length
  · go_enter Try.func5, Try.ntmps5
    go_wp2_with fail
    go_ret
    exact ⟨rfl, Below.refl _ _⟩
  go_enter Try.func5, Try.ntmps5
  go_wp2_with fail
  go_at_call 10; refine (toF32_any _ Y _ HV.out (by omega)).mono ?_; rintro e w1 ⟨v1, rfl, hv1, hb1⟩
  have HV1 := Lib.hid hv1
  have HB1 := Lib.hid hb1
  clear hv1 hb1
  go_wp2_with fail
  go_at_call 10; refine (toF32_any _ Z _ (HU.out.below HB1.out (Nat.le_refl _)) (by omega)).mono ?_; rintro e w2 ⟨v2, rfl, hv2, hb2⟩
  have HV2 := Lib.hid hv2
  have HV1' := Lib.hid (HV1.out.below hb2 (Nat.le_refl _))
  have HB2 := Lib.hid (HB1.out.trans (hb2.mono HB1.out.size))
  clear hv2 hb2
  go_wp2_with fail
  go_at_call 13; refine (specDot_any _ _ Y Z _ HV1'.out HV2.out (by omega)).mono ?_; rintro e w3 ⟨r1, n1, rfl, rfl, hc⟩
  have HC1 := Lib.hid hc
  clear hc
  go_wp2_with fail
  go_at_call 10; refine (toF32_any _ Y _ (HV.out.below (below_drewN HB2.out _) (Nat.le_refl _)) (by omega)).mono ?_; rintro e w4 ⟨v4, rfl, hv4, hb4⟩
  have HV4 := Lib.hid hv4
  have HB4 := Lib.hid ((below_drewN HB2.out n1).trans (hb4.mono (by have := HB2.out.size; simpa using this)))
  clear hv4 hb4
  go_wp2_with fail
  go_at_call 10; refine (toF32_any _ Z _ (HU.out.below HB4.out (Nat.le_refl _)) (by omega)).mono ?_; rintro e w5 ⟨v5, rfl, hv5, hb5⟩
  have HV5 := Lib.hid hv5
  have HV4' := Lib.hid (HV4.out.below hb5 (Nat.le_refl _))
  have HB5 := Lib.hid (HB4.out.trans (hb5.mono HB4.out.size))
  clear hv5 hb5
  go_wp2_with fail
  go_at_call 14; refine (implDot_any _ _ Y Z _ HV4'.out HV5.out).mono ?_; rintro e w6 ⟨r2, n2, rfl, rfl, hc⟩
  have HC2 := Lib.hid hc
  clear hc
  go_wp2_with fail
  go_at_call 8; refine (same_any _ _ (by rw [Fl.cls_wres, Fl.cls_wres, HC1.out, HC2.out]) _).mono ?_; rintro e w7 ⟨rfl, n7, rfl⟩
  go_wp2_with fail
  go_at_call 10; refine (toF32_any _ Y _ (HV.out.below (below_drewN HB5.out _) (Nat.le_refl _)) (by omega)).mono ?_; rintro e w8 ⟨v8, rfl, hv8, hb8⟩
  have HV8 := Lib.hid hv8
  have HV4'' := Lib.hid (SL.below (SL.drewN HV4'.out _) hb8 (Nat.le_refl _))
  have HV5'' := Lib.hid (SL.below (SL.drewN HV5.out _) hb8 (Nat.le_refl _))
  have HB8 := Lib.hid ((below_drewN HB5.out _).trans (hb8.mono (by have := HB5.out.size; simpa using this)))
  clear hv8 hb8
  go_wp2_with fail
  go_at_call 12; refine (eqF32_any _ _ Y _ (by omega) HV4''.out HV8.out).mono ?_; rintro e w9 ⟨rfl, n9, rfl⟩
  go_wp2_with fail
  go_at_call 10; refine (toF32_any _ Z _ (HU.out.below (below_drewN HB8.out _) (Nat.le_refl _)) (by omega)).mono ?_; rintro e w10 ⟨v10, rfl, hv10, hb10⟩
  have HV10 := Lib.hid hv10
  have HV5a := Lib.hid (SL.below (SL.drewN HV5''.out _) hb10 (Nat.le_refl _))
  have HB10 := Lib.hid ((below_drewN HB8.out _).trans (hb10.mono (by have := HB8.out.size; simpa using this)))
  clear hv10 hb10
  go_wp2_with fail
  go_at_call 12; refine (eqF32_any _ _ Z _ (by omega) HV5a.out HV10.out).mono ?_; rintro e w11 ⟨rfl, n11, rfl⟩
  go_wp2_with fail
  go_ret
  exact ⟨rfl, below_drewN HB10.out _⟩

theorem Try.own : ownKnob Try.prog.godebug = none := by kernel_rfl
theorem Try.laidOut : laidOutB Try.prog = true := by kernel_rfl
theorem f32_lt {x : Nat} (h : (Lit.float .f32 x).wf = true) : x < 4294967296 := by simpa [Lit.wf] using h
theorem f64_lt {x : Nat} (h : (Lit.float .f64 x).wf = true) : x < 18446744073709551616 := by simpa [Lit.wf] using h
theorem i64_in {x : Int} (h : (Lit.int .i64 x).wf = true) : -9223372036854775808 ≤ x ∧ x ≤ 9223372036854775807 := by
  have h1 : IntKind.i64.min = -9223372036854775808 := by decide
  have h2 : IntKind.i64.max = 9223372036854775807 := by decide
  simp only [Lit.wf, Bool.and_eq_true, decide_eq_true_eq, h1, h2] at h
  exact h

set_option maxRecDepth 100000 in
theorem fnExactDotNumbers_lifted (os : Os) (started : os.Started) (H : Type) (enc : TypeId × Value → H) :
    ReturnsInHanded {} Try.checked os 5 .any (Rows.fnExactDotNumbersSpec.pre6 enc Try.prog Try.f5 [] false) (Rows.fnExactDotNumbersSpec.post enc Try.prog Try.f5 false true false false) := by
  refine Frame.law_lifted (tb := 4) Try.own started (by kernel_rfl) Try.func5
    (ChangeSpec.witness6 (enc := enc) (C := Try.checked) false ⟨#[], #[.slice none 0 0, .slice none 0 0], []⟩ 8 (by kernel_rfl) (by kernel_rfl) (by kernel_rfl) (by kernel_rfl))
    Try.laidOut (by kernel_rfl) rfl (by kernel_rfl) Try.underlying4 (fun ds hd => ?_) ?_
  · rw [Try.params5] at hd
    match ds, hd with
    | [_, _], _ => exact ⟨rfl, rfl, rfl⟩
  intro W base args ds p hval0 hA0 hlt hsz0
  have hval : ∀ (j : Nat) t v, Try.f5.params[j]? = some t → args[j]? = some v → Value.okWide Try.prog W .any base t v := hval0
  have hA : DataW.TrodAll enc Try.prog W 0 (fun _ => true) true Try.f5.params.toList args.toList ds p := hA0
  have hsz : (DataW.weightsEach Try.prog Try.f5.params.toList ds).all (· ≤ reachBytes) = true := hsz0
  rw [Try.params5] at hA hval hsz
  clear hval0 hA0 hsz0
  obtain ⟨v0, v1, d0, d1, p0, p1, rfl, rfl, rfl, h0, h1⟩ := trodAll_two hA
  exact by obtain ⟨Y, hY, hlY⟩ := open_f32s_len Try.underlying27 Try.underlying22 (by kernel_rfl) (hval 0 27 v0 rfl rfl) h0; obtain ⟨Z, hZ, hlZ⟩ := open_f32s_len Try.underlying27 Try.underlying22 (by kernel_rfl) (hval 1 27 v1 rfl rfl) h1; exact fnExactDotNumbers_any v0 v1 Y Z W hY hZ hlY hlZ

theorem fnExactDotNumbers_holds : Rows.FnExactDotNumbersSaid :=
  OpenClaim.holds_of_wide 5 Try.f5 rfl rfl rfl rfl rfl rfl rfl ⟨rfl, rfl, rfl, rfl, rfl⟩ rfl rfl rfl rfl rfl (by kernel_rfl) Try.func5 (by kernel_rfl)
    (of_decide_eq_true (by kernel_rfl)) (by unfold Func.isWrapper; first | (rw [if_pos (by decide +kernel)]; kernel_rfl) | (rw [if_neg (by decide +kernel)]; exact ⟨rfl, rfl⟩))
    (fun os started H enc _ => fnExactDotNumbers_lifted os started H enc)
end Go.Proofs.Ytimdlnbdnednaab
