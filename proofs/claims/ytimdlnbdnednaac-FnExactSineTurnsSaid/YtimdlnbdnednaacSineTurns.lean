/- SineTurns answers as its model, for every number. -/
import Derived.Test.YtimdlnbdnednaacTurns
import Derived.Test.YtimdlnbdnednaacFrame
import Derived.ProofKit
namespace Go.Proofs.Ytimdlnbdnednaac
open Go.ChangeShapes Go.WideShapes Go.ChangeAt Go.RowKit Go.ChangeMaps
attribute [local go_sem] Fl.run_widen Fl.run_narrow call_f64from

def Ans32 (C : Option Nat) (w : World) (e : Ending) (w' : World) : Prop := ∃ r n, e = .returned (.float .f32 r) ∧ w' = w.drewN n ∧ Fl.cls .f32 r = C
theorem not_wide {x : Nat} (h : ¬ Fl.Fin Ieee.single x) (w : World) : ¬ Fl.Fin Ieee.double (Fl.wres w x) := by
  intro hf
  rcases Fl.read_cases Fl.single_ok x with h1 | h1 | h1
  · exact h h1
  · have e : Fl.wres w x = Ieee.double.write (.infinity (Fl.sg Ieee.single x)) := by unfold Fl.wres; rw [h1]; rfl
    rw [e] at hf
    have h2 := Fl.fin_inf hf
    have h3 : Ieee.double.read (Ieee.double.write (.infinity (Fl.sg Ieee.single x))) = .infinity (Fl.sg Ieee.single x) := by cases Fl.sg Ieee.single x <;> decide
    rw [h3] at h2; cases h2
  · have hc := Fl.cls_wres w x
    rw [Fl.cls_none (k := .f32) h1] at hc
    have h2 := Fl.fin_nan hf
    rw [Fl.cls_some (k := .f64) h2] at hc; cases hc
theorem fin64_not {y : Nat} (h : ¬ Fl.Fin Ieee.double y) : fin64 y = false := by
  unfold fin64; unfold Fl.Fin at h; rw [Fl.double_inf] at h; simpa using h
theorem fin64_yes {y : Nat} (h : Fl.Fin Ieee.double y) : fin64 y = true := by
  unfold fin64; unfold Fl.Fin at h; rw [Fl.double_inf] at h; simpa using h
theorem wide_one {x : Nat} (h : Fl.Fin Ieee.single x) : (∀ w, Fl.wres w x = Ieee.double.write (Ieee.single.read x)) ∧ Fl.wdr x = 0 := by
  have hn := Fl.fin_nan h
  refine ⟨fun w => ?_, ?_⟩
  · unfold Fl.wres; rw [hn]; rfl
  · unfold Fl.wdr; rw [hn]; rfl
theorem nres_zero (w : World) : Fl.cls .f32 (Fl.nres w 0) = some 0 := by
  rw [Fl.cls_nres w (by decide +kernel), show Fl.cls .f64 0 = some 0 by decide]; decide +kernel
theorem nres_nan (w : World) {r : Nat} (h : Fl.cls .f64 r = none) : Fl.cls .f32 (Fl.nres w r) = none := by
  rw [Fl.cls_nres w (ovf_nan h), h]; rfl
theorem nres_pc (w : World) {r : Nat} {C : Option Nat} {j : Nat} (h : Fl.cls .f64 r = C) (hp : PC C j) (hj : j ≤ 100) : Fl.cls .f32 (Fl.nres w r) = Fl.narrowC C := by
  rw [Fl.cls_nres w (ovf_pc h hp hj), h]

/-- What both sides answer: of a number that is not finite; of whole turns; of others. -/
theorem specSine_nan (x : Nat) (h : ¬ Fl.Fin Ieee.single x) (w : World) : Calls Try.prog 48 #[.float .f32 x] w (Ans32 none w) := by
  have H := Lib.hid (fun W => not_wide h W)
  clear h
  go_enter Try.func48, Try.ntmps48
  go_wp2_with (first | (go_at_call 62; refine (l01SineWide_nan _ (H.out _) _).mono ?_; rintro e w' ⟨r, n, rfl, rfl, hc⟩; have HC := Lib.hid hc; clear hc) | (go_at_call 63; go_in))
  refine bodyPost_ret (results_tmp rfl _ _ _) rfl ?_
  exact ⟨_, _, rfl, rfl, nres_nan _ (Hid.out (by assumption))⟩
theorem specSine_whole (x : Nat) (h : Fl.Fin Ieee.single x) (hw : whole (Ieee.double.write (Ieee.single.read x)) = true) (w : World) : Calls Try.prog 48 #[.float .f32 x] w (Ans32 (some 0) w) := by
  obtain ⟨h1, h2⟩ := wide_one h
  have H := Lib.hid (Fl.wide_fin h).1
  have HW := Lib.hid hw
  clear h hw
  go_enter Try.func48, Try.ntmps48
  go_wp2_with (first | (go_at_call 62; refine (l01SineWide_whole _ H.out HW.out _).mono ?_; rintro e w' ⟨rfl, n, rfl⟩) | (go_at_call 63; go_in))
  refine bodyPost_ret (results_tmp rfl _ _ _) rfl ?_
  exact ⟨_, _, rfl, rfl, nres_zero _⟩
theorem specSine_part (x : Nat) (h : Fl.Fin Ieee.single x) (hw : whole (Ieee.double.write (Ieee.single.read x)) = false) (w : World) : Calls Try.prog 48 #[.float .f32 x] w (Ans32 (Fl.narrowC (sineC (Ieee.double.write (Ieee.single.read x)))) w) := by
  obtain ⟨h1, h2⟩ := wide_one h
  have H := Lib.hid (small_of (Fl.wide_fin h).1 hw)
  have HP := Lib.hid (sineC_pc (partC_of_small (Fl.wide_fin h).1 hw))
  clear h hw
  go_enter Try.func48, Try.ntmps48
  go_wp2_with (first | (go_at_call 62; refine (l01SineWide_any _ H.out _).mono ?_; rintro e w' ⟨r, n, rfl, rfl, hc⟩; have HC := Lib.hid hc; clear hc) | (go_at_call 63; go_in))
  refine bodyPost_ret (results_tmp rfl _ _ _) rfl ?_
  exact ⟨_, _, rfl, rfl, nres_pc _ (Hid.out (by assumption)) HP.out (by decide)⟩
theorem implFinite_any (x : Nat) (w : World) : Calls Try.prog 45 #[.float .f32 x] w fun e w' => e = .returned (.bool (fin64 (Fl.wres w x))) ∧ ∃ n, w' = w.drewN n := by
  go_enter Try.func45, Try.ntmps45
  go_wp2_with (go_at_call 37; refine (isFinite64_any _ (wres_lt _ _) _).mono ?_; rintro e w' ⟨rfl, rfl⟩)
  go_ret
  exact ⟨rfl, _, rfl⟩
theorem implSine_nan (x : Nat) (h : ¬ Fl.Fin Ieee.single x) (w : World) : Calls Try.prog 18 #[.float .f32 x] w (Ans32 none w) := by
  have H := Lib.hid (fin64_not (not_wide h w))
  clear h
  go_enter Try.func18, Try.ntmps18
  go_wp2_with (first | (go_at_call 45; refine (implFinite_any _ _).mono ?_; rw [H.out]; rintro e w' ⟨rfl, n, rfl⟩) | (go_at_call 39; go_in))
  refine bodyPost_ret (results_tmp rfl _ _ _) rfl ?_
  exact ⟨_, _, rfl, rfl, nres_nan _ nanC⟩
theorem implSine_whole (x : Nat) (h : Fl.Fin Ieee.single x) (hw : whole (Ieee.double.write (Ieee.single.read x)) = true) (w : World) : Calls Try.prog 18 #[.float .f32 x] w (Ans32 (some 0) w) := by
  obtain ⟨h1, h2⟩ := wide_one h
  have hf : fin64 (Fl.wres w x) = true := by rw [h1 w]; exact fin64_yes (Fl.wide_fin h).1
  have hlt : Ieee.double.write (Ieee.single.read x) < 18446744073709551616 := by have := wres_lt w x; rw [h1 w] at this; exact this
  have H := Lib.hid hf
  have HW := Lib.hid hw
  have HL := Lib.hid hlt
  clear h hw hf hlt
  go_enter Try.func18, Try.ntmps18
  go_wp2_with (first | (go_at_call 45; refine (implFinite_any _ _).mono ?_; rw [H.out]; rintro e w' ⟨rfl, n, rfl⟩) | (go_at_call 40; refine (isWhole_any _ HL.out _).mono ?_; rw [HW.out]; rintro e w' ⟨rfl, rfl⟩))
  refine bodyPost_ret (results_tmp rfl _ _ _) rfl ?_
  exact ⟨_, _, rfl, rfl, by decide⟩
theorem implSine_part (x : Nat) (h : Fl.Fin Ieee.single x) (hw : whole (Ieee.double.write (Ieee.single.read x)) = false) (w : World) : Calls Try.prog 18 #[.float .f32 x] w (Ans32 (Fl.narrowC (sineC (Ieee.double.write (Ieee.single.read x)))) w) := by
  obtain ⟨h1, h2⟩ := wide_one h
  have hf : fin64 (Fl.wres w x) = true := by rw [h1 w]; exact fin64_yes (Fl.wide_fin h).1
  have hlt : Ieee.double.write (Ieee.single.read x) < 18446744073709551616 := by have := wres_lt w x; rw [h1 w] at this; exact this
  have H := Lib.hid hf
  have HW := Lib.hid hw
  have HL := Lib.hid hlt
  have HS := Lib.hid (small_of (Fl.wide_fin h).1 hw).int
  have HP := Lib.hid (sineC_pc (partC_of_small (Fl.wide_fin h).1 hw))
  clear h hw hf hlt
  go_enter Try.func18, Try.ntmps18
  go_wp2_with (first | (go_at_call 45; refine (implFinite_any _ _).mono ?_; rw [H.out]; rintro e w' ⟨rfl, n, rfl⟩) | (go_at_call 40; refine (isWhole_any _ HL.out _).mono ?_; rw [HW.out]; rintro e w' ⟨rfl, rfl⟩) | (go_at_call 42; refine (wideSine_any _ HS.out _).mono ?_; rintro e w' ⟨r, n, rfl, rfl, hc⟩; have HC := Lib.hid hc; clear hc) | (go_at_call 49; go_in))
  refine bodyPost_ret (results_tmp rfl _ _ _) rfl ?_
  exact ⟨_, _, rfl, rfl, nres_pc _ (Hid.out (by assumption)) HP.out (by decide)⟩
theorem sine_same (x : Nat) : ∃ C, (∀ w, Calls Try.prog 48 #[.float .f32 x] w (Ans32 C w)) ∧ (∀ w, Calls Try.prog 18 #[.float .f32 x] w (Ans32 C w)) := by
  by_cases h : Fl.Fin Ieee.single x
  · cases hw : whole (Ieee.double.write (Ieee.single.read x)) with
    | true => exact ⟨_, specSine_whole x h hw, implSine_whole x h hw⟩
    | false => exact ⟨_, specSine_part x h hw, implSine_part x h hw⟩
  · exact ⟨_, specSine_nan x h, implSine_nan x h⟩
theorem fnExactSineTurns_any (x : Nat) (w : World) :
    Calls Try.prog 5 #[.float .f32 x] w fun e w' => e = .returned (.bool true) ∧ Below w.heap.size w w' := by
  obtain ⟨C, hs, hi⟩ := sine_same x
  have HS := Lib.hid hs
  have HI := Lib.hid hi
  clear hs hi
  go_enter Try.func5, Try.ntmps5
  go_wp2_with (go_at_call 17; go_in)
  go_at_call 48; refine (HS.out _).mono ?_; rintro e w' ⟨r, n, rfl, rfl, hc⟩; have HC := Lib.hid hc; clear hc
  go_wp2_with fail
  go_at_call 18; refine (HI.out _).mono ?_; rintro e w' ⟨r2, n2, rfl, rfl, hc⟩; have HC2 := Lib.hid hc; clear hc
  go_wp2_with (go_at_call 19; refine (same_any _ _ (by rw [Fl.cls_wres, Fl.cls_wres, HC.out, HC2.out]) _).mono ?_; rintro e w' ⟨rfl, n, rfl⟩)
  go_ret
  exact ⟨rfl, below_drewN (Below.refl _ _) _⟩

theorem Try.own : ownKnob Try.prog.godebug = none := by kernel_rfl
theorem Try.laidOut : laidOutB Try.prog = true := by kernel_rfl
theorem f32_lt {x : Nat} (h : (Lit.float .f32 x).wf = true) : x < 4294967296 := by simpa [Lit.wf] using h
theorem f64_lt {x : Nat} (h : (Lit.float .f64 x).wf = true) : x < 18446744073709551616 := by simpa [Lit.wf] using h
theorem i64_in {x : Int} (h : (Lit.int .i64 x).wf = true) : -9223372036854775808 ≤ x ∧ x ≤ 9223372036854775807 := by
  have h1 : IntKind.i64.min = -9223372036854775808 := by decide
  have h2 : IntKind.i64.max = 9223372036854775807 := by decide
  simp only [Lit.wf, Bool.and_eq_true, decide_eq_true_eq, h1, h2] at h
  exact h

set_option maxRecDepth 100000 in
theorem fnExactSineTurns_lifted (os : Os) (started : os.Started) (H : Type) (enc : TypeId × Value → H) :
    ReturnsInHanded {} Try.checked os 5 .any (Rows.fnExactSineTurnsSpec.pre6 enc Try.prog Try.f5 [] false) (Rows.fnExactSineTurnsSpec.post enc Try.prog Try.f5 false true false false) := by
  refine Frame.law_lifted (tb := 4) Try.own started (by kernel_rfl) Try.func5
    (ChangeSpec.witness6 (enc := enc) (C := Try.checked) false ⟨#[], #[.float .f32 0], []⟩ 8 (by kernel_rfl) (by kernel_rfl) (by kernel_rfl) (by kernel_rfl))
    Try.laidOut (by kernel_rfl) rfl (by kernel_rfl) Try.underlying4 (fun ds hd => ?_) ?_
  · rw [Try.params5] at hd
    match ds, hd with
    | [_], _ => exact ⟨rfl, rfl, rfl⟩
  intro W base args ds p hval0 hA0 hlt hsz0
  have hval : ∀ (j : Nat) t v, Try.f5.params[j]? = some t → args[j]? = some v → Value.okWide Try.prog W .any base t v := hval0
  have hA : DataW.TrodAll enc Try.prog W 0 (fun _ => true) true Try.f5.params.toList args.toList ds p := hA0
  have hsz : (DataW.weightsEach Try.prog Try.f5.params.toList ds).all (· ≤ reachBytes) = true := hsz0
  rw [Try.params5] at hA hval hsz
  clear hval0 hA0 hsz0
  obtain ⟨v0, d0, rfl, rfl, h0⟩ := trodAll_one hA
  obtain ⟨a0, rfl, rfl, rfl, w0⟩ := open_float Try.underlying28 (hval 0 28 v0 rfl rfl) h0
  have b0 := f32_lt w0
  exact fnExactSineTurns_any a0 W

theorem fnExactSineTurns_holds : Rows.FnExactSineTurnsSaid :=
  OpenClaim.holds_of_wide 5 Try.f5 rfl rfl rfl rfl rfl rfl rfl ⟨rfl, rfl, rfl, rfl, rfl⟩ rfl rfl rfl rfl rfl (by kernel_rfl) Try.func5 (by kernel_rfl)
    (of_decide_eq_true (by kernel_rfl)) (by unfold Func.isWrapper; first | (rw [if_pos (by decide +kernel)]; kernel_rfl) | (rw [if_neg (by decide +kernel)]; exact ⟨rfl, rfl⟩))
    (fun os started H enc _ => fnExactSineTurns_lifted os started H enc)
end Go.Proofs.Ytimdlnbdnednaac
