/- RootNumber answers as its model, for every number. -/
import Derived.Test.YtimdlnbdnednaabRoot
import Derived.Test.YtimdlnbdnednaabFrame
import Derived.ProofKit
namespace Go.Proofs.Ytimdlnbdnednaab
open Go.ChangeShapes Go.WideShapes Go.ChangeAt Go.RowKit Go.ChangeMaps
attribute [local go_sem] call_sqrt Fl.run_widen Fl.run_narrow

/-- An answer of class C, behind some draws. -/
def Ans32 (C : Option Nat) (w : World) (e : Ending) (w' : World) : Prop := ∃ r n, e = .returned (.float .f32 r) ∧ w' = w.drewN n ∧ Fl.cls .f32 r = C
def rootC (x : Nat) : Option Nat := Fl.narrowC (sqC (Fl.wideC (Fl.cls .f32 x)))
theorem root_cls (w1 w2 w3 : World) (x : Nat) : Fl.cls .f32 (Fl.nres w3 (sqres w2 (Fl.wres w1 x))) = rootC x := by
  rw [Fl.cls_nres _ (root_fits _ _ _), cls_sqres, Fl.cls_wres]; rfl

theorem specRoot_any (x : Nat) (w : World) : Calls Try.prog 15 #[.float .f32 x] w (Ans32 (rootC x) w) := by
  go_enter Try.func15, Try.ntmps15
  go_wp2
  refine bodyPost_ret (results_tmp rfl _ _ _) rfl ?_
  exact ⟨_, _, rfl, rfl, root_cls _ _ _ x⟩
theorem specRootNumber_any (x : Nat) (w : World) : Calls Try.prog 6 #[.float .f32 x] w (Ans32 (rootC x) w) := by
  go_enter Try.func6, Try.ntmps6
  go_wp2_with (go_at_call 15; refine (specRoot_any _ _).mono ?_; rintro e w' ⟨r, n, rfl, rfl, hc⟩; have HC := Lib.hid hc; clear hc)
  refine bodyPost_ret (results_tmp rfl _ _ _) rfl ?_
  exact ⟨_, _, rfl, rfl, Hid.out (by assumption)⟩
theorem implRootNumber_any (x : Nat) (w : World) : Calls Try.prog 7 #[.float .f32 x] w (Ans32 (rootC x) w) := by
  go_enter Try.func7, Try.ntmps7
  go_wp2
  refine bodyPost_ret (results_tmp rfl _ _ _) rfl ?_
  exact ⟨_, _, rfl, rfl, root_cls _ _ _ x⟩
theorem fnExactRootNumber_any (x : Nat) (w : World) :
    Calls Try.prog 3 #[.float .f32 x] w fun e w' => e = .returned (.bool true) ∧ Below w.heap.size w w' := by
  go_enter Try.func3, Try.ntmps3
  go_wp2_with fail
  go_at_call 6; refine (specRootNumber_any _ _).mono ?_; rintro e w' ⟨r, n, rfl, rfl, hc⟩; have HC := Lib.hid hc; clear hc
  go_wp2_with fail
  go_at_call 7; refine (implRootNumber_any _ _).mono ?_; rintro e w' ⟨r2, n2, rfl, rfl, hc⟩; have HC2 := Lib.hid hc; clear hc
  go_wp2_with (go_at_call 8; refine (same_any _ _ (by rw [Fl.cls_wres, Fl.cls_wres, HC.out, HC2.out]) _).mono ?_; rintro e w' ⟨rfl, n, rfl⟩)
  go_ret
  exact ⟨rfl, below_drewN (Below.refl _ _) _⟩

theorem Try.own : ownKnob Try.prog.godebug = none := by kernel_rfl
theorem Try.laidOut : laidOutB Try.prog = true := by kernel_rfl
theorem f32_lt {x : Nat} (h : (Lit.float .f32 x).wf = true) : x < 4294967296 := by simpa [Lit.wf] using h
theorem f64_lt {x : Nat} (h : (Lit.float .f64 x).wf = true) : x < 18446744073709551616 := by simpa [Lit.wf] using h
theorem i64_in {x : Int} (h : (Lit.int .i64 x).wf = true) : -9223372036854775808 ≤ x ∧ x ≤ 9223372036854775807 := by
  have h1 : IntKind.i64.min = -9223372036854775808 := by decide
  have h2 : IntKind.i64.max = 9223372036854775807 := by decide
  simp only [Lit.wf, Bool.and_eq_true, decide_eq_true_eq, h1, h2] at h
  exact h

set_option maxRecDepth 100000 in
theorem fnExactRootNumber_lifted (os : Os) (started : os.Started) (H : Type) (enc : TypeId × Value → H) :
    ReturnsInHanded {} Try.checked os 3 .any (Rows.fnExactRootNumberSpec.pre6 enc Try.prog Try.f3 [] false) (Rows.fnExactRootNumberSpec.post enc Try.prog Try.f3 false true false false) := by
  refine Frame.law_lifted (tb := 4) Try.own started (by kernel_rfl) Try.func3
    (ChangeSpec.witness6 (enc := enc) (C := Try.checked) false ⟨#[], #[.float .f32 0], []⟩ 8 (by kernel_rfl) (by kernel_rfl) (by kernel_rfl) (by kernel_rfl))
    Try.laidOut (by kernel_rfl) rfl (by kernel_rfl) Try.underlying4 (fun ds hd => ?_) ?_
  · rw [Try.params3] at hd
    match ds, hd with
    | [_], _ => exact ⟨rfl, rfl, rfl⟩
  intro W base args ds p hval0 hA0 hlt hsz0
  have hval : ∀ (j : Nat) t v, Try.f3.params[j]? = some t → args[j]? = some v → Value.okWide Try.prog W .any base t v := hval0
  have hA : DataW.TrodAll enc Try.prog W 0 (fun _ => true) true Try.f3.params.toList args.toList ds p := hA0
  have hsz : (DataW.weightsEach Try.prog Try.f3.params.toList ds).all (· ≤ reachBytes) = true := hsz0
  rw [Try.params3] at hA hval hsz
  clear hval0 hA0 hsz0
  obtain ⟨v0, d0, rfl, rfl, h0⟩ := trodAll_one hA
  obtain ⟨a0, rfl, rfl, rfl, w0⟩ := open_float Try.underlying22 (hval 0 22 v0 rfl rfl) h0
  have b0 := f32_lt w0
  exact fnExactRootNumber_any a0 W

theorem fnExactRootNumber_holds : Rows.FnExactRootNumberSaid :=
  OpenClaim.holds_of_wide 3 Try.f3 rfl rfl rfl rfl rfl rfl rfl ⟨rfl, rfl, rfl, rfl, rfl⟩ rfl rfl rfl rfl rfl (by kernel_rfl) Try.func3 (by kernel_rfl)
    (of_decide_eq_true (by kernel_rfl)) (by unfold Func.isWrapper; first | (rw [if_pos (by decide +kernel)]; kernel_rfl) | (rw [if_neg (by decide +kernel)]; exact ⟨rfl, rfl⟩))
    (fun os started H enc _ => fnExactRootNumber_lifted os started H enc)
end Go.Proofs.Ytimdlnbdnednaab
