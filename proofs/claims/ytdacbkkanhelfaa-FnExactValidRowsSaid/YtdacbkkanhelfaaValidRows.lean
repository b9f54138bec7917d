/- ValidRows answers as its model, for all rows; it writes into no argument. -/
import Derived.Test.YtdacbkkanhelfaaVi
import Derived.Test.YtdacbkkanhelfaaBox
import Derived.Test.YtdacbkkanhelfaaOpen
import Derived.Test.YtdacbkkanhelfaaFrame
import Derived.Deep.RegionWith
import Derived.Outline
namespace Go.Proofs.Ytdacbkkanhelfaa
open Go.ChangeShapes Go.WideShapes Go.ChangeAt Go.RowKit Go.ChangeMaps

theorem RD.split {lo hi : Nat} {w : World} {v : Value} {R : Rw} (h : RD lo hi w v R) : ∃ x1 k1 x2 k2 x3 k3, v = .agg #[.int .i64 R.vars, .slice x1 R.N.length k1, .slice x2 R.B.length k2, .slice x3 R.G.length k3] := by
  obtain ⟨s1, s2, s3, a, b, _, _, _, e, h1, h2, h3⟩ := h
  obtain ⟨x1, k1, rfl⟩ := SI.len h1
  obtain ⟨x2, k2, rfl⟩ := SI.len h2
  obtain ⟨x3, k3, rfl⟩ := SI.len h3
  exact ⟨x1, k1, x2, k2, x3, k3, e⟩

set_option maxHeartbeats 2000000 in
theorem fnExactValidRows_any (v : Value) (R : Rw) (w : World) (hv : RV w v R) (l1 : R.N.length ≤ maxLen) (l2 : R.B.length ≤ maxLen) (l3 : R.G.length ≤ maxLen) :
    Calls Try.prog 3 #[v] w (Says true w) := by
  have HV := Lib.hid hv
  obtain ⟨s1, s2, s3, rfl, -, -, -⟩ := hv
  have HB0 := Lib.hid (below_alloc w)
  have HV0 := Lib.hid (fun o => HV.out.below (HB0.out o) (Nat.le_refl _))
  have X0 := Lib.hid (Box4.mk' w (.int .i64 R.vars) s1 s2 s3 24)
  by_cases hb : (1048576 : Int) < R.size
  · go_enter Try.func3, Try.ntmps3
    go_wp2_with fail
    go_at_call 15; refine (szRows_no _ R _ _ (HV0.out _) hb (by omega) (by omega) l1 l2 l3).mono ?_; rintro e w1 ⟨rfl, b1⟩
    have H1 := Lib.hid ((HB0.out _).trans (b1.mono (by simp)))
    clear b1
    go_wp2_with fail
    go_ret
    exact says rfl H1.out
  · have hsz : R.size ≤ 1048576 := by omega
    have hs1 : (R.size : Int) ≤ 1048576 := by omega
    have hs0 : decide ((1048576 : Int) - R.size < 0) = false := by simp; omega
    go_enter Try.func3, Try.ntmps3
    go_wp2_with fail
    go_at_call 15; refine (szRows_yes _ R _ _ (HV0.out _) hs1 (by omega)).mono ?_; rintro e w1 ⟨rfl, b1⟩
    have H1 := Lib.hid ((HB0.out _).trans (b1.mono (by simp)))
    have X1 := Lib.hid (X0.out.keep b1 (by simp))
    clear b1
    obtain ⟨c0, c1, c2, c3⟩ := X1.out
    go_wp2_with fail
    clear c0 c1 c2 c3
    go_at_call 17; refine (toRows_any _ R _ (HV.out.below H1.out (Nat.le_refl _)) hsz).mono ?_; rintro e w2 ⟨v2, rfl, i2, b2⟩
    have I2 := Lib.hid i2.rv
    have S2 := Lib.hid (show w1.heap.size ≤ w2.heap.size from b2.size)
    have X2 := Lib.hid (X1.out.keep b2 (by have := H1.out.size; have := X1.out.lt; omega))
    have H2 := Lib.hid (H1.out.trans (b2.mono H1.out.size))
    clear i2 b2
    go_wp2_with fail
    go_at_call 16; refine (specValid_any _ R _ I2.out hsz).mono ?_; rintro e w3 ⟨rfl, b3⟩
    have X3 := Lib.hid (X2.out.keep b3 X2.out.lt)
    have H3 := Lib.hid (H2.out.trans (b3.mono H2.out.size))
    clear b3
    obtain ⟨c0, c1, c2, c3⟩ := X3.out
    go_wp2_with fail
    clear c0 c1 c2 c3
    go_at_call 17; refine (toRows_any _ R _ (HV.out.below H3.out (Nat.le_refl _)) hsz).mono ?_; rintro e w4 ⟨v4, rfl, i4, b4⟩
    have X4 := Lib.hid (X3.out.keep b4 X3.out.lt)
    have H4 := Lib.hid (H3.out.trans (b4.mono H3.out.size))
    obtain ⟨y1, m1, y2, m2, y3, m3, rfl⟩ := i4.split
    have I4 := Lib.hid i4.rv
    clear i4 b4
    have Y4 := Lib.hid (Box4.mk' w4 (.int .i64 R.vars) (.slice y1 R.N.length m1) (.slice y2 R.B.length m2) (.slice y3 R.G.length m3) 27)
    have HB4 := Lib.hid (fun o => H4.out.alloc H4.out.size o)
    go_wp2_with fail
    go_at_call 18; refine (implValid_any _ R _ (I4.out.below (below_alloc _ _) (Nat.le_refl _)) hsz).mono ?_; rintro e w5 ⟨rfl, b5⟩
    have Y5 := Lib.hid (Y4.out.keep b5 Y4.out.lt)
    have X5 := Lib.hid (X4.out.keep ((below_alloc _ _).trans (b5.mono (by simp))) X4.out.lt)
    have I5 := Lib.hid (I4.out.below ((below_alloc _ _).trans (b5.mono (by simp))) (Nat.le_refl _))
    have H5 := Lib.hid ((HB4.out _).trans (b5.mono (HB4.out _).size))
    clear b5
    obtain ⟨c0, c1, c2, c3⟩ := X5.out
    obtain ⟨d0, d1, d2, d3⟩ := Y5.out
    go_wp2_with fail
    go_region_with (first
      | (go_at_call 17; refine (toRows_any _ R _ (HV.out.below (show Below w.heap.size w w5.drew from below_drewN H5.out 1) (Nat.le_refl _)) hsz).mono ?_; rintro e w6 ⟨v6, rfl, i6, b6⟩; have b6' := (below_drewN (Below.refl w5.heap.size w5) 1).trans b6; have H6 := Lib.hid (H5.out.trans (b6'.mono H5.out.size)); have X6 := Lib.hid (X5.out.keep b6' X5.out.lt); have Y6 := Lib.hid (Y5.out.keep b6' Y5.out.lt); have I6 := Lib.hid (I5.out.below b6' (Nat.le_refl _)); have J6 := Lib.hid i6.rv; clear i6 b6 b6'; obtain ⟨e0, e1, e2, e3⟩ := X6.out; obtain ⟨f0, f1, f2, f3⟩ := Y6.out)
      | (go_at_call 19; refine (eqRows_any _ _ R _ hsz I6.out J6.out).mono ?_; rintro e w7 ⟨rfl, b7⟩; have H7 := Lib.hid (H6.out.trans (b7.mono H6.out.size)); clear b7))
    all_goals
      go_wp2_with fail
      go_ret
      exact says rfl H7.out

theorem Try.own : ownKnob Try.prog.godebug = none := by kernel_rfl
theorem Try.laidOut : laidOutB Try.prog = true := by kernel_rfl
theorem f32_lt {x : Nat} (h : (Lit.float .f32 x).wf = true) : x < 4294967296 := by simpa [Lit.wf] using h
theorem f64_lt {x : Nat} (h : (Lit.float .f64 x).wf = true) : x < 18446744073709551616 := by simpa [Lit.wf] using h
theorem i64_in {x : Int} (h : (Lit.int .i64 x).wf = true) : -9223372036854775808 ≤ x ∧ x ≤ 9223372036854775807 := by
  have h1 : IntKind.i64.min = -9223372036854775808 := by decide
  have h2 : IntKind.i64.max = 9223372036854775807 := by decide
  simp only [Lit.wf, Bool.and_eq_true, decide_eq_true_eq, h1, h2] at h
  exact h

set_option maxRecDepth 100000 in
theorem fnExactValidRows_lifted (os : Os) (started : os.Started) (H : Type) (enc : TypeId × Value → H) :
    ReturnsInHanded {} Try.checked os 3 .any (Rows.fnExactValidRowsSpec.pre6 enc Try.prog Try.f3 [] false) (Rows.fnExactValidRowsSpec.post enc Try.prog Try.f3 false true false false) := by
  refine Frame.law_lifted (tb := 4) Try.own started (by kernel_rfl) Try.func3
    (ChangeSpec.witness6 (enc := enc) (C := Try.checked) false ⟨#[], #[.agg #[.int .i64 0, .slice none 0 0, .slice none 0 0, .slice none 0 0]], []⟩ 8 (by kernel_rfl) (by kernel_rfl) (by kernel_rfl) (by kernel_rfl))
    Try.laidOut (by kernel_rfl) rfl (by kernel_rfl) Try.underlying4 (fun ds hd => ?_) ?_
  · rw [Try.params3] at hd
    match ds, hd with
    | [_], _ => exact ⟨rfl, rfl, rfl⟩
  intro W base args ds p hval0 hA0 hlt hsz0
  have hval : ∀ (j : Nat) t v, Try.f3.params[j]? = some t → args[j]? = some v → Value.okWide Try.prog W .any base t v := hval0
  have hA : DataW.TrodAll enc Try.prog W 0 (fun _ => true) true Try.f3.params.toList args.toList ds p := hA0
  have hsz : (DataW.weightsEach Try.prog Try.f3.params.toList ds).all (· ≤ reachBytes) = true := hsz0
  rw [Try.params3] at hA hval hsz
  clear hval0 hA0 hsz0
  obtain ⟨v0, d0, rfl, rfl, h0⟩ := trodAll_one hA
  obtain ⟨r0, g0, k0⟩ := open_rows (hval 0 24 v0 rfl rfl) h0
  exact fnExactValidRows_any v0 r0 W g0 k0.1 k0.2.1 k0.2.2.1

theorem fnExactValidRows_holds : Rows.FnExactValidRowsSaid :=
  OpenClaim.holds_of_wide 3 Try.f3 rfl rfl rfl rfl rfl rfl rfl ⟨rfl, rfl, rfl, rfl, rfl⟩ rfl rfl rfl rfl rfl (by kernel_rfl) Try.func3 (by kernel_rfl)
    (of_decide_eq_true (by kernel_rfl)) (by unfold Func.isWrapper; first | (rw [if_pos (by decide +kernel)]; kernel_rfl) | (rw [if_neg (by decide +kernel)]; exact ⟨rfl, rfl⟩))
    (fun os started H enc _ => fnExactValidRows_lifted os started H enc)
end Go.Proofs.Ytdacbkkanhelfaa
