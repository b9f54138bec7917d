/- FrontCost answers as its model, for all arguments; it writes into no argument. -/
import Derived.Test.YtnakpfbeeekmiaaFrJ
import Derived.Test.YtnakpfbeeekmiaaFrS
import Derived.Test.YtnakpfbeeekmiaaIl
import Derived.Deep.RegionWith
import Derived.Deep.DeepCutAuto
import Derived.Test.YtnakpfbeeekmiaaFrame
import Derived.Outline
namespace Go.Proofs.Ytnakpfbeeekmiaa
open Go.ChangeShapes Go.WideShapes Go.ChangeAt Go.RowKit Go.ChangeMaps

set_option maxRecDepth 100000 in
set_option maxHeartbeats 8000000 in
theorem fnExactFrontCost_main (v0 : Value) (A : List Int) (n : Int) (w : World) (hv0 : IL w v0 A) (o0 : OKI A) (o1 : -9223372036854775808 ≤ n ∧ n ≤ 9223372036854775807) :
    Calls Try.prog 12 #[v0, .int .i64 n] w (Says true w) := by
  have V0 := Lib.hid hv0
  obtain ⟨a0, cap0, rfl⟩ := hv0.long
  clear hv0
  have hl0 : ¬ 1048576 < A.length := by have := o0.size; omega
  have hs0 := o0.size
  skip
  go_enter Try.func12, Try.ntmps12
  go_wp2_with fail
  go_at_call 16; refine (toI64_si _ A _ (V0.out.below (Below.refl w.heap.size w) (Nat.le_refl _)) (by omega)).mono ?_; rintro e w1 ⟨q0v, rfl, i, b⟩
  have F1_1 := Lib.hid (II.wide' (lo' := w.heap.size) i (Below.refl w.heap.size w).size)
  clear i
  have bz := b
  have z1 : w.heap.size ≤ w1.heap.size := bz.size
  have H1 := Lib.hid ((Below.refl w.heap.size w).trans (bz.mono (Below.refl w.heap.size w).size))
  clear b bz
  go_wp2_with fail
  go_at_call 45; refine (specFrontCost_any _ A n _ F1_1.out.il o0 o1).mono ?_; rintro e w2 ⟨w1v, rfl, i1, b⟩
  have F2_2 := Lib.hid (II.wide' (lo' := w1.heap.size) i1 (Below.refl w1.heap.size w1).size)
  clear i1
  have bz := b
  have z2 : w1.heap.size ≤ w2.heap.size := bz.size
  have H2 := Lib.hid (H1.out.trans (bz.mono H1.out.size))
  clear b bz F1_1 H1
  go_wp2_with fail
  go_at_call 16; refine (toI64_si _ A _ (V0.out.below H2.out (Nat.le_refl _)) (by omega)).mono ?_; rintro e w3 ⟨x0v, rfl, i, b⟩
  obtain ⟨x0a, x0c, rfl⟩ := II.len' i
  have F3_3 := Lib.hid (II.wide' (lo' := w2.heap.size) i (Below.refl w2.heap.size w2).size)
  clear i
  have bz := b
  have F3_2 := Lib.hid (F2_2.out.below' bz (Nat.le_refl _))
  have z3 : w2.heap.size ≤ w3.heap.size := bz.size
  have H3 := Lib.hid (H2.out.trans (bz.mono H2.out.size))
  clear b bz F2_2 H2
  go_wp2_with fail
  go_at_call 46; refine (implFrontCost_any _ A n _ F3_3.out.il o0 o1).mono ?_; rintro e w4 ⟨g1v, rfl, i1, b⟩
  have F4_4 := Lib.hid (II.wide' (lo' := w3.heap.size) i1 (Below.refl w3.heap.size w3).size)
  clear i1
  have bz := b
  have F4_2 := Lib.hid (F3_2.out.below' bz (Nat.le_refl _))
  have F4_3 := Lib.hid (F3_3.out.below' bz (Nat.le_refl _))
  have z4 : w3.heap.size ≤ w4.heap.size := bz.size
  have H4 := Lib.hid (H3.out.trans (bz.mono H3.out.size))
  clear b bz F3_2 F3_3 H3
  go_wp2_with fail
  go_at_call 18; refine (eqI64_says _ _ (frL A n) _ (frL_len A n) F4_4.out.il F4_2.out.il).mono ?_; rintro e w5 ⟨rfl, b⟩
  have bz := b
  have F5_2 := Lib.hid (F4_2.out.below' bz (Nat.le_refl _))
  have F5_3 := Lib.hid (F4_3.out.below' bz (Nat.le_refl _))
  have F5_4 := Lib.hid (F4_4.out.below' bz (Nat.le_refl _))
  have z5 : w4.heap.size ≤ w5.heap.size := bz.size
  have H5 := Lib.hid (H4.out.trans (bz.mono H4.out.size))
  clear b bz F4_2 F4_3 F4_4 H4
  go_wp2_with fail
  go_at_call 16; refine (toI64_si _ A _ (V0.out.below H5.out (Nat.le_refl _)) (by omega)).mono ?_; rintro e w6 ⟨tv, rfl, i, b⟩
  have F6_5 := Lib.hid (II.wide' (lo' := w5.heap.size) i (Below.refl w5.heap.size w5).size)
  clear i
  have bz := b
  have F6_2 := Lib.hid (F5_2.out.below' bz (Nat.le_refl _))
  have F6_3 := Lib.hid (F5_3.out.below' bz (Nat.le_refl _))
  have F6_4 := Lib.hid (F5_4.out.below' bz (Nat.le_refl _))
  have z6 : w5.heap.size ≤ w6.heap.size := bz.size
  have H6 := Lib.hid (H5.out.trans (bz.mono H5.out.size))
  clear b bz F5_2 F5_3 F5_4 H5
  go_wp2_with fail
  go_at_call 18; refine (eqI64_says _ _ A _ (by omega) F6_3.out.il F6_5.out.il).mono ?_; rintro e w7 ⟨rfl, b⟩
  have bz := b
  have F7_2 := Lib.hid (F6_2.out.below' bz (Nat.le_refl _))
  have F7_3 := Lib.hid (F6_3.out.below' bz (Nat.le_refl _))
  have F7_4 := Lib.hid (F6_4.out.below' bz (Nat.le_refl _))
  have z7 : w6.heap.size ≤ w7.heap.size := bz.size
  have H7 := Lib.hid (H6.out.trans (bz.mono H6.out.size))
  clear b bz F6_2 F6_3 F6_4 F6_5 H6
  go_wp2_with fail
  go_at_call 21; refine (markI64_any w2.heap.size w3.heap.size _ A 1 _ F7_3.out (by omega) (by omega) (by omega)).mono ?_; rintro e w8 ⟨rfl, i, t⟩
  have G8_3 := Lib.hid i
  clear i
  have F8_2 := Lib.hid (F7_2.out.kept' t (by omega))
  have F8_4 := Lib.hid (F7_4.out.kept' t (by omega))
  have z8 : w7.heap.size ≤ w8.heap.size := t.size
  have H8 := Lib.hid (H7.out.trans ((t.below (by omega)).mono (by omega)))
  clear t F7_2 F7_3 F7_4 H7
  clear G8_3
  have hk8 : decide (1 + ((A.length : Nat) : Int) < 0) = false := by simp; omega
  go_wp2_with fail
  go_at_call 18; refine (eqI64_says _ _ (frL A n) _ (frL_len A n) F8_4.out.il F8_2.out.il).mono ?_; rintro e w9 ⟨rfl, b⟩
  have bz := b
  have F9_2 := Lib.hid (F8_2.out.below' bz (Nat.le_refl _))
  have F9_4 := Lib.hid (F8_4.out.below' bz (Nat.le_refl _))
  have z9 : w8.heap.size ≤ w9.heap.size := bz.size
  have H9 := Lib.hid (H8.out.trans (bz.mono H8.out.size))
  clear b bz F8_2 F8_4 H8
  go_wp2_with fail
  go_at_call 21; refine (markI64_any w3.heap.size w4.heap.size _ (frL A n) 1 _ F9_4.out (frL_len A n) (by omega) (by omega)).mono ?_; rintro e w10 ⟨rfl, i, t⟩
  have G10_4 := Lib.hid i
  clear i
  have F10_2 := Lib.hid (F9_2.out.kept' t (by omega))
  have z10 : w9.heap.size ≤ w10.heap.size := t.size
  have H10 := Lib.hid (H9.out.trans ((t.below (by omega)).mono (by omega)))
  clear t F9_2 F9_4 H9
  have hk10 : decide (1 + (((frL A n).length : Nat) : Int) < 0) = false := by simp; omega
  go_wp2_with fail
  go_at_call 22; refine (heldI64_says _ 1 ((frL A n)).length _ G10_4.out.il (frL_len A n) (by omega) (by omega)).mono ?_; rintro e w11 ⟨rfl, b⟩
  have bz := b
  have F11_2 := Lib.hid (F10_2.out.below' bz (Nat.le_refl _))
  have F11_4 := Lib.hid (G10_4.out.below' bz (Nat.le_refl _))
  have z11 : w10.heap.size ≤ w11.heap.size := bz.size
  have H11 := Lib.hid (H10.out.trans (bz.mono H10.out.size))
  clear b bz F10_2 G10_4 H10
  go_wp2_with fail
  go_at_call 16; refine (toI64_si _ A _ (V0.out.below H11.out (Nat.le_refl _)) (by omega)).mono ?_; rintro e w12 ⟨q0v, rfl, i, b⟩
  have F12_6 := Lib.hid (II.wide' (lo' := w11.heap.size) i (Below.refl w11.heap.size w11).size)
  clear i
  have bz := b
  have F12_2 := Lib.hid (F11_2.out.below' bz (Nat.le_refl _))
  have F12_4 := Lib.hid (F11_4.out.below' bz (Nat.le_refl _))
  have z12 : w11.heap.size ≤ w12.heap.size := bz.size
  have H12 := Lib.hid (H11.out.trans (bz.mono H11.out.size))
  clear b bz F11_2 F11_4 H11
  go_wp2_with fail
  go_at_call 46; refine (implFrontCost_any _ A n _ F12_6.out.il o0 o1).mono ?_; rintro e w13 ⟨h1v, rfl, i1, b⟩
  have F13_7 := Lib.hid (II.wide' (lo' := w12.heap.size) i1 (Below.refl w12.heap.size w12).size)
  clear i1
  have bz := b
  have F13_2 := Lib.hid (F12_2.out.below' bz (Nat.le_refl _))
  have F13_4 := Lib.hid (F12_4.out.below' bz (Nat.le_refl _))
  have z13 : w12.heap.size ≤ w13.heap.size := bz.size
  have H13 := Lib.hid (H12.out.trans (bz.mono H12.out.size))
  clear b bz F12_2 F12_4 F12_6 H12
  go_wp2_with fail
  go_at_call 18; refine (eqI64_says _ _ (frL A n) _ (frL_len A n) F13_7.out.il F13_2.out.il).mono ?_; rintro e w14 ⟨rfl, b⟩
  have bz := b
  have F14_2 := Lib.hid (F13_2.out.below' bz (Nat.le_refl _))
  have F14_4 := Lib.hid (F13_4.out.below' bz (Nat.le_refl _))
  have F14_7 := Lib.hid (F13_7.out.below' bz (Nat.le_refl _))
  have z14 : w13.heap.size ≤ w14.heap.size := bz.size
  have H14 := Lib.hid (H13.out.trans (bz.mono H13.out.size))
  clear b bz F13_2 F13_4 F13_7 H13
  go_wp2_with fail
  go_at_call 22; refine (heldI64_says _ 1 ((frL A n)).length _ F14_4.out.il (frL_len A n) (by omega) (by omega)).mono ?_; rintro e w15 ⟨rfl, b⟩
  have bz := b
  have F15_2 := Lib.hid (F14_2.out.below' bz (Nat.le_refl _))
  have F15_4 := Lib.hid (F14_4.out.below' bz (Nat.le_refl _))
  have F15_7 := Lib.hid (F14_7.out.below' bz (Nat.le_refl _))
  have z15 : w14.heap.size ≤ w15.heap.size := bz.size
  have H15 := Lib.hid (H14.out.trans (bz.mono H14.out.size))
  clear b bz F14_2 F14_4 F14_7 H14
  go_wp2_with fail
  go_ret
  exact says rfl H15.out
set_option maxRecDepth 100000 in
set_option maxHeartbeats 8000000 in
theorem fnExactFrontCost_long0 (v0 : Value) (A : List Int) (n : Int) (w : World) (hv0 : IL w v0 A) (hb : 1048576 < A.length) (hx : A.length ≤ maxLen) :
    Calls Try.prog 12 #[v0, .int .i64 n] w (Says true w) := by
  unfold maxLen at hx
  have V0 := Lib.hid hv0
  obtain ⟨a0, cap0, rfl⟩ := hv0.long
  clear hv0
  go_enter Try.func12, Try.ntmps12
  go_wp2_with fail
  go_ret
  exact says rfl (Below.refl w.heap.size w)

set_option maxRecDepth 100000 in
set_option maxHeartbeats 8000000 in
theorem fnExactFrontCost_all (v0 : Value) (A : List Int) (n : Int) (w : World) (hv0 : IL w v0 A) (f0 : FitI A) (f1 : -9223372036854775808 ≤ n ∧ n ≤ 9223372036854775807) :
    Calls Try.prog 12 #[v0, .int .i64 n] w (Says true w) := by
  by_cases hl0 : 1048576 < A.length
  · exact fnExactFrontCost_long0 v0 A n w hv0  hl0 f0.1
  exact fnExactFrontCost_main v0 A n w hv0 ⟨by omega, f0⟩ f1

theorem Try.own : ownKnob Try.prog.godebug = none := by kernel_rfl
theorem Try.laidOut : laidOutB Try.prog = true := by kernel_rfl
theorem f32_lt {x : Nat} (h : (Lit.float .f32 x).wf = true) : x < 4294967296 := by simpa [Lit.wf] using h
theorem f64_lt {x : Nat} (h : (Lit.float .f64 x).wf = true) : x < 18446744073709551616 := by simpa [Lit.wf] using h
theorem i64_in {x : Int} (h : (Lit.int .i64 x).wf = true) : -9223372036854775808 ≤ x ∧ x ≤ 9223372036854775807 := by
  have h1 : IntKind.i64.min = -9223372036854775808 := by decide
  have h2 : IntKind.i64.max = 9223372036854775807 := by decide
  simp only [Lit.wf, Bool.and_eq_true, decide_eq_true_eq, h1, h2] at h
  exact h

set_option maxRecDepth 100000 in
theorem fnExactFrontCost_lifted (os : Os) (started : os.Started) (H : Type) (enc : TypeId × Value → H) :
    ReturnsInHanded {} Try.checked os 12 .any (Rows.fnExactFrontCostSpec.pre6 enc Try.prog Try.f12 [] false) (Rows.fnExactFrontCostSpec.post enc Try.prog Try.f12 false true false false) := by
  refine Frame.law_lifted (tb := 4) Try.own started (by kernel_rfl) Try.func12
    (ChangeSpec.witness6 (enc := enc) (C := Try.checked) false ⟨#[], #[.slice none 0 0, .int .i64 0], []⟩ 8 (by kernel_rfl) (by kernel_rfl) (by kernel_rfl) (by kernel_rfl))
    Try.laidOut (by kernel_rfl) rfl (by kernel_rfl) Try.underlying4 (fun ds hd => ?_) ?_
  · rw [Try.params12] at hd
    match ds, hd with
    | [_, _], _ => exact ⟨rfl, rfl, rfl⟩
  intro W base args ds p hval0 hA0 hlt hsz0
  have hval : ∀ (j : Nat) t v, Try.f12.params[j]? = some t → args[j]? = some v → Value.okWide Try.prog W .any base t v := hval0
  have hA : DataW.TrodAll enc Try.prog W 0 (fun _ => true) true Try.f12.params.toList args.toList ds p := hA0
  have hsz : (DataW.weightsEach Try.prog Try.f12.params.toList ds).all (· ≤ reachBytes) = true := hsz0
  rw [Try.params12] at hA hval hsz
  clear hval0 hA0 hsz0
  obtain ⟨v0, v1, d0, d1, p0, p1, rfl, rfl, rfl, h0, h1⟩ := trodAll_two hA
  obtain ⟨r0, g0, k0⟩ := open_i64s (hval 0 25 v0 rfl rfl) h0
  obtain ⟨a1, rfl, rfl, rfl, w1⟩ := open_int Try.underlying2 (hval 1 2 v1 rfl rfl) h1
  have b1 := i64_in w1
  exact fnExactFrontCost_all v0 r0 a1 W g0 k0 b1

theorem fnExactFrontCost_holds : Rows.FnExactFrontCostSaid :=
  OpenClaim.holds_of_wide 12 Try.f12 rfl rfl rfl rfl rfl rfl rfl ⟨rfl, rfl, rfl, rfl, rfl⟩ rfl rfl rfl rfl rfl (by kernel_rfl) Try.func12 (by kernel_rfl)
    (of_decide_eq_true (by kernel_rfl)) (by unfold Func.isWrapper; first | (rw [if_pos (by decide +kernel)]; kernel_rfl) | (rw [if_neg (by decide +kernel)]; exact ⟨rfl, rfl⟩))
    (fun os started H enc _ => fnExactFrontCost_lifted os started H enc)
end Go.Proofs.Ytnakpfbeeekmiaa
