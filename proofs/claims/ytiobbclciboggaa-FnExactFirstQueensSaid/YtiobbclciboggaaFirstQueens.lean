/- FirstQueens answers as its model, for all arguments; it writes into no argument. -/
import Derived.Test.YtiobbclciboggaaQnI
import Derived.Test.YtiobbclciboggaaQnS
import Derived.Test.YtiobbclciboggaaIl
import Derived.Deep.RegionWith
import Derived.Deep.DeepCutAuto
import Derived.Test.YtiobbclciboggaaFrame
import Derived.Outline
namespace Go.Proofs.Ytiobbclciboggaa
open Go.ChangeShapes Go.WideShapes Go.ChangeAt Go.RowKit Go.ChangeMaps

set_option maxRecDepth 100000 in
set_option maxHeartbeats 8000000 in
theorem fnExactFirstQueens_main  (n : Int) (w : World) (o0 : -9223372036854775808 ≤ n ∧ n ≤ 9223372036854775807) :
    Calls Try.prog 6 #[.int .i64 n] w (Says true w) := by
  skip
  go_enter Try.func6, Try.ntmps6
  go_wp2_with fail
  go_at_call 29; refine (specFirstQueens_any n _  o0).mono ?_; rintro e w1 ⟨w0v, rfl, i0, b⟩
  have F1_1 := Lib.hid (II.wide' (lo' := w.heap.size) i0 (Below.refl w.heap.size w).size)
  clear i0
  have bz := b
  have z1 : w.heap.size ≤ w1.heap.size := bz.size
  have H1 := Lib.hid ((Below.refl w.heap.size w).trans (bz.mono (Below.refl w.heap.size w).size))
  clear b bz
  go_wp2_with fail
  go_at_call 30; refine (implFirstQueens_any n _  o0).mono ?_; rintro e w2 ⟨g0v, rfl, i0, b⟩
  have F2_2 := Lib.hid (II.wide' (lo' := w1.heap.size) i0 (Below.refl w1.heap.size w1).size)
  clear i0
  have bz := b
  have F2_1 := Lib.hid (F1_1.out.below' bz (Nat.le_refl _))
  have z2 : w1.heap.size ≤ w2.heap.size := bz.size
  have H2 := Lib.hid (H1.out.trans (bz.mono H1.out.size))
  clear b bz F1_1 H1
  go_wp2_with fail
  go_at_call 19; refine (eqI64_says _ _ (qfL n) _ (qfL_len n) F2_2.out.il F2_1.out.il).mono ?_; rintro e w3 ⟨rfl, b⟩
  have bz := b
  have F3_1 := Lib.hid (F2_1.out.below' bz (Nat.le_refl _))
  have F3_2 := Lib.hid (F2_2.out.below' bz (Nat.le_refl _))
  have z3 : w2.heap.size ≤ w3.heap.size := bz.size
  have H3 := Lib.hid (H2.out.trans (bz.mono H2.out.size))
  clear b bz F2_1 F2_2 H2
  go_wp2_with fail
  go_at_call 22; refine (markI64_any w1.heap.size w2.heap.size _ (qfL n) 1 _ F3_2.out (qfL_len n) (by omega) (by omega)).mono ?_; rintro e w4 ⟨rfl, i, t⟩
  have G4_2 := Lib.hid i
  clear i
  have F4_1 := Lib.hid (F3_1.out.kept' t (by omega))
  have z4 : w3.heap.size ≤ w4.heap.size := t.size
  have H4 := Lib.hid (H3.out.trans ((t.below (by omega)).mono (by omega)))
  clear t F3_1 F3_2 H3
  have hk4 : decide (1 + (((qfL n).length : Nat) : Int) < 0) = false := by simp; omega
  go_wp2_with fail
  go_at_call 23; refine (heldI64_says _ 1 ((qfL n)).length _ G4_2.out.il (qfL_len n) (by omega) (by omega)).mono ?_; rintro e w5 ⟨rfl, b⟩
  have bz := b
  have F5_1 := Lib.hid (F4_1.out.below' bz (Nat.le_refl _))
  have F5_2 := Lib.hid (G4_2.out.below' bz (Nat.le_refl _))
  have z5 : w4.heap.size ≤ w5.heap.size := bz.size
  have H5 := Lib.hid (H4.out.trans (bz.mono H4.out.size))
  clear b bz F4_1 G4_2 H4
  go_wp2_with fail
  go_at_call 30; refine (implFirstQueens_any n _  o0).mono ?_; rintro e w6 ⟨h0v, rfl, i0, b⟩
  have F6_3 := Lib.hid (II.wide' (lo' := w5.heap.size) i0 (Below.refl w5.heap.size w5).size)
  clear i0
  have bz := b
  have F6_1 := Lib.hid (F5_1.out.below' bz (Nat.le_refl _))
  have F6_2 := Lib.hid (F5_2.out.below' bz (Nat.le_refl _))
  have z6 : w5.heap.size ≤ w6.heap.size := bz.size
  have H6 := Lib.hid (H5.out.trans (bz.mono H5.out.size))
  clear b bz F5_1 F5_2 H5
  go_wp2_with fail
  go_at_call 19; refine (eqI64_says _ _ (qfL n) _ (qfL_len n) F6_3.out.il F6_1.out.il).mono ?_; rintro e w7 ⟨rfl, b⟩
  have bz := b
  have F7_1 := Lib.hid (F6_1.out.below' bz (Nat.le_refl _))
  have F7_2 := Lib.hid (F6_2.out.below' bz (Nat.le_refl _))
  have F7_3 := Lib.hid (F6_3.out.below' bz (Nat.le_refl _))
  have z7 : w6.heap.size ≤ w7.heap.size := bz.size
  have H7 := Lib.hid (H6.out.trans (bz.mono H6.out.size))
  clear b bz F6_1 F6_2 F6_3 H6
  go_wp2_with fail
  go_at_call 23; refine (heldI64_says _ 1 ((qfL n)).length _ F7_2.out.il (qfL_len n) (by omega) (by omega)).mono ?_; rintro e w8 ⟨rfl, b⟩
  have bz := b
  have F8_1 := Lib.hid (F7_1.out.below' bz (Nat.le_refl _))
  have F8_2 := Lib.hid (F7_2.out.below' bz (Nat.le_refl _))
  have F8_3 := Lib.hid (F7_3.out.below' bz (Nat.le_refl _))
  have z8 : w7.heap.size ≤ w8.heap.size := bz.size
  have H8 := Lib.hid (H7.out.trans (bz.mono H7.out.size))
  clear b bz F7_1 F7_2 F7_3 H7
  go_wp2_with fail
  go_ret
  exact says rfl H8.out
set_option maxRecDepth 100000 in
set_option maxHeartbeats 8000000 in
theorem fnExactFirstQueens_all  (n : Int) (w : World) (f0 : -9223372036854775808 ≤ n ∧ n ≤ 9223372036854775807) :
    Calls Try.prog 6 #[.int .i64 n] w (Says true w) := by
  exact fnExactFirstQueens_main  n w  f0

theorem Try.own : ownKnob Try.prog.godebug = none := by kernel_rfl
theorem Try.laidOut : laidOutB Try.prog = true := by kernel_rfl
theorem f32_lt {x : Nat} (h : (Lit.float .f32 x).wf = true) : x < 4294967296 := by simpa [Lit.wf] using h
theorem f64_lt {x : Nat} (h : (Lit.float .f64 x).wf = true) : x < 18446744073709551616 := by simpa [Lit.wf] using h
theorem i64_in {x : Int} (h : (Lit.int .i64 x).wf = true) : -9223372036854775808 ≤ x ∧ x ≤ 9223372036854775807 := by
  have h1 : IntKind.i64.min = -9223372036854775808 := by decide
  have h2 : IntKind.i64.max = 9223372036854775807 := by decide
  simp only [Lit.wf, Bool.and_eq_true, decide_eq_true_eq, h1, h2] at h
  exact h

set_option maxRecDepth 100000 in
theorem fnExactFirstQueens_lifted (os : Os) (started : os.Started) (H : Type) (enc : TypeId × Value → H) :
    ReturnsInHanded {} Try.checked os 6 .any (Rows.fnExactFirstQueensSpec.pre6 enc Try.prog Try.f6 [] false) (Rows.fnExactFirstQueensSpec.post enc Try.prog Try.f6 false true false false) := by
  refine Frame.law_lifted (tb := 4) Try.own started (by kernel_rfl) Try.func6
    (ChangeSpec.witness6 (enc := enc) (C := Try.checked) false ⟨#[], #[.int .i64 0], []⟩ 8 (by kernel_rfl) (by kernel_rfl) (by kernel_rfl) (by kernel_rfl))
    Try.laidOut (by kernel_rfl) rfl (by kernel_rfl) Try.underlying4 (fun ds hd => ?_) ?_
  · rw [Try.params6] at hd
    match ds, hd with
    | [_], _ => exact ⟨rfl, rfl, rfl⟩
  intro W base args ds p hval0 hA0 hlt hsz0
  have hval : ∀ (j : Nat) t v, Try.f6.params[j]? = some t → args[j]? = some v → Value.okWide Try.prog W .any base t v := hval0
  have hA : DataW.TrodAll enc Try.prog W 0 (fun _ => true) true Try.f6.params.toList args.toList ds p := hA0
  have hsz : (DataW.weightsEach Try.prog Try.f6.params.toList ds).all (· ≤ reachBytes) = true := hsz0
  rw [Try.params6] at hA hval hsz
  clear hval0 hA0 hsz0
  obtain ⟨v0, d0, rfl, rfl, h0⟩ := trodAll_one hA
  obtain ⟨a0, rfl, rfl, rfl, w0⟩ := open_int Try.underlying2 (hval 0 2 v0 rfl rfl) h0
  have b0 := i64_in w0
  exact fnExactFirstQueens_all a0 W  b0

theorem fnExactFirstQueens_holds : Rows.FnExactFirstQueensSaid :=
  OpenClaim.holds_of_wide 6 Try.f6 rfl rfl rfl rfl rfl rfl rfl ⟨rfl, rfl, rfl, rfl, rfl⟩ rfl rfl rfl rfl rfl (by kernel_rfl) Try.func6 (by kernel_rfl)
    (of_decide_eq_true (by kernel_rfl)) (by unfold Func.isWrapper; first | (rw [if_pos (by decide +kernel)]; kernel_rfl) | (rw [if_neg (by decide +kernel)]; exact ⟨rfl, rfl⟩))
    (fun os started H enc _ => fnExactFirstQueens_lifted os started H enc)
end Go.Proofs.Ytiobbclciboggaa
