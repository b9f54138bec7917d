/- AtMostForm answers as its model, for all arguments; it writes into no argument. -/
import Derived.Test.YtnakpfbeeekmiaaFmH
import Derived.Test.YtnakpfbeeekmiaaAmT
import Derived.Test.YtnakpfbeeekmiaaAmK
import Derived.Test.YtnakpfbeeekmiaaLsG
import Derived.Test.YtnakpfbeeekmiaaIl
import Derived.Deep.RegionWith
import Derived.Deep.DeepCutAuto
import Derived.Test.YtnakpfbeeekmiaaFrame
import Derived.Outline
namespace Go.Proofs.Ytnakpfbeeekmiaa
open Go.ChangeShapes Go.WideShapes Go.ChangeAt Go.RowKit Go.ChangeMaps

set_option maxRecDepth 100000 in
set_option maxHeartbeats 8000000 in
theorem fnExactAtMostForm_main  (n : Int) (m : Int) (w : World) (o0 : -9223372036854775808 ≤ n ∧ n ≤ 9223372036854775807) (o1 : -9223372036854775808 ≤ m ∧ m ≤ 9223372036854775807) :
    Calls Try.prog 9 #[.int .i64 n, .int .i64 m] w (Says true w) := by
  skip
  go_enter Try.func9, Try.ntmps9
  go_wp2_with fail
  go_at_call 39; refine (specAtMostForm_any n m _  o0 o1).mono ?_; rintro e w1 ⟨w0v, rfl, i0, b⟩
  obtain ⟨w0c1, w0ck1, rfl⟩ := i0.split
  have F1_1 := Lib.hid (FmD.wide (lo' := w.heap.size) i0 (Below.refl w.heap.size w).size)
  clear i0
  have bz := b
  have z1 : w.heap.size ≤ w1.heap.size := bz.size
  have H1 := Lib.hid ((Below.refl w.heap.size w).trans (bz.mono (Below.refl w.heap.size w).size))
  clear b bz
  have F1_2 := Lib.hid (Box2.mk' w1 (.int .i64 (amF n m).letters) (.slice w0c1 (amF n m).cs.length w0ck1) 29)
  go_wp2_with fail
  go_at_call 40; refine (implAtMostForm_any n m _  o0 o1).mono ?_; rintro e w2 ⟨g0v, rfl, i0, b⟩
  obtain ⟨g0c1, g0ck1, rfl⟩ := i0.split
  have F2_3 := Lib.hid (FmD.wide (lo' := (w1.heap.size + 1)) i0 (by simp))
  clear i0
  have bz := (below_alloc w1 _).trans (b.mono (below_alloc w1 _).size)
  have F2_1 := Lib.hid (F1_1.out.below bz (Nat.le_refl _))
  have F2_2 := Lib.hid (F1_2.out.keep b F1_2.out.lt)
  have lb2 : w1.heap.size < w2.heap.size := F2_2.out.lt
  have z2 : w1.heap.size ≤ w2.heap.size := bz.size
  have H2 := Lib.hid (H1.out.trans (bz.mono H1.out.size))
  clear b bz F1_1 F1_2 H1
  have F2_4 := Lib.hid (Box2.mk' w2 (.int .i64 (amF n m).letters) (.slice g0c1 (amF n m).cs.length g0ck1) 29)
  obtain ⟨c2_0, c2_1⟩ := F2_2.out
  have l2 := F2_2.out.lt
  go_wp2_with fail
  clear c2_0 c2_1 l2
  go_at_call 19; refine (eqForm_any _ _ (amF n m) _ (amF_len n m) (F2_3.out.below (below_alloc w2 _) (Nat.le_refl _)).fv (F2_1.out.below (below_alloc w2 _) (Nat.le_refl _)).fv).mono ?_; rintro e w3 ⟨rfl, b⟩
  have bz := (below_alloc w2 _).trans (b.mono (below_alloc w2 _).size)
  have F3_1 := Lib.hid (F2_1.out.below bz (Nat.le_refl _))
  have F3_2 := Lib.hid (F2_2.out.keep bz F2_2.out.lt)
  have F3_3 := Lib.hid (F2_3.out.below bz (Nat.le_refl _))
  have F3_4 := Lib.hid (F2_4.out.keep b F2_4.out.lt)
  have lb4 : w2.heap.size < w3.heap.size := F3_4.out.lt
  have z3 : w2.heap.size ≤ w3.heap.size := bz.size
  have H3 := Lib.hid (H2.out.trans (bz.mono H2.out.size))
  clear b bz F2_1 F2_2 F2_3 F2_4 H2
  obtain ⟨c2_0, c2_1⟩ := F3_2.out
  have l2 := F3_2.out.lt
  obtain ⟨c4_0, c4_1⟩ := F3_4.out
  have l4 := F3_4.out.lt
  go_wp2_with fail
  clear c2_0 c2_1 l2 c4_0 c4_1 l4
  go_at_call 20; refine (markForm_any (w1.heap.size + 1) w2.heap.size _ (amF n m) 1 _ F3_3.out (amF_len n m) (by omega) (by omega)).mono ?_; rintro e w4 ⟨rfl, i, t⟩
  have G4_3 := Lib.hid i
  clear i
  have F4_1 := Lib.hid (F3_1.out.kept t (by omega))
  have F4_2 := Lib.hid (F3_2.out.kept t (by omega))
  have F4_4 := Lib.hid (F3_4.out.kept t (by omega))
  have z4 : w3.heap.size ≤ w4.heap.size := t.size
  have H4 := Lib.hid (H3.out.trans ((t.below (by omega)).mono (by omega)))
  clear t F3_1 F3_2 F3_3 F3_4 H3
  have hk4 : decide (1 + (((totAt (amF n m).cs (amF n m).cs.length) : Nat) : Int) < 0) = false := by simp; omega
  obtain ⟨c2_0, c2_1⟩ := F4_2.out
  have l2 := F4_2.out.lt
  obtain ⟨c4_0, c4_1⟩ := F4_4.out
  have l4 := F4_4.out.lt
  go_wp2_with fail
  clear c2_0 c2_1 l2 c4_0 c4_1 l4
  go_at_call 36; refine (heldForm_any _ 1 ((amF n m)) _ G4_3.out.fv (amF_len n m) (by omega) (by omega)).mono ?_; rintro e w5 ⟨rfl, b⟩
  have bz := b
  have F5_1 := Lib.hid (F4_1.out.below bz (Nat.le_refl _))
  have F5_2 := Lib.hid (F4_2.out.keep bz F4_2.out.lt)
  have F5_4 := Lib.hid (F4_4.out.keep bz F4_4.out.lt)
  have F5_3 := Lib.hid (G4_3.out.below bz (Nat.le_refl _))
  have z5 : w4.heap.size ≤ w5.heap.size := bz.size
  have H5 := Lib.hid (H4.out.trans (bz.mono H4.out.size))
  clear b bz F4_1 F4_2 F4_4 G4_3 H4
  obtain ⟨c2_0, c2_1⟩ := F5_2.out
  have l2 := F5_2.out.lt
  obtain ⟨c4_0, c4_1⟩ := F5_4.out
  have l4 := F5_4.out.lt
  go_wp2_with fail
  clear c2_0 c2_1 l2 c4_0 c4_1 l4
  go_at_call 40; refine (implAtMostForm_any n m _  o0 o1).mono ?_; rintro e w6 ⟨h0v, rfl, i0, b⟩
  obtain ⟨h0c1, h0ck1, rfl⟩ := i0.split
  have F6_5 := Lib.hid (FmD.wide (lo' := w5.heap.size) i0 (Below.refl w5.heap.size w5).size)
  clear i0
  have bz := b
  have F6_1 := Lib.hid (F5_1.out.below bz (Nat.le_refl _))
  have F6_2 := Lib.hid (F5_2.out.keep bz F5_2.out.lt)
  have F6_4 := Lib.hid (F5_4.out.keep bz F5_4.out.lt)
  have F6_3 := Lib.hid (F5_3.out.below bz (Nat.le_refl _))
  have z6 : w5.heap.size ≤ w6.heap.size := bz.size
  have H6 := Lib.hid (H5.out.trans (bz.mono H5.out.size))
  clear b bz F5_1 F5_2 F5_4 F5_3 H5
  have F6_6 := Lib.hid (Box2.mk' w6 (.int .i64 (amF n m).letters) (.slice h0c1 (amF n m).cs.length h0ck1) 29)
  obtain ⟨c2_0, c2_1⟩ := F6_2.out
  have l2 := F6_2.out.lt
  obtain ⟨c4_0, c4_1⟩ := F6_4.out
  have l4 := F6_4.out.lt
  go_wp2_with fail
  clear c2_0 c2_1 l2 c4_0 c4_1 l4
  go_at_call 19; refine (eqForm_any _ _ (amF n m) _ (amF_len n m) (F6_5.out.below (below_alloc w6 _) (Nat.le_refl _)).fv (F6_1.out.below (below_alloc w6 _) (Nat.le_refl _)).fv).mono ?_; rintro e w7 ⟨rfl, b⟩
  have bz := (below_alloc w6 _).trans (b.mono (below_alloc w6 _).size)
  have F7_1 := Lib.hid (F6_1.out.below bz (Nat.le_refl _))
  have F7_2 := Lib.hid (F6_2.out.keep bz F6_2.out.lt)
  have F7_4 := Lib.hid (F6_4.out.keep bz F6_4.out.lt)
  have F7_3 := Lib.hid (F6_3.out.below bz (Nat.le_refl _))
  have F7_5 := Lib.hid (F6_5.out.below bz (Nat.le_refl _))
  have F7_6 := Lib.hid (F6_6.out.keep b F6_6.out.lt)
  have lb6 : w6.heap.size < w7.heap.size := F7_6.out.lt
  have z7 : w6.heap.size ≤ w7.heap.size := bz.size
  have H7 := Lib.hid (H6.out.trans (bz.mono H6.out.size))
  clear b bz F6_1 F6_2 F6_4 F6_3 F6_5 F6_6 H6
  obtain ⟨c2_0, c2_1⟩ := F7_2.out
  have l2 := F7_2.out.lt
  obtain ⟨c4_0, c4_1⟩ := F7_4.out
  have l4 := F7_4.out.lt
  obtain ⟨c6_0, c6_1⟩ := F7_6.out
  have l6 := F7_6.out.lt
  go_wp2_with fail
  clear c2_0 c2_1 l2 c4_0 c4_1 l4 c6_0 c6_1 l6
  go_at_call 36; refine (heldForm_any _ 1 ((amF n m)) _ F7_3.out.fv (amF_len n m) (by omega) (by omega)).mono ?_; rintro e w8 ⟨rfl, b⟩
  have bz := b
  have F8_1 := Lib.hid (F7_1.out.below bz (Nat.le_refl _))
  have F8_2 := Lib.hid (F7_2.out.keep bz F7_2.out.lt)
  have F8_4 := Lib.hid (F7_4.out.keep bz F7_4.out.lt)
  have F8_3 := Lib.hid (F7_3.out.below bz (Nat.le_refl _))
  have F8_5 := Lib.hid (F7_5.out.below bz (Nat.le_refl _))
  have F8_6 := Lib.hid (F7_6.out.keep bz F7_6.out.lt)
  have z8 : w7.heap.size ≤ w8.heap.size := bz.size
  have H8 := Lib.hid (H7.out.trans (bz.mono H7.out.size))
  clear b bz F7_1 F7_2 F7_4 F7_3 F7_5 F7_6 H7
  obtain ⟨c2_0, c2_1⟩ := F8_2.out
  have l2 := F8_2.out.lt
  obtain ⟨c4_0, c4_1⟩ := F8_4.out
  have l4 := F8_4.out.lt
  obtain ⟨c6_0, c6_1⟩ := F8_6.out
  have l6 := F8_6.out.lt
  go_wp2_with fail
  clear c2_0 c2_1 l2 c4_0 c4_1 l4 c6_0 c6_1 l6
  go_ret
  exact says rfl H8.out
set_option maxRecDepth 100000 in
set_option maxHeartbeats 8000000 in
theorem fnExactAtMostForm_all  (n : Int) (m : Int) (w : World) (f0 : -9223372036854775808 ≤ n ∧ n ≤ 9223372036854775807) (f1 : -9223372036854775808 ≤ m ∧ m ≤ 9223372036854775807) :
    Calls Try.prog 9 #[.int .i64 n, .int .i64 m] w (Says true w) := by
  exact fnExactAtMostForm_main  n m w  f0 f1

theorem Try.own : ownKnob Try.prog.godebug = none := by kernel_rfl
theorem Try.laidOut : laidOutB Try.prog = true := by kernel_rfl
theorem f32_lt {x : Nat} (h : (Lit.float .f32 x).wf = true) : x < 4294967296 := by simpa [Lit.wf] using h
theorem f64_lt {x : Nat} (h : (Lit.float .f64 x).wf = true) : x < 18446744073709551616 := by simpa [Lit.wf] using h
theorem i64_in {x : Int} (h : (Lit.int .i64 x).wf = true) : -9223372036854775808 ≤ x ∧ x ≤ 9223372036854775807 := by
  have h1 : IntKind.i64.min = -9223372036854775808 := by decide
  have h2 : IntKind.i64.max = 9223372036854775807 := by decide
  simp only [Lit.wf, Bool.and_eq_true, decide_eq_true_eq, h1, h2] at h
  exact h

set_option maxRecDepth 100000 in
theorem fnExactAtMostForm_lifted (os : Os) (started : os.Started) (H : Type) (enc : TypeId × Value → H) :
    ReturnsInHanded {} Try.checked os 9 .any (Rows.fnExactAtMostFormSpec.pre6 enc Try.prog Try.f9 [] false) (Rows.fnExactAtMostFormSpec.post enc Try.prog Try.f9 false true false false) := by
  refine Frame.law_lifted (tb := 4) Try.own started (by kernel_rfl) Try.func9
    (ChangeSpec.witness6 (enc := enc) (C := Try.checked) false ⟨#[], #[.int .i64 0, .int .i64 0], []⟩ 8 (by kernel_rfl) (by kernel_rfl) (by kernel_rfl) (by kernel_rfl))
    Try.laidOut (by kernel_rfl) rfl (by kernel_rfl) Try.underlying4 (fun ds hd => ?_) ?_
  · rw [Try.params9] at hd
    match ds, hd with
    | [_, _], _ => exact ⟨rfl, rfl, rfl⟩
  intro W base args ds p hval0 hA0 hlt hsz0
  have hval : ∀ (j : Nat) t v, Try.f9.params[j]? = some t → args[j]? = some v → Value.okWide Try.prog W .any base t v := hval0
  have hA : DataW.TrodAll enc Try.prog W 0 (fun _ => true) true Try.f9.params.toList args.toList ds p := hA0
  have hsz : (DataW.weightsEach Try.prog Try.f9.params.toList ds).all (· ≤ reachBytes) = true := hsz0
  rw [Try.params9] at hA hval hsz
  clear hval0 hA0 hsz0
  obtain ⟨v0, v1, d0, d1, p0, p1, rfl, rfl, rfl, h0, h1⟩ := trodAll_two hA
  obtain ⟨a0, rfl, rfl, rfl, w0⟩ := open_int Try.underlying2 (hval 0 2 v0 rfl rfl) h0
  have b0 := i64_in w0
  obtain ⟨a1, rfl, rfl, rfl, w1⟩ := open_int Try.underlying2 (hval 1 2 v1 rfl rfl) h1
  have b1 := i64_in w1
  exact fnExactAtMostForm_all a0 a1 W  b0 b1

theorem fnExactAtMostForm_holds : Rows.FnExactAtMostFormSaid :=
  OpenClaim.holds_of_wide 9 Try.f9 rfl rfl rfl rfl rfl rfl rfl ⟨rfl, rfl, rfl, rfl, rfl⟩ rfl rfl rfl rfl rfl (by kernel_rfl) Try.func9 (by kernel_rfl)
    (of_decide_eq_true (by kernel_rfl)) (by unfold Func.isWrapper; first | (rw [if_pos (by decide +kernel)]; kernel_rfl) | (rw [if_neg (by decide +kernel)]; exact ⟨rfl, rfl⟩))
    (fun os started H enc _ => fnExactAtMostForm_lifted os started H enc)
end Go.Proofs.Ytnakpfbeeekmiaa
