/- MostLate answers as its model, for all arguments; it writes into no argument. -/
import Derived.Test.YtgiijkbgbpohoaaMl
import Derived.Test.YtgiijkbgbpohoaaIl
import Derived.Deep.RegionWith
import Derived.Deep.DeepCutAuto
import Derived.Test.YtgiijkbgbpohoaaFrame
import Derived.Outline
namespace Go.Proofs.Ytgiijkbgbpohoaa
open Go.ChangeShapes Go.WideShapes Go.ChangeAt Go.RowKit Go.ChangeMaps

set_option maxRecDepth 100000 in
set_option maxHeartbeats 8000000 in
theorem fnExactMostLate_main (v0 v1 : Value) (Z : List Ac) (T : List Int) (w : World) (hv0 : AV w v0 Z) (hv1 : IL w v1 T) (o0 : OKA Z) (o1 : OKI T) (hm : (Z.length : Int) ≤ (1048576 : Int)) :
    Calls Try.prog 6 #[v0, v1] w (Says true w) := by
  have V0 := Lib.hid hv0
  obtain ⟨a0, cap0, rfl⟩ := hv0.long
  clear hv0
  have V1 := Lib.hid hv1
  obtain ⟨a1, cap1, rfl⟩ := hv1.long
  clear hv1
  have hs0 := o0.size
  have hl1 : ¬ 1048576 < T.length := by have := o1.size; omega
  have hs1 := o1.size
  have ht0 : decide (1048576 - (Z.length : Int) < 0) = false := by simp; omega
  have hmm := hm
  go_enter Try.func6, Try.ntmps6
  go_wp2_with fail
  go_at_call 15; refine (szA_yes _ Z _ _ (V0.out.below (Below.refl w.heap.size w) (Nat.le_refl _)) (by omega) (by omega)).mono ?_; rintro e w1 ⟨rfl, b⟩
  have bz := b
  have z1 : w.heap.size ≤ w1.heap.size := bz.size
  have H1 := Lib.hid ((Below.refl w.heap.size w).trans (bz.mono (Below.refl w.heap.size w).size))
  clear b bz
  go_wp2_with fail
  go_at_call 17; refine (toJobS_any _ Z _ (V0.out.below H1.out (Nat.le_refl _)) (by omega)).mono ?_; rintro e w2 ⟨q0v, rfl, i, b⟩
  have F2_1 := Lib.hid (AI.wide' (lo' := w1.heap.size) i (Below.refl w1.heap.size w1).size)
  clear i
  have bz := b
  have z2 : w1.heap.size ≤ w2.heap.size := bz.size
  have H2 := Lib.hid (H1.out.trans (bz.mono H1.out.size))
  clear b bz H1
  go_wp2_with fail
  go_at_call 21; refine (toI64_si _ T _ (V1.out.below H2.out (Nat.le_refl _)) (by omega)).mono ?_; rintro e w3 ⟨q1v, rfl, i, b⟩
  have F3_2 := Lib.hid (II.wide' (lo' := w2.heap.size) i (Below.refl w2.heap.size w2).size)
  clear i
  have bz := b
  have F3_1 := Lib.hid (F2_1.out.below' bz (Nat.le_refl _))
  have z3 : w2.heap.size ≤ w3.heap.size := bz.size
  have H3 := Lib.hid (H2.out.trans (bz.mono H2.out.size))
  clear b bz F2_1 H2
  go_wp2_with fail
  go_at_call 29; refine (specMostLate_any _ Z _ T _ F3_1.out.av F3_2.out.il o0 o1).mono ?_; rintro e w4 ⟨rfl, b⟩
  have bz := b
  have z4 : w3.heap.size ≤ w4.heap.size := bz.size
  have H4 := Lib.hid (H3.out.trans (bz.mono H3.out.size))
  clear b bz F3_1 F3_2 H3
  go_wp2_with fail
  go_at_call 17; refine (toJobS_any _ Z _ (V0.out.below H4.out (Nat.le_refl _)) (by omega)).mono ?_; rintro e w5 ⟨x0v, rfl, i, b⟩
  obtain ⟨x0a, x0c, rfl⟩ := AI.len' i
  have F5_3 := Lib.hid (AI.wide' (lo' := w4.heap.size) i (Below.refl w4.heap.size w4).size)
  clear i
  have bz := b
  have z5 : w4.heap.size ≤ w5.heap.size := bz.size
  have H5 := Lib.hid (H4.out.trans (bz.mono H4.out.size))
  clear b bz H4
  go_wp2_with fail
  go_at_call 21; refine (toI64_si _ T _ (V1.out.below H5.out (Nat.le_refl _)) (by omega)).mono ?_; rintro e w6 ⟨x1v, rfl, i, b⟩
  obtain ⟨x1a, x1c, rfl⟩ := II.len' i
  have F6_4 := Lib.hid (II.wide' (lo' := w5.heap.size) i (Below.refl w5.heap.size w5).size)
  clear i
  have bz := b
  have F6_3 := Lib.hid (F5_3.out.below' bz (Nat.le_refl _))
  have z6 : w5.heap.size ≤ w6.heap.size := bz.size
  have H6 := Lib.hid (H5.out.trans (bz.mono H5.out.size))
  clear b bz F5_3 H5
  go_wp2_with fail
  go_at_call 30; refine (implMostLate_any _ Z _ T _ F6_3.out.av F6_4.out.il o0 o1).mono ?_; rintro e w7 ⟨rfl, b⟩
  have bz := b
  have F7_3 := Lib.hid (F6_3.out.below' bz (Nat.le_refl _))
  have F7_4 := Lib.hid (F6_4.out.below' bz (Nat.le_refl _))
  have z7 : w6.heap.size ≤ w7.heap.size := bz.size
  have H7 := Lib.hid (H6.out.trans (bz.mono H6.out.size))
  clear b bz F6_3 F6_4 H6
  go_wp2_with fail
  go_at_call 17; refine (toJobS_any _ Z _ (V0.out.below H7.out (Nat.le_refl _)) (by omega)).mono ?_; rintro e w8 ⟨tv, rfl, i, b⟩
  have F8_5 := Lib.hid (AI.wide' (lo' := w7.heap.size) i (Below.refl w7.heap.size w7).size)
  clear i
  have bz := b
  have F8_3 := Lib.hid (F7_3.out.below' bz (Nat.le_refl _))
  have F8_4 := Lib.hid (F7_4.out.below' bz (Nat.le_refl _))
  have z8 : w7.heap.size ≤ w8.heap.size := bz.size
  have H8 := Lib.hid (H7.out.trans (bz.mono H7.out.size))
  clear b bz F7_3 F7_4 H7
  go_wp2_with fail
  go_at_call 19; refine (eqJobS_any _ _ Z _ (by omega) F8_3.out.av F8_5.out.av).mono ?_; rintro e w9 ⟨rfl, b⟩
  have bz := b
  have F9_4 := Lib.hid (F8_4.out.below' bz (Nat.le_refl _))
  have z9 : w8.heap.size ≤ w9.heap.size := bz.size
  have H9 := Lib.hid (H8.out.trans (bz.mono H8.out.size))
  clear b bz F8_3 F8_4 F8_5 H8
  go_wp2_with fail
  go_at_call 21; refine (toI64_si _ T _ (V1.out.below H9.out (Nat.le_refl _)) (by omega)).mono ?_; rintro e w10 ⟨tv, rfl, i, b⟩
  have F10_6 := Lib.hid (II.wide' (lo' := w9.heap.size) i (Below.refl w9.heap.size w9).size)
  clear i
  have bz := b
  have F10_4 := Lib.hid (F9_4.out.below' bz (Nat.le_refl _))
  have z10 : w9.heap.size ≤ w10.heap.size := bz.size
  have H10 := Lib.hid (H9.out.trans (bz.mono H9.out.size))
  clear b bz F9_4 H9
  go_wp2_with fail
  go_at_call 23; refine (eqI64_says _ _ T _ (by omega) F10_4.out.il F10_6.out.il).mono ?_; rintro e w11 ⟨rfl, b⟩
  have bz := b
  have z11 : w10.heap.size ≤ w11.heap.size := bz.size
  have H11 := Lib.hid (H10.out.trans (bz.mono H10.out.size))
  clear b bz F10_4 F10_6 H10
  go_wp2_with fail
  go_ret
  exact says rfl H11.out
set_option maxRecDepth 100000 in
set_option maxHeartbeats 8000000 in
theorem fnExactMostLate_long1 (v0 v1 : Value) (Z : List Ac) (T : List Int) (w : World) (hv0 : AV w v0 Z) (hv1 : IL w v1 T) (hb : 1048576 < T.length) (hx : T.length ≤ maxLen) :
    Calls Try.prog 6 #[v0, v1] w (Says true w) := by
  unfold maxLen at hx
  have V0 := Lib.hid hv0
  obtain ⟨a0, cap0, rfl⟩ := hv0.long
  clear hv0
  have V1 := Lib.hid hv1
  obtain ⟨a1, cap1, rfl⟩ := hv1.long
  clear hv1
  go_enter Try.func6, Try.ntmps6
  go_wp2_with fail
  go_ret
  exact says rfl (Below.refl w.heap.size w)

set_option maxRecDepth 100000 in
set_option maxHeartbeats 8000000 in
theorem fnExactMostLate_size0 (v0 v1 : Value) (Z : List Ac) (T : List Int) (w : World) (hv0 : AV w v0 Z) (hv1 : IL w v1 T) (hl1 : ¬ 1048576 < T.length) (hb : 1048576 < (Z.length : Int)) (fx : FitA Z) :
    Calls Try.prog 6 #[v0, v1] w (Says true w) := by
  have V0 := Lib.hid hv0
  obtain ⟨a0, cap0, rfl⟩ := hv0.long
  clear hv0
  have V1 := Lib.hid hv1
  obtain ⟨a1, cap1, rfl⟩ := hv1.long
  clear hv1
  have hz : ∀ n : Nat, (0 : Int) ≤ n := fun n => Int.natCast_nonneg n
  go_enter Try.func6, Try.ntmps6
  go_wp2_with fail
  go_at_call 15; refine (szA_no _ Z _ _ (V0.out.below (Below.refl w.heap.size w) (Nat.le_refl _)) hb (by omega) (by omega) fx.1).mono ?_; rintro e w1 ⟨rfl, b⟩
  have bz := b
  have z1 : w.heap.size ≤ w1.heap.size := bz.size
  have H1 := Lib.hid ((Below.refl w.heap.size w).trans (bz.mono (Below.refl w.heap.size w).size))
  clear b bz
  go_wp2_with fail
  go_ret
  exact says rfl H1.out

set_option maxRecDepth 100000 in
set_option maxHeartbeats 8000000 in
theorem fnExactMostLate_all (v0 v1 : Value) (Z : List Ac) (T : List Int) (w : World) (hv0 : AV w v0 Z) (hv1 : IL w v1 T) (f0 : FitA Z) (f1 : FitI T) :
    Calls Try.prog 6 #[v0, v1] w (Says true w) := by
  by_cases hl1 : 1048576 < T.length
  · exact fnExactMostLate_long1 v0 v1 Z T w hv0 hv1  hl1 f1.1
  by_cases hb0 : 1048576 < (Z.length : Int)
  · exact fnExactMostLate_size0 v0 v1 Z T w hv0 hv1 hl1 hb0 f0
  exact fnExactMostLate_main v0 v1 Z T w hv0 hv1 ⟨by omega, f0⟩ ⟨by omega, f1⟩ (by omega)

theorem Try.own : ownKnob Try.prog.godebug = none := by kernel_rfl
theorem Try.laidOut : laidOutB Try.prog = true := by kernel_rfl
theorem f32_lt {x : Nat} (h : (Lit.float .f32 x).wf = true) : x < 4294967296 := by simpa [Lit.wf] using h
theorem f64_lt {x : Nat} (h : (Lit.float .f64 x).wf = true) : x < 18446744073709551616 := by simpa [Lit.wf] using h
theorem i64_in {x : Int} (h : (Lit.int .i64 x).wf = true) : -9223372036854775808 ≤ x ∧ x ≤ 9223372036854775807 := by
  have h1 : IntKind.i64.min = -9223372036854775808 := by decide
  have h2 : IntKind.i64.max = 9223372036854775807 := by decide
  simp only [Lit.wf, Bool.and_eq_true, decide_eq_true_eq, h1, h2] at h
  exact h

set_option maxRecDepth 100000 in
theorem fnExactMostLate_lifted (os : Os) (started : os.Started) (H : Type) (enc : TypeId × Value → H) :
    ReturnsInHanded {} Try.checked os 6 .any (Rows.fnExactMostLateSpec.pre6 enc Try.prog Try.f6 [] false) (Rows.fnExactMostLateSpec.post enc Try.prog Try.f6 false true false false) := by
  refine Frame.law_lifted (tb := 4) Try.own started (by kernel_rfl) Try.func6
    (ChangeSpec.witness6 (enc := enc) (C := Try.checked) false ⟨#[], #[.slice none 0 0, .slice none 0 0], []⟩ 8 (by kernel_rfl) (by kernel_rfl) (by kernel_rfl) (by kernel_rfl))
    Try.laidOut (by kernel_rfl) rfl (by kernel_rfl) Try.underlying4 (fun ds hd => ?_) ?_
  · rw [Try.params6] at hd
    match ds, hd with
    | [_, _], _ => exact ⟨rfl, rfl, rfl⟩
  intro W base args ds p hval0 hA0 hlt hsz0
  have hval : ∀ (j : Nat) t v, Try.f6.params[j]? = some t → args[j]? = some v → Value.okWide Try.prog W .any base t v := hval0
  have hA : DataW.TrodAll enc Try.prog W 0 (fun _ => true) true Try.f6.params.toList args.toList ds p := hA0
  have hsz : (DataW.weightsEach Try.prog Try.f6.params.toList ds).all (· ≤ reachBytes) = true := hsz0
  rw [Try.params6] at hA hval hsz
  clear hval0 hA0 hsz0
  obtain ⟨v0, v1, d0, d1, p0, p1, rfl, rfl, rfl, h0, h1⟩ := trodAll_two hA
  obtain ⟨r0, g0, k0⟩ := open_jobs (hval 0 22 v0 rfl rfl) h0
  obtain ⟨r1, g1, k1⟩ := open_i64s (hval 1 29 v1 rfl rfl) h1
  exact fnExactMostLate_all v0 v1 r0 r1 W g0 g1 k0 k1

theorem fnExactMostLate_holds : Rows.FnExactMostLateSaid :=
  OpenClaim.holds_of_wide 6 Try.f6 rfl rfl rfl rfl rfl rfl rfl ⟨rfl, rfl, rfl, rfl, rfl⟩ rfl rfl rfl rfl rfl (by kernel_rfl) Try.func6 (by kernel_rfl)
    (of_decide_eq_true (by kernel_rfl)) (by unfold Func.isWrapper; first | (rw [if_pos (by decide +kernel)]; kernel_rfl) | (rw [if_neg (by decide +kernel)]; exact ⟨rfl, rfl⟩))
    (fun os started H enc _ => fnExactMostLate_lifted os started H enc)
end Go.Proofs.Ytgiijkbgbpohoaa
