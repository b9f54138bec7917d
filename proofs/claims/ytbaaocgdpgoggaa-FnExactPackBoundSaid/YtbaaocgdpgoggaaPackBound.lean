/- PackBound answers as its model, for all arguments; it writes into no argument. -/
import Derived.Test.YtbaaocgdpgoggaaPbS
import Derived.Test.YtbaaocgdpgoggaaIl
import Derived.Deep.RegionWith
import Derived.Deep.DeepCutAuto
import Derived.Test.YtbaaocgdpgoggaaFrame
import Derived.Outline
namespace Go.Proofs.Ytbaaocgdpgoggaa
open Go.ChangeShapes Go.WideShapes Go.ChangeAt Go.RowKit Go.ChangeMaps

set_option maxRecDepth 100000 in
set_option maxHeartbeats 8000000 in
theorem fnExactPackBound_main (v0 v1 : Value) (S : List Int) (G : List Int) (r : Int) (w : World) (hv0 : IL w v0 S) (hv1 : IL w v1 G) (o0 : OKI S) (o1 : OKI G) (o2 : -9223372036854775808 ≤ r ∧ r ≤ 9223372036854775807) :
    Calls Try.prog 8 #[v0, v1, .int .i64 r] w (Says true w) := by
  have V0 := Lib.hid hv0
  obtain ⟨a0, cap0, rfl⟩ := hv0.long
  clear hv0
  have V1 := Lib.hid hv1
  obtain ⟨a1, cap1, rfl⟩ := hv1.long
  clear hv1
  have hl0 : ¬ 1048576 < S.length := by have := o0.size; omega
  have hs0 := o0.size
  have hl1 : ¬ 1048576 < G.length := by have := o1.size; omega
  have hs1 := o1.size
  skip
  go_enter Try.func8, Try.ntmps8
  go_wp2_with fail
  go_at_call 18; refine (toI64_si _ S _ (V0.out.below (Below.refl w.heap.size w) (Nat.le_refl _)) (by omega)).mono ?_; rintro e w1 ⟨q0v, rfl, i, b⟩
  have F1_1 := Lib.hid (II.wide' (lo' := w.heap.size) i (Below.refl w.heap.size w).size)
  clear i
  have bz := b
  have z1 : w.heap.size ≤ w1.heap.size := bz.size
  have H1 := Lib.hid ((Below.refl w.heap.size w).trans (bz.mono (Below.refl w.heap.size w).size))
  clear b bz
  go_wp2_with fail
  go_at_call 18; refine (toI64_si _ G _ (V1.out.below H1.out (Nat.le_refl _)) (by omega)).mono ?_; rintro e w2 ⟨q1v, rfl, i, b⟩
  have F2_2 := Lib.hid (II.wide' (lo' := w1.heap.size) i (Below.refl w1.heap.size w1).size)
  clear i
  have bz := b
  have F2_1 := Lib.hid (F1_1.out.below' bz (Nat.le_refl _))
  have z2 : w1.heap.size ≤ w2.heap.size := bz.size
  have H2 := Lib.hid (H1.out.trans (bz.mono H1.out.size))
  clear b bz F1_1 H1
  go_wp2_with fail
  go_at_call 38; refine (specPackBound_any _ S _ G r _ F2_1.out.il F2_2.out.il o0 o1 o2).mono ?_; rintro e w3 ⟨rfl, b⟩
  have bz := b
  have z3 : w2.heap.size ≤ w3.heap.size := bz.size
  have H3 := Lib.hid (H2.out.trans (bz.mono H2.out.size))
  clear b bz F2_1 F2_2 H2
  go_wp2_with fail
  go_at_call 18; refine (toI64_si _ S _ (V0.out.below H3.out (Nat.le_refl _)) (by omega)).mono ?_; rintro e w4 ⟨x0v, rfl, i, b⟩
  obtain ⟨x0a, x0c, rfl⟩ := II.len' i
  have F4_3 := Lib.hid (II.wide' (lo' := w3.heap.size) i (Below.refl w3.heap.size w3).size)
  clear i
  have bz := b
  have z4 : w3.heap.size ≤ w4.heap.size := bz.size
  have H4 := Lib.hid (H3.out.trans (bz.mono H3.out.size))
  clear b bz H3
  go_wp2_with fail
  go_at_call 18; refine (toI64_si _ G _ (V1.out.below H4.out (Nat.le_refl _)) (by omega)).mono ?_; rintro e w5 ⟨x1v, rfl, i, b⟩
  obtain ⟨x1a, x1c, rfl⟩ := II.len' i
  have F5_4 := Lib.hid (II.wide' (lo' := w4.heap.size) i (Below.refl w4.heap.size w4).size)
  clear i
  have bz := b
  have F5_3 := Lib.hid (F4_3.out.below' bz (Nat.le_refl _))
  have z5 : w4.heap.size ≤ w5.heap.size := bz.size
  have H5 := Lib.hid (H4.out.trans (bz.mono H4.out.size))
  clear b bz F4_3 H4
  go_wp2_with fail
  go_at_call 39; refine (implPackBound_any _ S _ G r _ F5_3.out.il F5_4.out.il o0 o1 o2).mono ?_; rintro e w6 ⟨rfl, b⟩
  have bz := b
  have F6_3 := Lib.hid (F5_3.out.below' bz (Nat.le_refl _))
  have F6_4 := Lib.hid (F5_4.out.below' bz (Nat.le_refl _))
  have z6 : w5.heap.size ≤ w6.heap.size := bz.size
  have H6 := Lib.hid (H5.out.trans (bz.mono H5.out.size))
  clear b bz F5_3 F5_4 H5
  go_wp2_with fail
  go_at_call 18; refine (toI64_si _ S _ (V0.out.below H6.out (Nat.le_refl _)) (by omega)).mono ?_; rintro e w7 ⟨tv, rfl, i, b⟩
  have F7_5 := Lib.hid (II.wide' (lo' := w6.heap.size) i (Below.refl w6.heap.size w6).size)
  clear i
  have bz := b
  have F7_3 := Lib.hid (F6_3.out.below' bz (Nat.le_refl _))
  have F7_4 := Lib.hid (F6_4.out.below' bz (Nat.le_refl _))
  have z7 : w6.heap.size ≤ w7.heap.size := bz.size
  have H7 := Lib.hid (H6.out.trans (bz.mono H6.out.size))
  clear b bz F6_3 F6_4 H6
  go_wp2_with fail
  go_at_call 20; refine (eqI64_says _ _ S _ (by omega) F7_3.out.il F7_5.out.il).mono ?_; rintro e w8 ⟨rfl, b⟩
  have bz := b
  have F8_4 := Lib.hid (F7_4.out.below' bz (Nat.le_refl _))
  have z8 : w7.heap.size ≤ w8.heap.size := bz.size
  have H8 := Lib.hid (H7.out.trans (bz.mono H7.out.size))
  clear b bz F7_3 F7_4 F7_5 H7
  go_wp2_with fail
  go_at_call 18; refine (toI64_si _ G _ (V1.out.below H8.out (Nat.le_refl _)) (by omega)).mono ?_; rintro e w9 ⟨tv, rfl, i, b⟩
  have F9_6 := Lib.hid (II.wide' (lo' := w8.heap.size) i (Below.refl w8.heap.size w8).size)
  clear i
  have bz := b
  have F9_4 := Lib.hid (F8_4.out.below' bz (Nat.le_refl _))
  have z9 : w8.heap.size ≤ w9.heap.size := bz.size
  have H9 := Lib.hid (H8.out.trans (bz.mono H8.out.size))
  clear b bz F8_4 H8
  go_wp2_with fail
  go_at_call 20; refine (eqI64_says _ _ G _ (by omega) F9_4.out.il F9_6.out.il).mono ?_; rintro e w10 ⟨rfl, b⟩
  have bz := b
  have z10 : w9.heap.size ≤ w10.heap.size := bz.size
  have H10 := Lib.hid (H9.out.trans (bz.mono H9.out.size))
  clear b bz F9_4 F9_6 H9
  go_wp2_with fail
  go_ret
  exact says rfl H10.out
set_option maxRecDepth 100000 in
set_option maxHeartbeats 8000000 in
theorem fnExactPackBound_long0 (v0 v1 : Value) (S : List Int) (G : List Int) (r : Int) (w : World) (hv0 : IL w v0 S) (hv1 : IL w v1 G) (hb : 1048576 < S.length) (hx : S.length ≤ maxLen) :
    Calls Try.prog 8 #[v0, v1, .int .i64 r] w (Says true w) := by
  unfold maxLen at hx
  have V0 := Lib.hid hv0
  obtain ⟨a0, cap0, rfl⟩ := hv0.long
  clear hv0
  have V1 := Lib.hid hv1
  obtain ⟨a1, cap1, rfl⟩ := hv1.long
  clear hv1
  go_enter Try.func8, Try.ntmps8
  go_wp2_with fail
  go_ret
  exact says rfl (Below.refl w.heap.size w)

set_option maxRecDepth 100000 in
set_option maxHeartbeats 8000000 in
theorem fnExactPackBound_long1 (v0 v1 : Value) (S : List Int) (G : List Int) (r : Int) (w : World) (hv0 : IL w v0 S) (hv1 : IL w v1 G) (hl0 : ¬ 1048576 < S.length) (hb : 1048576 < G.length) (hx : G.length ≤ maxLen) :
    Calls Try.prog 8 #[v0, v1, .int .i64 r] w (Says true w) := by
  unfold maxLen at hx
  have V0 := Lib.hid hv0
  obtain ⟨a0, cap0, rfl⟩ := hv0.long
  clear hv0
  have V1 := Lib.hid hv1
  obtain ⟨a1, cap1, rfl⟩ := hv1.long
  clear hv1
  go_enter Try.func8, Try.ntmps8
  go_wp2_with fail
  go_ret
  exact says rfl (Below.refl w.heap.size w)

set_option maxRecDepth 100000 in
set_option maxHeartbeats 8000000 in
theorem fnExactPackBound_all (v0 v1 : Value) (S : List Int) (G : List Int) (r : Int) (w : World) (hv0 : IL w v0 S) (hv1 : IL w v1 G) (f0 : FitI S) (f1 : FitI G) (f2 : -9223372036854775808 ≤ r ∧ r ≤ 9223372036854775807) :
    Calls Try.prog 8 #[v0, v1, .int .i64 r] w (Says true w) := by
  by_cases hl0 : 1048576 < S.length
  · exact fnExactPackBound_long0 v0 v1 S G r w hv0 hv1  hl0 f0.1
  by_cases hl1 : 1048576 < G.length
  · exact fnExactPackBound_long1 v0 v1 S G r w hv0 hv1 hl0 hl1 f1.1
  exact fnExactPackBound_main v0 v1 S G r w hv0 hv1 ⟨by omega, f0⟩ ⟨by omega, f1⟩ f2

theorem Try.own : ownKnob Try.prog.godebug = none := by kernel_rfl
theorem Try.laidOut : laidOutB Try.prog = true := by kernel_rfl
theorem f32_lt {x : Nat} (h : (Lit.float .f32 x).wf = true) : x < 4294967296 := by simpa [Lit.wf] using h
theorem f64_lt {x : Nat} (h : (Lit.float .f64 x).wf = true) : x < 18446744073709551616 := by simpa [Lit.wf] using h
theorem i64_in {x : Int} (h : (Lit.int .i64 x).wf = true) : -9223372036854775808 ≤ x ∧ x ≤ 9223372036854775807 := by
  have h1 : IntKind.i64.min = -9223372036854775808 := by decide
  have h2 : IntKind.i64.max = 9223372036854775807 := by decide
  simp only [Lit.wf, Bool.and_eq_true, decide_eq_true_eq, h1, h2] at h
  exact h

set_option maxRecDepth 100000 in
theorem fnExactPackBound_lifted (os : Os) (started : os.Started) (H : Type) (enc : TypeId × Value → H) :
    ReturnsInHanded {} Try.checked os 8 .any (Rows.fnExactPackBoundSpec.pre6 enc Try.prog Try.f8 [] false) (Rows.fnExactPackBoundSpec.post enc Try.prog Try.f8 false true false false) := by
  refine Frame.law_lifted (tb := 4) Try.own started (by kernel_rfl) Try.func8
    (ChangeSpec.witness6 (enc := enc) (C := Try.checked) false ⟨#[], #[.slice none 0 0, .slice none 0 0, .int .i64 0], []⟩ 8 (by kernel_rfl) (by kernel_rfl) (by kernel_rfl) (by kernel_rfl))
    Try.laidOut (by kernel_rfl) rfl (by kernel_rfl) Try.underlying4 (fun ds hd => ?_) ?_
  · rw [Try.params8] at hd
    match ds, hd with
    | [_, _, _], _ => exact ⟨rfl, rfl, rfl⟩
  intro W base args ds p hval0 hA0 hlt hsz0
  have hval : ∀ (j : Nat) t v, Try.f8.params[j]? = some t → args[j]? = some v → Value.okWide Try.prog W .any base t v := hval0
  have hA : DataW.TrodAll enc Try.prog W 0 (fun _ => true) true Try.f8.params.toList args.toList ds p := hA0
  have hsz : (DataW.weightsEach Try.prog Try.f8.params.toList ds).all (· ≤ reachBytes) = true := hsz0
  rw [Try.params8] at hA hval hsz
  clear hval0 hA0 hsz0
  obtain ⟨v0, v1, v2, d0, d1, d2, p0, p1, p2, rfl, rfl, rfl, h0, h1, h2⟩ := trodAll_three hA
  obtain ⟨r0, g0, k0⟩ := open_i64s (hval 0 25 v0 rfl rfl) h0
  obtain ⟨r1, g1, k1⟩ := open_i64s (hval 1 25 v1 rfl rfl) h1
  obtain ⟨a2, rfl, rfl, rfl, w2⟩ := open_int Try.underlying2 (hval 2 2 v2 rfl rfl) h2
  have b2 := i64_in w2
  exact fnExactPackBound_all v0 v1 r0 r1 a2 W g0 g1 k0 k1 b2

theorem fnExactPackBound_holds : Rows.FnExactPackBoundSaid :=
  OpenClaim.holds_of_wide 8 Try.f8 rfl rfl rfl rfl rfl rfl rfl ⟨rfl, rfl, rfl, rfl, rfl⟩ rfl rfl rfl rfl rfl (by kernel_rfl) Try.func8 (by kernel_rfl)
    (of_decide_eq_true (by kernel_rfl)) (by unfold Func.isWrapper; first | (rw [if_pos (by decide +kernel)]; kernel_rfl) | (rw [if_neg (by decide +kernel)]; exact ⟨rfl, rfl⟩))
    (fun os started H enc _ => fnExactPackBound_lifted os started H enc)
end Go.Proofs.Ytbaaocgdpgoggaa
