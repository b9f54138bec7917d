/- FaultsOf answers as its model, for all arguments; it writes into no argument. -/
import Derived.Test.YtiobbclciboggaaFaJ
import Derived.Test.YtiobbclciboggaaFaS
import Derived.Test.YtiobbclciboggaaIl
import Derived.Deep.RegionWith
import Derived.Deep.DeepCutAuto
import Derived.Test.YtiobbclciboggaaFrame
import Derived.Outline
namespace Go.Proofs.Ytiobbclciboggaa
open Go.ChangeShapes Go.WideShapes Go.ChangeAt Go.RowKit Go.ChangeMaps

set_option maxRecDepth 100000 in
set_option maxHeartbeats 8000000 in
theorem fnExactFaultsOf_main (v0 : Value) (A : List Int) (room : Int) (rule : Int) (w : World) (hv0 : IL w v0 A) (o0 : OKI A) (o1 : -9223372036854775808 ≤ room ∧ room ≤ 9223372036854775807) (o2 : -9223372036854775808 ≤ rule ∧ rule ≤ 9223372036854775807) :
    Calls Try.prog 11 #[v0, .int .i64 room, .int .i64 rule] w (Says true w) := by
  have V0 := Lib.hid hv0
  obtain ⟨a0, cap0, rfl⟩ := hv0.long
  clear hv0
  have hl0 : ¬ 1048576 < A.length := by have := o0.size; omega
  have hs0 := o0.size
  skip
  go_enter Try.func11, Try.ntmps11
  go_wp2_with fail
  go_at_call 34; refine (toI64_si _ A _ (V0.out.below (Below.refl w.heap.size w) (Nat.le_refl _)) (by omega)).mono ?_; rintro e w1 ⟨q0v, rfl, i, b⟩
  have F1_1 := Lib.hid (II.wide' (lo' := w.heap.size) i (Below.refl w.heap.size w).size)
  clear i
  have bz := b
  have z1 : w.heap.size ≤ w1.heap.size := bz.size
  have H1 := Lib.hid ((Below.refl w.heap.size w).trans (bz.mono (Below.refl w.heap.size w).size))
  clear b bz
  go_wp2_with fail
  go_at_call 43; refine (specFaultsOf_any _ A room rule _ F1_1.out.il o0 o1 o2).mono ?_; rintro e w2 ⟨rfl, b⟩
  have bz := b
  have z2 : w1.heap.size ≤ w2.heap.size := bz.size
  have H2 := Lib.hid (H1.out.trans (bz.mono H1.out.size))
  clear b bz F1_1 H1
  go_wp2_with fail
  go_at_call 34; refine (toI64_si _ A _ (V0.out.below H2.out (Nat.le_refl _)) (by omega)).mono ?_; rintro e w3 ⟨x0v, rfl, i, b⟩
  obtain ⟨x0a, x0c, rfl⟩ := II.len' i
  have F3_2 := Lib.hid (II.wide' (lo' := w2.heap.size) i (Below.refl w2.heap.size w2).size)
  clear i
  have bz := b
  have z3 : w2.heap.size ≤ w3.heap.size := bz.size
  have H3 := Lib.hid (H2.out.trans (bz.mono H2.out.size))
  clear b bz H2
  go_wp2_with fail
  go_at_call 44; refine (implFaultsOf_any _ A room rule _ F3_2.out.il o0 o1 o2).mono ?_; rintro e w4 ⟨rfl, b⟩
  have bz := b
  have F4_2 := Lib.hid (F3_2.out.below' bz (Nat.le_refl _))
  have z4 : w3.heap.size ≤ w4.heap.size := bz.size
  have H4 := Lib.hid (H3.out.trans (bz.mono H3.out.size))
  clear b bz F3_2 H3
  go_wp2_with fail
  go_at_call 34; refine (toI64_si _ A _ (V0.out.below H4.out (Nat.le_refl _)) (by omega)).mono ?_; rintro e w5 ⟨tv, rfl, i, b⟩
  have F5_3 := Lib.hid (II.wide' (lo' := w4.heap.size) i (Below.refl w4.heap.size w4).size)
  clear i
  have bz := b
  have F5_2 := Lib.hid (F4_2.out.below' bz (Nat.le_refl _))
  have z5 : w4.heap.size ≤ w5.heap.size := bz.size
  have H5 := Lib.hid (H4.out.trans (bz.mono H4.out.size))
  clear b bz F4_2 H4
  go_wp2_with fail
  go_at_call 19; refine (eqI64_says _ _ A _ (by omega) F5_2.out.il F5_3.out.il).mono ?_; rintro e w6 ⟨rfl, b⟩
  have bz := b
  have z6 : w5.heap.size ≤ w6.heap.size := bz.size
  have H6 := Lib.hid (H5.out.trans (bz.mono H5.out.size))
  clear b bz F5_2 F5_3 H5
  go_wp2_with fail
  go_ret
  exact says rfl H6.out
set_option maxRecDepth 100000 in
set_option maxHeartbeats 8000000 in
theorem fnExactFaultsOf_long0 (v0 : Value) (A : List Int) (room : Int) (rule : Int) (w : World) (hv0 : IL w v0 A) (hb : 1048576 < A.length) (hx : A.length ≤ maxLen) :
    Calls Try.prog 11 #[v0, .int .i64 room, .int .i64 rule] w (Says true w) := by
  unfold maxLen at hx
  have V0 := Lib.hid hv0
  obtain ⟨a0, cap0, rfl⟩ := hv0.long
  clear hv0
  go_enter Try.func11, Try.ntmps11
  go_wp2_with fail
  go_ret
  exact says rfl (Below.refl w.heap.size w)

set_option maxRecDepth 100000 in
set_option maxHeartbeats 8000000 in
theorem fnExactFaultsOf_all (v0 : Value) (A : List Int) (room : Int) (rule : Int) (w : World) (hv0 : IL w v0 A) (f0 : FitI A) (f1 : -9223372036854775808 ≤ room ∧ room ≤ 9223372036854775807) (f2 : -9223372036854775808 ≤ rule ∧ rule ≤ 9223372036854775807) :
    Calls Try.prog 11 #[v0, .int .i64 room, .int .i64 rule] w (Says true w) := by
  by_cases hl0 : 1048576 < A.length
  · exact fnExactFaultsOf_long0 v0 A room rule w hv0  hl0 f0.1
  exact fnExactFaultsOf_main v0 A room rule w hv0 ⟨by omega, f0⟩ f1 f2

theorem Try.own : ownKnob Try.prog.godebug = none := by kernel_rfl
theorem Try.laidOut : laidOutB Try.prog = true := by kernel_rfl
theorem f32_lt {x : Nat} (h : (Lit.float .f32 x).wf = true) : x < 4294967296 := by simpa [Lit.wf] using h
theorem f64_lt {x : Nat} (h : (Lit.float .f64 x).wf = true) : x < 18446744073709551616 := by simpa [Lit.wf] using h
theorem i64_in {x : Int} (h : (Lit.int .i64 x).wf = true) : -9223372036854775808 ≤ x ∧ x ≤ 9223372036854775807 := by
  have h1 : IntKind.i64.min = -9223372036854775808 := by decide
  have h2 : IntKind.i64.max = 9223372036854775807 := by decide
  simp only [Lit.wf, Bool.and_eq_true, decide_eq_true_eq, h1, h2] at h
  exact h

set_option maxRecDepth 100000 in
theorem fnExactFaultsOf_lifted (os : Os) (started : os.Started) (H : Type) (enc : TypeId × Value → H) :
    ReturnsInHanded {} Try.checked os 11 .any (Rows.fnExactFaultsOfSpec.pre6 enc Try.prog Try.f11 [] false) (Rows.fnExactFaultsOfSpec.post enc Try.prog Try.f11 false true false false) := by
  refine Frame.law_lifted (tb := 4) Try.own started (by kernel_rfl) Try.func11
    (ChangeSpec.witness6 (enc := enc) (C := Try.checked) false ⟨#[], #[.slice none 0 0, .int .i64 0, .int .i64 0], []⟩ 8 (by kernel_rfl) (by kernel_rfl) (by kernel_rfl) (by kernel_rfl))
    Try.laidOut (by kernel_rfl) rfl (by kernel_rfl) Try.underlying4 (fun ds hd => ?_) ?_
  · rw [Try.params11] at hd
    match ds, hd with
    | [_, _, _], _ => exact ⟨rfl, rfl, rfl⟩
  intro W base args ds p hval0 hA0 hlt hsz0
  have hval : ∀ (j : Nat) t v, Try.f11.params[j]? = some t → args[j]? = some v → Value.okWide Try.prog W .any base t v := hval0
  have hA : DataW.TrodAll enc Try.prog W 0 (fun _ => true) true Try.f11.params.toList args.toList ds p := hA0
  have hsz : (DataW.weightsEach Try.prog Try.f11.params.toList ds).all (· ≤ reachBytes) = true := hsz0
  rw [Try.params11] at hA hval hsz
  clear hval0 hA0 hsz0
  obtain ⟨v0, v1, v2, d0, d1, d2, p0, p1, p2, rfl, rfl, rfl, h0, h1, h2⟩ := trodAll_three hA
  obtain ⟨r0, g0, k0⟩ := open_i64s (hval 0 24 v0 rfl rfl) h0
  obtain ⟨a1, rfl, rfl, rfl, w1⟩ := open_int Try.underlying2 (hval 1 2 v1 rfl rfl) h1
  have b1 := i64_in w1
  obtain ⟨a2, rfl, rfl, rfl, w2⟩ := open_int Try.underlying2 (hval 2 2 v2 rfl rfl) h2
  have b2 := i64_in w2
  exact fnExactFaultsOf_all v0 r0 a1 a2 W g0 k0 b1 b2

theorem fnExactFaultsOf_holds : Rows.FnExactFaultsOfSaid :=
  OpenClaim.holds_of_wide 11 Try.f11 rfl rfl rfl rfl rfl rfl rfl ⟨rfl, rfl, rfl, rfl, rfl⟩ rfl rfl rfl rfl rfl (by kernel_rfl) Try.func11 (by kernel_rfl)
    (of_decide_eq_true (by kernel_rfl)) (by unfold Func.isWrapper; first | (rw [if_pos (by decide +kernel)]; kernel_rfl) | (rw [if_neg (by decide +kernel)]; exact ⟨rfl, rfl⟩))
    (fun os started H enc _ => fnExactFaultsOf_lifted os started H enc)
end Go.Proofs.Ytiobbclciboggaa
