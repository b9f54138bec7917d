/- IsClause answers as its model, for all arguments; it writes into no argument. -/
import Derived.Test.YtleaaigjnniglaaClS
import Derived.Test.YtleaaigjnniglaaIl
import Derived.Deep.RegionWith
import Derived.Deep.DeepCutAuto
import Derived.Test.YtleaaigjnniglaaFrame
import Derived.Outline
namespace Go.Proofs.Ytleaaigjnniglaa
open Go.ChangeShapes Go.WideShapes Go.ChangeAt Go.RowKit Go.ChangeMaps

set_option maxRecDepth 100000 in
set_option maxHeartbeats 8000000 in
theorem fnExactIsClause_main (v1 : Value) (n : Int) (L : List Int) (w : World) (hv1 : IL w v1 L) (o0 : -9223372036854775808 ≤ n ∧ n ≤ 9223372036854775807) (o1 : OKI L) :
    Calls Try.prog 3 #[.int .i64 n, v1] w (Says true w) := by
  have V1 := Lib.hid hv1
  obtain ⟨a1, cap1, rfl⟩ := hv1.long
  clear hv1
  have hl1 : ¬ 1048576 < L.length := by have := o1.size; omega
  have hs1 := o1.size
  skip
  go_enter Try.func3, Try.ntmps3
  go_wp2_with fail
  go_at_call 16; refine (toI64_si _ L _ (V1.out.below (Below.refl w.heap.size w) (Nat.le_refl _)) (by omega)).mono ?_; rintro e w1 ⟨q1v, rfl, i, b⟩
  have F1_1 := Lib.hid (II.wide' (lo' := w.heap.size) i (Below.refl w.heap.size w).size)
  clear i
  have bz := b
  have z1 : w.heap.size ≤ w1.heap.size := bz.size
  have H1 := Lib.hid ((Below.refl w.heap.size w).trans (bz.mono (Below.refl w.heap.size w).size))
  clear b bz
  go_wp2_with fail
  go_at_call 15; refine (specIsClause_any n _ L _ F1_1.out.il o0 o1).mono ?_; rintro e w2 ⟨rfl, b⟩
  have bz := b
  have z2 : w1.heap.size ≤ w2.heap.size := bz.size
  have H2 := Lib.hid (H1.out.trans (bz.mono H1.out.size))
  clear b bz F1_1 H1
  go_wp2_with fail
  go_at_call 16; refine (toI64_si _ L _ (V1.out.below H2.out (Nat.le_refl _)) (by omega)).mono ?_; rintro e w3 ⟨x1v, rfl, i, b⟩
  obtain ⟨x1a, x1c, rfl⟩ := II.len' i
  have F3_2 := Lib.hid (II.wide' (lo' := w2.heap.size) i (Below.refl w2.heap.size w2).size)
  clear i
  have bz := b
  have z3 : w2.heap.size ≤ w3.heap.size := bz.size
  have H3 := Lib.hid (H2.out.trans (bz.mono H2.out.size))
  clear b bz H2
  go_wp2_with fail
  go_at_call 17; refine (implIsClause_any n _ L _ F3_2.out.il o0 o1).mono ?_; rintro e w4 ⟨rfl, b⟩
  have bz := b
  have F4_2 := Lib.hid (F3_2.out.below' bz (Nat.le_refl _))
  have z4 : w3.heap.size ≤ w4.heap.size := bz.size
  have H4 := Lib.hid (H3.out.trans (bz.mono H3.out.size))
  clear b bz F3_2 H3
  go_wp2_with fail
  go_at_call 16; refine (toI64_si _ L _ (V1.out.below H4.out (Nat.le_refl _)) (by omega)).mono ?_; rintro e w5 ⟨tv, rfl, i, b⟩
  have F5_3 := Lib.hid (II.wide' (lo' := w4.heap.size) i (Below.refl w4.heap.size w4).size)
  clear i
  have bz := b
  have F5_2 := Lib.hid (F4_2.out.below' bz (Nat.le_refl _))
  have z5 : w4.heap.size ≤ w5.heap.size := bz.size
  have H5 := Lib.hid (H4.out.trans (bz.mono H4.out.size))
  clear b bz F4_2 H4
  go_wp2_with fail
  go_at_call 18; refine (eqI64_says _ _ L _ (by omega) F5_2.out.il F5_3.out.il).mono ?_; rintro e w6 ⟨rfl, b⟩
  have bz := b
  have z6 : w5.heap.size ≤ w6.heap.size := bz.size
  have H6 := Lib.hid (H5.out.trans (bz.mono H5.out.size))
  clear b bz F5_2 F5_3 H5
  go_wp2_with fail
  go_ret
  exact says rfl H6.out
set_option maxRecDepth 100000 in
set_option maxHeartbeats 8000000 in
theorem fnExactIsClause_long1 (v1 : Value) (n : Int) (L : List Int) (w : World) (hv1 : IL w v1 L) (hb : 1048576 < L.length) (hx : L.length ≤ maxLen) :
    Calls Try.prog 3 #[.int .i64 n, v1] w (Says true w) := by
  unfold maxLen at hx
  have V1 := Lib.hid hv1
  obtain ⟨a1, cap1, rfl⟩ := hv1.long
  clear hv1
  go_enter Try.func3, Try.ntmps3
  go_wp2_with fail
  go_ret
  exact says rfl (Below.refl w.heap.size w)

set_option maxRecDepth 100000 in
set_option maxHeartbeats 8000000 in
theorem fnExactIsClause_all (v1 : Value) (n : Int) (L : List Int) (w : World) (hv1 : IL w v1 L) (f0 : -9223372036854775808 ≤ n ∧ n ≤ 9223372036854775807) (f1 : FitI L) :
    Calls Try.prog 3 #[.int .i64 n, v1] w (Says true w) := by
  by_cases hl1 : 1048576 < L.length
  · exact fnExactIsClause_long1 v1 n L w hv1  hl1 f1.1
  exact fnExactIsClause_main v1 n L w hv1 f0 ⟨by omega, f1⟩

theorem Try.own : ownKnob Try.prog.godebug = none := by kernel_rfl
theorem Try.laidOut : laidOutB Try.prog = true := by kernel_rfl
theorem f32_lt {x : Nat} (h : (Lit.float .f32 x).wf = true) : x < 4294967296 := by simpa [Lit.wf] using h
theorem f64_lt {x : Nat} (h : (Lit.float .f64 x).wf = true) : x < 18446744073709551616 := by simpa [Lit.wf] using h
theorem i64_in {x : Int} (h : (Lit.int .i64 x).wf = true) : -9223372036854775808 ≤ x ∧ x ≤ 9223372036854775807 := by
  have h1 : IntKind.i64.min = -9223372036854775808 := by decide
  have h2 : IntKind.i64.max = 9223372036854775807 := by decide
  simp only [Lit.wf, Bool.and_eq_true, decide_eq_true_eq, h1, h2] at h
  exact h

set_option maxRecDepth 100000 in
theorem fnExactIsClause_lifted (os : Os) (started : os.Started) (H : Type) (enc : TypeId × Value → H) :
    ReturnsInHanded {} Try.checked os 3 .any (Rows.fnExactIsClauseSpec.pre6 enc Try.prog Try.f3 [] false) (Rows.fnExactIsClauseSpec.post enc Try.prog Try.f3 false true false false) := by
  refine Frame.law_lifted (tb := 4) Try.own started (by kernel_rfl) Try.func3
    (ChangeSpec.witness6 (enc := enc) (C := Try.checked) false ⟨#[], #[.int .i64 0, .slice none 0 0], []⟩ 8 (by kernel_rfl) (by kernel_rfl) (by kernel_rfl) (by kernel_rfl))
    Try.laidOut (by kernel_rfl) rfl (by kernel_rfl) Try.underlying4 (fun ds hd => ?_) ?_
  · rw [Try.params3] at hd
    match ds, hd with
    | [_, _], _ => exact ⟨rfl, rfl, rfl⟩
  intro W base args ds p hval0 hA0 hlt hsz0
  have hval : ∀ (j : Nat) t v, Try.f3.params[j]? = some t → args[j]? = some v → Value.okWide Try.prog W .any base t v := hval0
  have hA : DataW.TrodAll enc Try.prog W 0 (fun _ => true) true Try.f3.params.toList args.toList ds p := hA0
  have hsz : (DataW.weightsEach Try.prog Try.f3.params.toList ds).all (· ≤ reachBytes) = true := hsz0
  rw [Try.params3] at hA hval hsz
  clear hval0 hA0 hsz0
  obtain ⟨v0, v1, d0, d1, p0, p1, rfl, rfl, rfl, h0, h1⟩ := trodAll_two hA
  obtain ⟨a0, rfl, rfl, rfl, w0⟩ := open_int Try.underlying2 (hval 0 2 v0 rfl rfl) h0
  have b0 := i64_in w0
  obtain ⟨r1, g1, k1⟩ := open_i64s (hval 1 22 v1 rfl rfl) h1
  exact fnExactIsClause_all v1 a0 r1 W g1 b0 k1

theorem fnExactIsClause_holds : Rows.FnExactIsClauseSaid :=
  OpenClaim.holds_of_wide 3 Try.f3 rfl rfl rfl rfl rfl rfl rfl ⟨rfl, rfl, rfl, rfl, rfl⟩ rfl rfl rfl rfl rfl (by kernel_rfl) Try.func3 (by kernel_rfl)
    (of_decide_eq_true (by kernel_rfl)) (by unfold Func.isWrapper; first | (rw [if_pos (by decide +kernel)]; kernel_rfl) | (rw [if_neg (by decide +kernel)]; exact ⟨rfl, rfl⟩))
    (fun os started H enc _ => fnExactIsClause_lifted os started H enc)
end Go.Proofs.Ytleaaigjnniglaa
