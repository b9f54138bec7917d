/- CountDiffers answers as its model, for all arguments; it writes into no argument. -/
import Derived.Test.YtiobbclciboggaaLsG
import Derived.Test.YtiobbclciboggaaDfI
import Derived.Test.YtiobbclciboggaaDfS
import Derived.Test.YtiobbclciboggaaIl
import Derived.Deep.RegionWith
import Derived.Deep.DeepCutAuto
import Derived.Test.YtiobbclciboggaaFrame
import Derived.Outline
namespace Go.Proofs.Ytiobbclciboggaa
open Go.ChangeShapes Go.WideShapes Go.ChangeAt Go.RowKit Go.ChangeMaps

set_option maxRecDepth 100000 in
set_option maxHeartbeats 8000000 in
theorem fnExactCountDiffers_main (v0 : Value) (C : List (List Int)) (w : World) (hv0 : LV w v0 C) (o0 : OKL C) (hm : ((szL C) : Int) ≤ (1048576 : Int)) :
    Calls Try.prog 4 #[v0] w (Says true w) := by
  have V0 := Lib.hid hv0
  obtain ⟨a0, cap0, rfl⟩ := hv0.long
  clear hv0
  have hs0 := o0.size
  have hmt0 : totAt C C.length ≤ szL C := Nat.le_add_left _ _
  have ht0 : decide (1048576 - ((szL C) : Int) < 0) = false := by simp; omega
  have hmm := hm
  go_enter Try.func4, Try.ntmps4
  go_wp2_with fail
  go_at_call 15; refine (szSS_yes2 _ C _ _ (V0.out.below (Below.refl w.heap.size w) (Nat.le_refl _)) (by omega) (by omega)).mono ?_; rintro e w1 ⟨rfl, b⟩
  have bz := b
  have z1 : w.heap.size ≤ w1.heap.size := bz.size
  have H1 := Lib.hid ((Below.refl w.heap.size w).trans (bz.mono (Below.refl w.heap.size w).size))
  clear b bz
  go_wp2_with fail
  go_at_call 17; refine (toSS_any _ C _ (V0.out.below H1.out (Nat.le_refl _)) (by omega)).mono ?_; rintro e w2 ⟨q0v, rfl, i, b⟩
  have F2_1 := Lib.hid (LD.wide' (lo' := w1.heap.size) i (Below.refl w1.heap.size w1).size)
  clear i
  have bz := b
  have z2 : w1.heap.size ≤ w2.heap.size := bz.size
  have H2 := Lib.hid (H1.out.trans (bz.mono H1.out.size))
  clear b bz H1
  go_wp2_with fail
  go_at_call 24; refine (specCountDiffers_any _ C _ F2_1.out.lv o0).mono ?_; rintro e w3 ⟨rfl, b⟩
  have bz := b
  have z3 : w2.heap.size ≤ w3.heap.size := bz.size
  have H3 := Lib.hid (H2.out.trans (bz.mono H2.out.size))
  clear b bz F2_1 H2
  go_wp2_with fail
  go_at_call 17; refine (toSS_any _ C _ (V0.out.below H3.out (Nat.le_refl _)) (by omega)).mono ?_; rintro e w4 ⟨x0v, rfl, i, b⟩
  obtain ⟨x0a, x0c, rfl⟩ := LD.len' i
  have F4_2 := Lib.hid (LD.wide' (lo' := w3.heap.size) i (Below.refl w3.heap.size w3).size)
  clear i
  have bz := b
  have z4 : w3.heap.size ≤ w4.heap.size := bz.size
  have H4 := Lib.hid (H3.out.trans (bz.mono H3.out.size))
  clear b bz H3
  go_wp2_with fail
  go_at_call 25; refine (implCountDiffers_any _ C _ F4_2.out.lv o0).mono ?_; rintro e w5 ⟨rfl, b⟩
  have bz := b
  have F5_2 := Lib.hid (F4_2.out.below' bz (Nat.le_refl _))
  have z5 : w4.heap.size ≤ w5.heap.size := bz.size
  have H5 := Lib.hid (H4.out.trans (bz.mono H4.out.size))
  clear b bz F4_2 H4
  go_wp2_with fail
  go_at_call 17; refine (toSS_any _ C _ (V0.out.below H5.out (Nat.le_refl _)) (by omega)).mono ?_; rintro e w6 ⟨tv, rfl, i, b⟩
  have F6_3 := Lib.hid (LD.wide' (lo' := w5.heap.size) i (Below.refl w5.heap.size w5).size)
  clear i
  have bz := b
  have F6_2 := Lib.hid (F5_2.out.below' bz (Nat.le_refl _))
  have z6 : w5.heap.size ≤ w6.heap.size := bz.size
  have H6 := Lib.hid (H5.out.trans (bz.mono H5.out.size))
  clear b bz F5_2 H5
  go_wp2_with fail
  go_at_call 20; refine (eqSS_any _ _ C _ (by omega) F6_2.out.lv F6_3.out.lv).mono ?_; rintro e w7 ⟨rfl, b⟩
  have bz := b
  have z7 : w6.heap.size ≤ w7.heap.size := bz.size
  have H7 := Lib.hid (H6.out.trans (bz.mono H6.out.size))
  clear b bz F6_2 F6_3 H6
  go_wp2_with fail
  go_ret
  exact says rfl H7.out
set_option maxRecDepth 100000 in
set_option maxHeartbeats 8000000 in
theorem fnExactCountDiffers_size0 (v0 : Value) (C : List (List Int)) (w : World) (hv0 : LV w v0 C) (hb : 1048576 < ((szL C) : Int)) (fx : FitL C) :
    Calls Try.prog 4 #[v0] w (Says true w) := by
  have V0 := Lib.hid hv0
  obtain ⟨a0, cap0, rfl⟩ := hv0.long
  clear hv0
  have hz : ∀ n : Nat, (0 : Int) ≤ n := fun n => Int.natCast_nonneg n
  go_enter Try.func4, Try.ntmps4
  go_wp2_with fail
  go_at_call 15; refine (szSS_no2 _ C _ _ (V0.out.below (Below.refl w.heap.size w) (Nat.le_refl _)) hb (by omega) (by omega) fx).mono ?_; rintro e w1 ⟨rfl, b⟩
  have bz := b
  have z1 : w.heap.size ≤ w1.heap.size := bz.size
  have H1 := Lib.hid ((Below.refl w.heap.size w).trans (bz.mono (Below.refl w.heap.size w).size))
  clear b bz
  go_wp2_with fail
  go_ret
  exact says rfl H1.out

set_option maxRecDepth 100000 in
set_option maxHeartbeats 8000000 in
theorem fnExactCountDiffers_all (v0 : Value) (C : List (List Int)) (w : World) (hv0 : LV w v0 C) (f0 : FitL C) :
    Calls Try.prog 4 #[v0] w (Says true w) := by
  by_cases hb0 : 1048576 < ((szL C) : Int)
  · exact fnExactCountDiffers_size0 v0 C w hv0  hb0 f0
  exact fnExactCountDiffers_main v0 C w hv0 ⟨by omega, f0⟩ (by omega)

theorem Try.own : ownKnob Try.prog.godebug = none := by kernel_rfl
theorem Try.laidOut : laidOutB Try.prog = true := by kernel_rfl
theorem f32_lt {x : Nat} (h : (Lit.float .f32 x).wf = true) : x < 4294967296 := by simpa [Lit.wf] using h
theorem f64_lt {x : Nat} (h : (Lit.float .f64 x).wf = true) : x < 18446744073709551616 := by simpa [Lit.wf] using h
theorem i64_in {x : Int} (h : (Lit.int .i64 x).wf = true) : -9223372036854775808 ≤ x ∧ x ≤ 9223372036854775807 := by
  have h1 : IntKind.i64.min = -9223372036854775808 := by decide
  have h2 : IntKind.i64.max = 9223372036854775807 := by decide
  simp only [Lit.wf, Bool.and_eq_true, decide_eq_true_eq, h1, h2] at h
  exact h

set_option maxRecDepth 100000 in
theorem fnExactCountDiffers_lifted (os : Os) (started : os.Started) (H : Type) (enc : TypeId × Value → H) :
    ReturnsInHanded {} Try.checked os 4 .any (Rows.fnExactCountDiffersSpec.pre6 enc Try.prog Try.f4 [] false) (Rows.fnExactCountDiffersSpec.post enc Try.prog Try.f4 false true false false) := by
  refine Frame.law_lifted (tb := 4) Try.own started (by kernel_rfl) Try.func4
    (ChangeSpec.witness6 (enc := enc) (C := Try.checked) false ⟨#[], #[.slice none 0 0], []⟩ 8 (by kernel_rfl) (by kernel_rfl) (by kernel_rfl) (by kernel_rfl))
    Try.laidOut (by kernel_rfl) rfl (by kernel_rfl) Try.underlying4 (fun ds hd => ?_) ?_
  · rw [Try.params4] at hd
    match ds, hd with
    | [_], _ => exact ⟨rfl, rfl, rfl⟩
  intro W base args ds p hval0 hA0 hlt hsz0
  have hval : ∀ (j : Nat) t v, Try.f4.params[j]? = some t → args[j]? = some v → Value.okWide Try.prog W .any base t v := hval0
  have hA : DataW.TrodAll enc Try.prog W 0 (fun _ => true) true Try.f4.params.toList args.toList ds p := hA0
  have hsz : (DataW.weightsEach Try.prog Try.f4.params.toList ds).all (· ≤ reachBytes) = true := hsz0
  rw [Try.params4] at hA hval hsz
  clear hval0 hA0 hsz0
  obtain ⟨v0, d0, rfl, rfl, h0⟩ := trodAll_one hA
  obtain ⟨r0, g0, k0⟩ := open_lvs (hval 0 22 v0 rfl rfl) h0
  exact fnExactCountDiffers_all v0 r0 W g0 k0

theorem fnExactCountDiffers_holds : Rows.FnExactCountDiffersSaid :=
  OpenClaim.holds_of_wide 4 Try.f4 rfl rfl rfl rfl rfl rfl rfl ⟨rfl, rfl, rfl, rfl, rfl⟩ rfl rfl rfl rfl rfl (by kernel_rfl) Try.func4 (by kernel_rfl)
    (of_decide_eq_true (by kernel_rfl)) (by unfold Func.isWrapper; first | (rw [if_pos (by decide +kernel)]; kernel_rfl) | (rw [if_neg (by decide +kernel)]; exact ⟨rfl, rfl⟩))
    (fun os started H enc _ => fnExactCountDiffers_lifted os started H enc)
end Go.Proofs.Ytiobbclciboggaa
