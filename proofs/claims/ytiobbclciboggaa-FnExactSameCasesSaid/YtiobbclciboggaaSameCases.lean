/- SameCases answers as its model, for all arguments; it writes into no argument. -/
import Derived.Test.YtiobbclciboggaaScE
import Derived.Test.YtiobbclciboggaaScS
import Derived.Test.YtiobbclciboggaaCssC
import Derived.Test.YtiobbclciboggaaCssZ
import Derived.Test.YtiobbclciboggaaIl
import Derived.Deep.RegionWith
import Derived.Deep.DeepCutAuto
import Derived.Test.YtiobbclciboggaaFrame
import Derived.Outline
namespace Go.Proofs.Ytiobbclciboggaa
open Go.ChangeShapes Go.WideShapes Go.ChangeAt Go.RowKit Go.ChangeMaps

set_option maxRecDepth 100000 in
set_option maxHeartbeats 8000000 in
theorem fnExactSameCases_main (v0 v1 : Value) (C : List Cs) (D : List Cs) (w : World) (hv0 : CsLV w v0 C) (hv1 : CsLV w v1 D) (o0 : OKCs C) (o1 : OKCs D) (hm : ((szCs C) : Int) + ((szCs D) : Int) ≤ (1048576 : Int)) :
    Calls Try.prog 10 #[v0, v1] w (Says true w) := by
  have V0 := Lib.hid hv0
  obtain ⟨a0, cap0, rfl⟩ := hv0.long
  clear hv0
  have V1 := Lib.hid hv1
  obtain ⟨a1, cap1, rfl⟩ := hv1.long
  clear hv1
  have hs0 := o0.size
  have hs1 := o1.size
  have ht0 : decide (1048576 - ((szCs C) : Int) < 0) = false := by simp; omega
  have ht1 : decide (1048576 - ((szCs C) : Int) - ((szCs D) : Int) < 0) = false := by simp; omega
  have hmm := hm
  go_enter Try.func10, Try.ntmps10
  go_wp2_with fail
  go_at_call 38; refine (szCaseS_yes _ C _ _ (V0.out.below (Below.refl w.heap.size w) (Nat.le_refl _)) (by omega) (by omega)).mono ?_; rintro e w1 ⟨rfl, b⟩
  have bz := b
  have z1 : w.heap.size ≤ w1.heap.size := bz.size
  have H1 := Lib.hid ((Below.refl w.heap.size w).trans (bz.mono (Below.refl w.heap.size w).size))
  clear b bz
  go_wp2_with fail
  go_at_call 38; refine (szCaseS_yes _ D _ _ (V1.out.below H1.out (Nat.le_refl _)) (by omega) (by omega)).mono ?_; rintro e w2 ⟨rfl, b⟩
  have bz := b
  have z2 : w1.heap.size ≤ w2.heap.size := bz.size
  have H2 := Lib.hid (H1.out.trans (bz.mono H1.out.size))
  clear b bz H1
  go_wp2_with fail
  go_at_call 40; refine (toCaseS_any _ C _ (V0.out.below H2.out (Nat.le_refl _)) (by omega)).mono ?_; rintro e w3 ⟨q0v, rfl, i, b⟩
  have F3_1 := Lib.hid (CsLD.wide (lo' := w2.heap.size) i (Below.refl w2.heap.size w2).size)
  clear i
  have bz := b
  have z3 : w2.heap.size ≤ w3.heap.size := bz.size
  have H3 := Lib.hid (H2.out.trans (bz.mono H2.out.size))
  clear b bz H2
  go_wp2_with fail
  go_at_call 40; refine (toCaseS_any _ D _ (V1.out.below H3.out (Nat.le_refl _)) (by omega)).mono ?_; rintro e w4 ⟨q1v, rfl, i, b⟩
  have F4_2 := Lib.hid (CsLD.wide (lo' := w3.heap.size) i (Below.refl w3.heap.size w3).size)
  clear i
  have bz := b
  have F4_1 := Lib.hid (F3_1.out.below bz (Nat.le_refl _))
  have z4 : w3.heap.size ≤ w4.heap.size := bz.size
  have H4 := Lib.hid (H3.out.trans (bz.mono H3.out.size))
  clear b bz F3_1 H3
  go_wp2_with fail
  go_at_call 39; refine (specSameCases_any _ C _ D _ F4_1.out.csv F4_2.out.csv o0 o1).mono ?_; rintro e w5 ⟨rfl, b⟩
  have bz := b
  have z5 : w4.heap.size ≤ w5.heap.size := bz.size
  have H5 := Lib.hid (H4.out.trans (bz.mono H4.out.size))
  clear b bz F4_1 F4_2 H4
  go_wp2_with fail
  go_at_call 40; refine (toCaseS_any _ C _ (V0.out.below H5.out (Nat.le_refl _)) (by omega)).mono ?_; rintro e w6 ⟨x0v, rfl, i, b⟩
  obtain ⟨x0a, x0c, rfl⟩ := CsLD.len' i
  have F6_3 := Lib.hid (CsLD.wide (lo' := w5.heap.size) i (Below.refl w5.heap.size w5).size)
  clear i
  have bz := b
  have z6 : w5.heap.size ≤ w6.heap.size := bz.size
  have H6 := Lib.hid (H5.out.trans (bz.mono H5.out.size))
  clear b bz H5
  go_wp2_with fail
  go_at_call 40; refine (toCaseS_any _ D _ (V1.out.below H6.out (Nat.le_refl _)) (by omega)).mono ?_; rintro e w7 ⟨x1v, rfl, i, b⟩
  obtain ⟨x1a, x1c, rfl⟩ := CsLD.len' i
  have F7_4 := Lib.hid (CsLD.wide (lo' := w6.heap.size) i (Below.refl w6.heap.size w6).size)
  clear i
  have bz := b
  have F7_3 := Lib.hid (F6_3.out.below bz (Nat.le_refl _))
  have z7 : w6.heap.size ≤ w7.heap.size := bz.size
  have H7 := Lib.hid (H6.out.trans (bz.mono H6.out.size))
  clear b bz F6_3 H6
  go_wp2_with fail
  go_at_call 41; refine (implSameCases_any _ C _ D _ F7_3.out.csv F7_4.out.csv o0 o1).mono ?_; rintro e w8 ⟨rfl, b⟩
  have bz := b
  have F8_3 := Lib.hid (F7_3.out.below bz (Nat.le_refl _))
  have F8_4 := Lib.hid (F7_4.out.below bz (Nat.le_refl _))
  have z8 : w7.heap.size ≤ w8.heap.size := bz.size
  have H8 := Lib.hid (H7.out.trans (bz.mono H7.out.size))
  clear b bz F7_3 F7_4 H7
  go_wp2_with fail
  go_at_call 40; refine (toCaseS_any _ C _ (V0.out.below H8.out (Nat.le_refl _)) (by omega)).mono ?_; rintro e w9 ⟨tv, rfl, i, b⟩
  have F9_5 := Lib.hid (CsLD.wide (lo' := w8.heap.size) i (Below.refl w8.heap.size w8).size)
  clear i
  have bz := b
  have F9_3 := Lib.hid (F8_3.out.below bz (Nat.le_refl _))
  have F9_4 := Lib.hid (F8_4.out.below bz (Nat.le_refl _))
  have z9 : w8.heap.size ≤ w9.heap.size := bz.size
  have H9 := Lib.hid (H8.out.trans (bz.mono H8.out.size))
  clear b bz F8_3 F8_4 H8
  go_wp2_with fail
  go_at_call 42; refine (eqCaseS_any _ _ C _ (by omega) F9_3.out.csv F9_5.out.csv).mono ?_; rintro e w10 ⟨rfl, b⟩
  have bz := b
  have F10_4 := Lib.hid (F9_4.out.below bz (Nat.le_refl _))
  have z10 : w9.heap.size ≤ w10.heap.size := bz.size
  have H10 := Lib.hid (H9.out.trans (bz.mono H9.out.size))
  clear b bz F9_3 F9_4 F9_5 H9
  go_wp2_with fail
  go_at_call 40; refine (toCaseS_any _ D _ (V1.out.below H10.out (Nat.le_refl _)) (by omega)).mono ?_; rintro e w11 ⟨tv, rfl, i, b⟩
  have F11_6 := Lib.hid (CsLD.wide (lo' := w10.heap.size) i (Below.refl w10.heap.size w10).size)
  clear i
  have bz := b
  have F11_4 := Lib.hid (F10_4.out.below bz (Nat.le_refl _))
  have z11 : w10.heap.size ≤ w11.heap.size := bz.size
  have H11 := Lib.hid (H10.out.trans (bz.mono H10.out.size))
  clear b bz F10_4 H10
  go_wp2_with fail
  go_at_call 42; refine (eqCaseS_any _ _ D _ (by omega) F11_4.out.csv F11_6.out.csv).mono ?_; rintro e w12 ⟨rfl, b⟩
  have bz := b
  have z12 : w11.heap.size ≤ w12.heap.size := bz.size
  have H12 := Lib.hid (H11.out.trans (bz.mono H11.out.size))
  clear b bz F11_4 F11_6 H11
  go_wp2_with fail
  go_ret
  exact says rfl H12.out
set_option maxRecDepth 100000 in
set_option maxHeartbeats 8000000 in
theorem fnExactSameCases_size0 (v0 v1 : Value) (C : List Cs) (D : List Cs) (w : World) (hv0 : CsLV w v0 C) (hv1 : CsLV w v1 D) (hb : 1048576 < ((szCs C) : Int)) (fx : FitCs C) :
    Calls Try.prog 10 #[v0, v1] w (Says true w) := by
  have V0 := Lib.hid hv0
  obtain ⟨a0, cap0, rfl⟩ := hv0.long
  clear hv0
  have V1 := Lib.hid hv1
  obtain ⟨a1, cap1, rfl⟩ := hv1.long
  clear hv1
  have hz : ∀ n : Nat, (0 : Int) ≤ n := fun n => Int.natCast_nonneg n
  go_enter Try.func10, Try.ntmps10
  go_wp2_with fail
  go_at_call 38; refine (szCaseS_no _ C _ _ (V0.out.below (Below.refl w.heap.size w) (Nat.le_refl _)) hb (by omega) (by omega) fx).mono ?_; rintro e w1 ⟨rfl, b⟩
  have bz := b
  have z1 : w.heap.size ≤ w1.heap.size := bz.size
  have H1 := Lib.hid ((Below.refl w.heap.size w).trans (bz.mono (Below.refl w.heap.size w).size))
  clear b bz
  go_wp2_with fail
  go_ret
  exact says rfl H1.out

set_option maxRecDepth 100000 in
set_option maxHeartbeats 8000000 in
theorem fnExactSameCases_size1 (v0 v1 : Value) (C : List Cs) (D : List Cs) (w : World) (hv0 : CsLV w v0 C) (hv1 : CsLV w v1 D) (hm : ((szCs C) : Int) ≤ (1048576 : Int)) (hb : 1048576 - ((szCs C) : Int) < ((szCs D) : Int)) (fx : FitCs D) :
    Calls Try.prog 10 #[v0, v1] w (Says true w) := by
  have V0 := Lib.hid hv0
  obtain ⟨a0, cap0, rfl⟩ := hv0.long
  clear hv0
  have V1 := Lib.hid hv1
  obtain ⟨a1, cap1, rfl⟩ := hv1.long
  clear hv1
  have hz : ∀ n : Nat, (0 : Int) ≤ n := fun n => Int.natCast_nonneg n
  have ht_1 : decide (1048576 - ((szCs C) : Int) < 0) = false := by simp; omega
  go_enter Try.func10, Try.ntmps10
  go_wp2_with fail
  go_at_call 38; refine (szCaseS_yes _ C _ _ (V0.out.below (Below.refl w.heap.size w) (Nat.le_refl _)) (by omega) (by omega)).mono ?_; rintro e w1 ⟨rfl, b⟩
  have bz := b
  have z1 : w.heap.size ≤ w1.heap.size := bz.size
  have H1 := Lib.hid ((Below.refl w.heap.size w).trans (bz.mono (Below.refl w.heap.size w).size))
  clear b bz
  go_wp2_with fail
  go_at_call 38; refine (szCaseS_no _ D _ _ (V1.out.below H1.out (Nat.le_refl _)) hb (by omega) (by omega) fx).mono ?_; rintro e w2 ⟨rfl, b⟩
  have bz := b
  have z2 : w1.heap.size ≤ w2.heap.size := bz.size
  have H2 := Lib.hid (H1.out.trans (bz.mono H1.out.size))
  clear b bz H1
  go_wp2_with fail
  go_ret
  exact says rfl H2.out

set_option maxRecDepth 100000 in
set_option maxHeartbeats 8000000 in
theorem fnExactSameCases_all (v0 v1 : Value) (C : List Cs) (D : List Cs) (w : World) (hv0 : CsLV w v0 C) (hv1 : CsLV w v1 D) (f0 : FitCs C) (f1 : FitCs D) :
    Calls Try.prog 10 #[v0, v1] w (Says true w) := by
  by_cases hb0 : 1048576 < ((szCs C) : Int)
  · exact fnExactSameCases_size0 v0 v1 C D w hv0 hv1  hb0 f0
  by_cases hb1 : 1048576 - ((szCs C) : Int) < ((szCs D) : Int)
  · exact fnExactSameCases_size1 v0 v1 C D w hv0 hv1  (by omega) hb1 f1
  exact fnExactSameCases_main v0 v1 C D w hv0 hv1 ⟨by omega, f0⟩ ⟨by omega, f1⟩ (by omega)

theorem Try.own : ownKnob Try.prog.godebug = none := by kernel_rfl
theorem Try.laidOut : laidOutB Try.prog = true := by kernel_rfl
theorem f32_lt {x : Nat} (h : (Lit.float .f32 x).wf = true) : x < 4294967296 := by simpa [Lit.wf] using h
theorem f64_lt {x : Nat} (h : (Lit.float .f64 x).wf = true) : x < 18446744073709551616 := by simpa [Lit.wf] using h
theorem i64_in {x : Int} (h : (Lit.int .i64 x).wf = true) : -9223372036854775808 ≤ x ∧ x ≤ 9223372036854775807 := by
  have h1 : IntKind.i64.min = -9223372036854775808 := by decide
  have h2 : IntKind.i64.max = 9223372036854775807 := by decide
  simp only [Lit.wf, Bool.and_eq_true, decide_eq_true_eq, h1, h2] at h
  exact h

set_option maxRecDepth 100000 in
theorem fnExactSameCases_lifted (os : Os) (started : os.Started) (H : Type) (enc : TypeId × Value → H) :
    ReturnsInHanded {} Try.checked os 10 .any (Rows.fnExactSameCasesSpec.pre6 enc Try.prog Try.f10 [] false) (Rows.fnExactSameCasesSpec.post enc Try.prog Try.f10 false true false false) := by
  refine Frame.law_lifted (tb := 4) Try.own started (by kernel_rfl) Try.func10
    (ChangeSpec.witness6 (enc := enc) (C := Try.checked) false ⟨#[], #[.slice none 0 0, .slice none 0 0], []⟩ 8 (by kernel_rfl) (by kernel_rfl) (by kernel_rfl) (by kernel_rfl))
    Try.laidOut (by kernel_rfl) rfl (by kernel_rfl) Try.underlying4 (fun ds hd => ?_) ?_
  · rw [Try.params10] at hd
    match ds, hd with
    | [_, _], _ => exact ⟨rfl, rfl, rfl⟩
  intro W base args ds p hval0 hA0 hlt hsz0
  have hval : ∀ (j : Nat) t v, Try.f10.params[j]? = some t → args[j]? = some v → Value.okWide Try.prog W .any base t v := hval0
  have hA : DataW.TrodAll enc Try.prog W 0 (fun _ => true) true Try.f10.params.toList args.toList ds p := hA0
  have hsz : (DataW.weightsEach Try.prog Try.f10.params.toList ds).all (· ≤ reachBytes) = true := hsz0
  rw [Try.params10] at hA hval hsz
  clear hval0 hA0 hsz0
  obtain ⟨v0, v1, d0, d1, p0, p1, rfl, rfl, rfl, h0, h1⟩ := trodAll_two hA
  obtain ⟨r0, g0, k0⟩ := open_cases (hval 0 43 v0 rfl rfl) h0
  obtain ⟨r1, g1, k1⟩ := open_cases (hval 1 43 v1 rfl rfl) h1
  exact fnExactSameCases_all v0 v1 r0 r1 W g0 g1 k0 k1

theorem fnExactSameCases_holds : Rows.FnExactSameCasesSaid :=
  OpenClaim.holds_of_wide 10 Try.f10 rfl rfl rfl rfl rfl rfl rfl ⟨rfl, rfl, rfl, rfl, rfl⟩ rfl rfl rfl rfl rfl (by kernel_rfl) Try.func10 (by kernel_rfl)
    (of_decide_eq_true (by kernel_rfl)) (by unfold Func.isWrapper; first | (rw [if_pos (by decide +kernel)]; kernel_rfl) | (rw [if_neg (by decide +kernel)]; exact ⟨rfl, rfl⟩))
    (fun os started H enc _ => fnExactSameCases_lifted os started H enc)
end Go.Proofs.Ytiobbclciboggaa
