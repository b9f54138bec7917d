/- TightSets answers as its model, for all arguments; it writes into no argument. -/
import Derived.Test.YtnakpfbeeekmiaaDoorLsG
import Derived.Test.YtnakpfbeeekmiaaDoorLsM
import Derived.Test.YtnakpfbeeekmiaaDoorTgS
import Derived.Test.YtnakpfbeeekmiaaDoorTgI
import Derived.Test.YtnakpfbeeekmiaaDoorIl
import Derived.Deep.RegionWith
import Derived.Deep.DeepCutAuto
import Derived.Test.YtnakpfbeeekmiaaDoorFrame
import Derived.Outline
import Derived.Test.YtnakpfbeeekmiaaDoorFrameD
import Derived.SevenTiedAt
namespace Go.Proofs.YtnakpfbeeekmiaaDoor
open Go.ChangeShapes Go.WideShapes Go.ChangeAt Go.RowKit Go.ChangeMaps

set_option maxRecDepth 100000 in
set_option maxHeartbeats 8000000 in
theorem fnExactTightSets_main (v0 : Value) (C : List (List Int)) (w : World) (hv0 : LV w v0 C) (o0 : OKL C) (hm : ((szL C) : Int) ≤ (1048576 : Int)) (hT : TzTab w) :
    Calls Tryd.prog 4 #[v0] w (Says true w) := by
  have V0 := Lib.hid hv0
  obtain ⟨a0, cap0, rfl⟩ := hv0.long
  clear hv0
  have HTB := Lib.hid hT
  have hs0 := o0.size
  have hmt0 : totAt C C.length ≤ szL C := Nat.le_add_left _ _
  have ht0 : decide (1048576 - ((szL C) : Int) < 0) = false := by simp; omega
  have hmm := hm
  go_enter Tryd.func4, Tryd.ntmps4
  go_wp2_with fail
  go_at_call 14; refine (szSS_yes2 _ C _ _ (V0.out.below (Below.refl w.heap.size w) (Nat.le_refl _)) (by omega) (by omega)).mono ?_; rintro e w1 ⟨rfl, b⟩
  have bz := b
  have z1 : w.heap.size ≤ w1.heap.size := bz.size
  have H1 := Lib.hid ((Below.refl w.heap.size w).trans (bz.mono (Below.refl w.heap.size w).size))
  clear b bz
  go_wp2_with fail
  go_at_call 16; refine (toSS_any _ C _ (V0.out.below H1.out (Nat.le_refl _)) (by omega)).mono ?_; rintro e w2 ⟨q0v, rfl, i, b⟩
  have F2_1 := Lib.hid (LD.wide' (lo' := w1.heap.size) i (Below.refl w1.heap.size w1).size)
  clear i
  have bz := b
  have z2 : w1.heap.size ≤ w2.heap.size := bz.size
  have H2 := Lib.hid (H1.out.trans (bz.mono H1.out.size))
  clear b bz H1
  go_wp2_with fail
  go_at_call 15; refine (specTightSets_any _ C _ F2_1.out.lv o0).mono ?_; rintro e w3 ⟨w0v, rfl, i0, b⟩
  have F3_2 := Lib.hid (II.wide' (lo' := w2.heap.size) i0 (Below.refl w2.heap.size w2).size)
  clear i0
  have bz := b
  have z3 : w2.heap.size ≤ w3.heap.size := bz.size
  have H3 := Lib.hid (H2.out.trans (bz.mono H2.out.size))
  clear b bz F2_1 H2
  go_wp2_with fail
  go_at_call 16; refine (toSS_any _ C _ (V0.out.below H3.out (Nat.le_refl _)) (by omega)).mono ?_; rintro e w4 ⟨x0v, rfl, i, b⟩
  obtain ⟨x0a, x0c, rfl⟩ := LD.len' i
  have F4_3 := Lib.hid (LD.wide' (lo' := w3.heap.size) i (Below.refl w3.heap.size w3).size)
  clear i
  have bz := b
  have F4_2 := Lib.hid (F3_2.out.below' bz (Nat.le_refl _))
  have z4 : w3.heap.size ≤ w4.heap.size := bz.size
  have H4 := Lib.hid (H3.out.trans (bz.mono H3.out.size))
  clear b bz F3_2 H3
  go_wp2_with fail
  go_at_call 17; refine (implTightSets_any _ C _ F4_3.out.lv o0 (HTB.out.below H4.out)).mono ?_; rintro e w5 ⟨g0v, rfl, i0, b⟩
  have F5_4 := Lib.hid (II.wide' (lo' := w4.heap.size) i0 (Below.refl w4.heap.size w4).size)
  clear i0
  have bz := b
  have F5_2 := Lib.hid (F4_2.out.below' bz (Nat.le_refl _))
  have F5_3 := Lib.hid (F4_3.out.below' bz (Nat.le_refl _))
  have z5 : w4.heap.size ≤ w5.heap.size := bz.size
  have H5 := Lib.hid (H4.out.trans (bz.mono H4.out.size))
  clear b bz F4_2 F4_3 H4
  go_wp2_with fail
  go_at_call 9; refine (eqI64_says _ _ (tgL C) _ (tgL_len C) F5_4.out.il F5_2.out.il).mono ?_; rintro e w6 ⟨rfl, b⟩
  have bz := b
  have F6_2 := Lib.hid (F5_2.out.below' bz (Nat.le_refl _))
  have F6_3 := Lib.hid (F5_3.out.below' bz (Nat.le_refl _))
  have F6_4 := Lib.hid (F5_4.out.below' bz (Nat.le_refl _))
  have z6 : w5.heap.size ≤ w6.heap.size := bz.size
  have H6 := Lib.hid (H5.out.trans (bz.mono H5.out.size))
  clear b bz F5_2 F5_3 F5_4 H5
  go_wp2_with fail
  go_at_call 16; refine (toSS_any _ C _ (V0.out.below H6.out (Nat.le_refl _)) (by omega)).mono ?_; rintro e w7 ⟨tv, rfl, i, b⟩
  have F7_5 := Lib.hid (LD.wide' (lo' := w6.heap.size) i (Below.refl w6.heap.size w6).size)
  clear i
  have bz := b
  have F7_2 := Lib.hid (F6_2.out.below' bz (Nat.le_refl _))
  have F7_3 := Lib.hid (F6_3.out.below' bz (Nat.le_refl _))
  have F7_4 := Lib.hid (F6_4.out.below' bz (Nat.le_refl _))
  have z7 : w6.heap.size ≤ w7.heap.size := bz.size
  have H7 := Lib.hid (H6.out.trans (bz.mono H6.out.size))
  clear b bz F6_2 F6_3 F6_4 H6
  go_wp2_with fail
  go_at_call 18; refine (eqSS_any _ _ C _ (by omega) F7_3.out.lv F7_5.out.lv).mono ?_; rintro e w8 ⟨rfl, b⟩
  have bz := b
  have F8_2 := Lib.hid (F7_2.out.below' bz (Nat.le_refl _))
  have F8_3 := Lib.hid (F7_3.out.below' bz (Nat.le_refl _))
  have F8_4 := Lib.hid (F7_4.out.below' bz (Nat.le_refl _))
  have z8 : w7.heap.size ≤ w8.heap.size := bz.size
  have H8 := Lib.hid (H7.out.trans (bz.mono H7.out.size))
  clear b bz F7_2 F7_3 F7_4 F7_5 H7
  go_wp2_with fail
  go_at_call 19; refine (markSS_any w3.heap.size w4.heap.size _ C 1 _ F8_3.out (by omega) (by omega) (by omega)).mono ?_; rintro e w9 ⟨rfl, i, t⟩
  have G9_3 := Lib.hid i
  clear i
  have F9_2 := Lib.hid (F8_2.out.kept' t (by omega))
  have F9_4 := Lib.hid (F8_4.out.kept' t (by omega))
  have z9 : w8.heap.size ≤ w9.heap.size := t.size
  have H9 := Lib.hid (H8.out.trans ((t.below (by omega)).mono (by omega)))
  clear t F8_2 F8_3 F8_4 H8
  clear G9_3
  have hk9 : decide (1 + (((totAt C C.length) : Nat) : Int) < 0) = false := by simp; omega
  go_wp2_with fail
  go_at_call 9; refine (eqI64_says _ _ (tgL C) _ (tgL_len C) F9_4.out.il F9_2.out.il).mono ?_; rintro e w10 ⟨rfl, b⟩
  have bz := b
  have F10_2 := Lib.hid (F9_2.out.below' bz (Nat.le_refl _))
  have F10_4 := Lib.hid (F9_4.out.below' bz (Nat.le_refl _))
  have z10 : w9.heap.size ≤ w10.heap.size := bz.size
  have H10 := Lib.hid (H9.out.trans (bz.mono H9.out.size))
  clear b bz F9_2 F9_4 H9
  go_wp2_with fail
  go_at_call 12; refine (markI64_any w4.heap.size w5.heap.size _ (tgL C) 1 _ F10_4.out (tgL_len C) (by omega) (by omega)).mono ?_; rintro e w11 ⟨rfl, i, t⟩
  have G11_4 := Lib.hid i
  clear i
  have F11_2 := Lib.hid (F10_2.out.kept' t (by omega))
  have z11 : w10.heap.size ≤ w11.heap.size := t.size
  have H11 := Lib.hid (H10.out.trans ((t.below (by omega)).mono (by omega)))
  clear t F10_2 F10_4 H10
  have hk11 : decide (1 + (((tgL C).length : Nat) : Int) < 0) = false := by simp; omega
  go_wp2_with fail
  go_at_call 13; refine (heldI64_says _ 1 ((tgL C)).length _ G11_4.out.il (tgL_len C) (by omega) (by omega)).mono ?_; rintro e w12 ⟨rfl, b⟩
  have bz := b
  have F12_2 := Lib.hid (F11_2.out.below' bz (Nat.le_refl _))
  have F12_4 := Lib.hid (G11_4.out.below' bz (Nat.le_refl _))
  have z12 : w11.heap.size ≤ w12.heap.size := bz.size
  have H12 := Lib.hid (H11.out.trans (bz.mono H11.out.size))
  clear b bz F11_2 G11_4 H11
  go_wp2_with fail
  go_at_call 16; refine (toSS_any _ C _ (V0.out.below H12.out (Nat.le_refl _)) (by omega)).mono ?_; rintro e w13 ⟨q0v, rfl, i, b⟩
  have F13_6 := Lib.hid (LD.wide' (lo' := w12.heap.size) i (Below.refl w12.heap.size w12).size)
  clear i
  have bz := b
  have F13_2 := Lib.hid (F12_2.out.below' bz (Nat.le_refl _))
  have F13_4 := Lib.hid (F12_4.out.below' bz (Nat.le_refl _))
  have z13 : w12.heap.size ≤ w13.heap.size := bz.size
  have H13 := Lib.hid (H12.out.trans (bz.mono H12.out.size))
  clear b bz F12_2 F12_4 H12
  go_wp2_with fail
  go_at_call 17; refine (implTightSets_any _ C _ F13_6.out.lv o0 (HTB.out.below H13.out)).mono ?_; rintro e w14 ⟨h0v, rfl, i0, b⟩
  have F14_7 := Lib.hid (II.wide' (lo' := w13.heap.size) i0 (Below.refl w13.heap.size w13).size)
  clear i0
  have bz := b
  have F14_2 := Lib.hid (F13_2.out.below' bz (Nat.le_refl _))
  have F14_4 := Lib.hid (F13_4.out.below' bz (Nat.le_refl _))
  have z14 : w13.heap.size ≤ w14.heap.size := bz.size
  have H14 := Lib.hid (H13.out.trans (bz.mono H13.out.size))
  clear b bz F13_2 F13_4 F13_6 H13
  go_wp2_with fail
  go_at_call 9; refine (eqI64_says _ _ (tgL C) _ (tgL_len C) F14_7.out.il F14_2.out.il).mono ?_; rintro e w15 ⟨rfl, b⟩
  have bz := b
  have F15_2 := Lib.hid (F14_2.out.below' bz (Nat.le_refl _))
  have F15_4 := Lib.hid (F14_4.out.below' bz (Nat.le_refl _))
  have F15_7 := Lib.hid (F14_7.out.below' bz (Nat.le_refl _))
  have z15 : w14.heap.size ≤ w15.heap.size := bz.size
  have H15 := Lib.hid (H14.out.trans (bz.mono H14.out.size))
  clear b bz F14_2 F14_4 F14_7 H14
  go_wp2_with fail
  go_at_call 13; refine (heldI64_says _ 1 ((tgL C)).length _ F15_4.out.il (tgL_len C) (by omega) (by omega)).mono ?_; rintro e w16 ⟨rfl, b⟩
  have bz := b
  have F16_2 := Lib.hid (F15_2.out.below' bz (Nat.le_refl _))
  have F16_4 := Lib.hid (F15_4.out.below' bz (Nat.le_refl _))
  have F16_7 := Lib.hid (F15_7.out.below' bz (Nat.le_refl _))
  have z16 : w15.heap.size ≤ w16.heap.size := bz.size
  have H16 := Lib.hid (H15.out.trans (bz.mono H15.out.size))
  clear b bz F15_2 F15_4 F15_7 H15
  go_wp2_with fail
  go_ret
  exact says rfl H16.out
set_option maxRecDepth 100000 in
set_option maxHeartbeats 8000000 in
theorem fnExactTightSets_size0 (v0 : Value) (C : List (List Int)) (w : World) (hv0 : LV w v0 C) (hb : 1048576 < ((szL C) : Int)) (fx : FitL C) :
    Calls Tryd.prog 4 #[v0] w (Says true w) := by
  have V0 := Lib.hid hv0
  obtain ⟨a0, cap0, rfl⟩ := hv0.long
  clear hv0
  have hz : ∀ n : Nat, (0 : Int) ≤ n := fun n => Int.natCast_nonneg n
  go_enter Tryd.func4, Tryd.ntmps4
  go_wp2_with fail
  go_at_call 14; refine (szSS_no2 _ C _ _ (V0.out.below (Below.refl w.heap.size w) (Nat.le_refl _)) hb (by omega) (by omega) fx).mono ?_; rintro e w1 ⟨rfl, b⟩
  have bz := b
  have z1 : w.heap.size ≤ w1.heap.size := bz.size
  have H1 := Lib.hid ((Below.refl w.heap.size w).trans (bz.mono (Below.refl w.heap.size w).size))
  clear b bz
  go_wp2_with fail
  go_ret
  exact says rfl H1.out

set_option maxRecDepth 100000 in
set_option maxHeartbeats 8000000 in
theorem fnExactTightSets_all (v0 : Value) (C : List (List Int)) (w : World) (hv0 : LV w v0 C) (f0 : FitL C) (hT : TzTab w) :
    Calls Tryd.prog 4 #[v0] w (Says true w) := by
  by_cases hb0 : 1048576 < ((szL C) : Int)
  · exact fnExactTightSets_size0 v0 C w hv0  hb0 f0
  exact fnExactTightSets_main v0 C w hv0 ⟨by omega, f0⟩ (by omega) hT

theorem Tryd.own : ownKnob Tryd.prog.godebug = none := by kernel_rfl
theorem Tryd.laidOut : laidOutB Tryd.prog = true := by kernel_rfl
theorem f32_lt {x : Nat} (h : (Lit.float .f32 x).wf = true) : x < 4294967296 := by simpa [Lit.wf] using h
theorem f64_lt {x : Nat} (h : (Lit.float .f64 x).wf = true) : x < 18446744073709551616 := by simpa [Lit.wf] using h
theorem i64_in {x : Int} (h : (Lit.int .i64 x).wf = true) : -9223372036854775808 ≤ x ∧ x ≤ 9223372036854775807 := by
  have h1 : IntKind.i64.min = -9223372036854775808 := by decide
  have h2 : IntKind.i64.max = 9223372036854775807 := by decide
  simp only [Lit.wf, Bool.and_eq_true, decide_eq_true_eq, h1, h2] at h
  exact h

set_option maxRecDepth 100000 in
theorem fnExactTightSets_lifted (os : Os) (started : os.Started) (H : Type) (enc : TypeId × Value → H) :
    ReturnsInHanded {} Tryd.checked os 4 .any (fun w args => (Rows.fnExactTightSetsSpec.pre enc Tryd.prog Tryd.f4 [] false w args ∧ laidMetH Tryd.prog laid2 w) ∧ sizedMet enc Tryd.prog Tryd.f4 (OpenSpec.ofChange Rows.fnExactTightSetsSpec) false w args) (Rows.fnExactTightSetsSpec.post enc Tryd.prog Tryd.f4 false true false false) := by
  refine Frame.law_lifted_laid (X := fun w => laidMetH Tryd.prog laid2 w) (tb := 4) (fun _ _ hh h => h.of_heap hh) Tryd.own started (by kernel_rfl) Tryd.func4
    (ChangeSpec.witness_shaped (enc := enc) (C := Tryd.checked) (os := os) (X := fun w _ => laidMetH Tryd.prog laid2 w) false (World.doorLaid Tryd.prog 400 os) #[.slice none 0 0] 8 rfl (World.shaped_of_RefB (by kernel_rfl) (by kernel_rfl)) (by kernel_rfl) (by kernel_rfl) (by kernel_rfl) (door_met os _))
    Tryd.laidOut (by kernel_rfl) rfl (by kernel_rfl) Tryd.underlying4 (fun ds hd => ?_) ?_
  · rw [Tryd.params4] at hd
    match ds, hd with
    | [_], _ => exact ⟨rfl, rfl, rfl⟩
  intro W base args ds p hval0 hA0 hlt hsz0 hX0
  have hT := tz_of_laid hX0
  have hval : ∀ (j : Nat) t v, Tryd.f4.params[j]? = some t → args[j]? = some v → Value.okWide Tryd.prog W .any base t v := hval0
  have hA : DataW.TrodAll enc Tryd.prog W 0 (fun _ => true) true Tryd.f4.params.toList args.toList ds p := hA0
  have hsz : (DataW.weightsEach Tryd.prog Tryd.f4.params.toList ds).all (· ≤ reachBytes) = true := hsz0
  rw [Tryd.params4] at hA hval hsz
  clear hval0 hA0 hsz0 hX0
  obtain ⟨v0, d0, rfl, rfl, h0⟩ := trodAll_one hA
  obtain ⟨r0, g0, k0⟩ := open_lvs (hval 0 34 v0 rfl rfl) h0
  exact fnExactTightSets_all v0 r0 W g0 k0 hT

theorem fnExactTightSets_row : Rows.FnExactTightSetsSaid :=
  OpenClaim.holds_of_wide 4 Tryd.f4 rfl rfl rfl rfl rfl rfl rfl ⟨rfl, rfl, rfl, rfl, rfl⟩ rfl rfl rfl rfl rfl (by kernel_rfl) Tryd.func4 (by kernel_rfl)
    (of_decide_eq_true (by kernel_rfl)) (by unfold Func.isWrapper; first | (rw [if_pos (by decide +kernel)]; kernel_rfl) | (rw [if_neg (by decide +kernel)]; exact ⟨rfl, rfl⟩))
    (fun os started H enc _ => fnExactTightSets_lifted os started H enc)

theorem fnExactTightSets_holds : Rows.FnExactTightSetsCardSaid :=
  Claim7.holds_tied_plain_at .later [] [.data, .data] true (true, "06abfca45ea33f0308632d02c6543eee74f4c988b0941ddc1c1b1deef2b3de7e") false
    fnExactTightSets_row (fun _ h => by cases h) (by kernel_rfl) (fun _ h => by cases h) fnExactTightSets_row_tie rfl ⟨rfl, rfl⟩ (by kernel_rfl) rfl
    (fun f fn hf hfn => by
      obtain rfl : f = 4 := Option.some.inj ((show Tryd.prog.funcNamed "loop.example/g01346/laws.FnExactTightSets" = some 4 by kernel_rfl).symm.trans hf) |>.symm
      obtain rfl : fn = Tryd.f4 := (Option.some.inj (Tryd.func4.symm.trans hfn)).symm
      exact ⟨by kernel_rfl, fun j t ht => by
        rw [Tryd.params4] at ht
        have hm : t ∈ [34] := by simpa using Array.mem_of_getElem? ht
        have hall : ([34].all fun u => !Tryd.prog.wantsStandIn u) = true := by kernel_rfl
        exact (show Tryd.prog.wantsStandIn t = false by simpa using List.all_eq_true.1 hall t hm)⟩)
    (by kernel_rfl)
end Go.Proofs.YtnakpfbeeekmiaaDoor
