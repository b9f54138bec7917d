/- ArePrices answers as its model, for all arguments; it writes into no argument. -/
import Derived.Test.YtkpdjbpfnepgaabPrc4
import Derived.Test.YtkpdjbpfnepgaabLaw
import Derived.Deep.RegionWith
import Derived.Deep.DeepCutAuto
import Derived.Test.YtkpdjbpfnepgaabFrame
import Derived.Outline
namespace Go.Proofs.Ytkpdjbpfnepgaab
open Go.ChangeShapes Go.WideShapes Go.ChangeAt Go.RowKit Go.ChangeMaps

set_option maxRecDepth 100000 in
set_option maxHeartbeats 8000000 in
theorem fnExactArePrices_main (v0 v1 : Value) (R : Rw) (Y : List Nat) (a : Nat) (w : World) (hv0 : RV w v0 R) (hv1 : SL w v1 Y) (o0 : OKR R) (o1 : OKF Y) (o2 : a < 4294967296) (hm : (R.size : Int) ≤ (1048576 : Int)) :
    Calls Try.prog 4 #[v0, v1, .float .f32 a] w (Says true w) := by
  have V0 := Lib.hid hv0
  obtain ⟨s01, s02, s03, rfl, -, -, -⟩ := hv0
  have V1 := Lib.hid hv1
  obtain ⟨a1, cap1, rfl⟩ := hv1.long
  clear hv1
  have F0_1 := Lib.hid (Box4.mk' w (.int .i64 R.vars) (s01) (s02) (s03) 24)
  have hs0 := o0.size
  have hl1 : ¬ 1048576 < Y.length := by have := o1.size; omega
  have hs1 := o1.size
  have ht0 : decide (1048576 - (R.size : Int) < 0) = false := by simp; omega
  have hmm := hm
  go_enter Try.func4, Try.ntmps4
  go_wp2_with fail
  go_at_call 15; refine (szRows_yes _ R _ _ (V0.out.below ((Below.refl w.heap.size w).trans ((below_alloc w _).mono (Below.refl w.heap.size w).size)) (Nat.le_refl _)) (by omega) (by omega)).mono ?_; rintro e w1 ⟨rfl, b⟩
  have bz := (below_alloc w _).trans (b.mono (below_alloc w _).size)
  have F1_1 := Lib.hid (F0_1.out.keep b F0_1.out.lt)
  have lb1 : w.heap.size < w1.heap.size := F1_1.out.lt
  have z1 : w.heap.size ≤ w1.heap.size := bz.size
  have H1 := Lib.hid ((Below.refl w.heap.size w).trans (bz.mono (Below.refl w.heap.size w).size))
  clear b bz F0_1
  obtain ⟨c1_0, c1_1, c1_2, c1_3⟩ := F1_1.out
  have l1 := F1_1.out.lt
  go_wp2_with fail
  clear c1_0 c1_1 c1_2 c1_3 l1
  go_at_call 17; refine (toRows_any _ R _ (V0.out.below H1.out (Nat.le_refl _)) (by omega)).mono ?_; rintro e w2 ⟨q0v, rfl, i, b⟩
  have F2_2 := Lib.hid (RD.wide (lo' := w1.heap.size) i (Below.refl w1.heap.size w1).size)
  clear i
  have bz := b
  have F2_1 := Lib.hid (F1_1.out.keep bz F1_1.out.lt)
  have z2 : w1.heap.size ≤ w2.heap.size := bz.size
  have H2 := Lib.hid (H1.out.trans (bz.mono H1.out.size))
  clear b bz F1_1 H1
  obtain ⟨c1_0, c1_1, c1_2, c1_3⟩ := F2_1.out
  have l1 := F2_1.out.lt
  go_wp2_with fail
  clear c1_0 c1_1 c1_2 c1_3 l1
  go_at_call 18; refine (toF32_si _ Y _ (V1.out.below H2.out (Nat.le_refl _)) (by omega)).mono ?_; rintro e w3 ⟨q1v, rfl, i, b⟩
  have F3_3 := Lib.hid (FI.wide' (lo' := w2.heap.size) i (Below.refl w2.heap.size w2).size)
  clear i
  have bz := b
  have F3_1 := Lib.hid (F2_1.out.keep bz F2_1.out.lt)
  have F3_2 := Lib.hid (F2_2.out.below bz (Nat.le_refl _))
  have z3 : w2.heap.size ≤ w3.heap.size := bz.size
  have H3 := Lib.hid (H2.out.trans (bz.mono H2.out.size))
  clear b bz F2_1 F2_2 H2
  obtain ⟨c1_0, c1_1, c1_2, c1_3⟩ := F3_1.out
  have l1 := F3_1.out.lt
  go_wp2_with fail
  clear c1_0 c1_1 c1_2 c1_3 l1
  go_at_call 22; refine (specArePrices_any _ R _ Y a _ F3_2.out.rv F3_3.out.sl o0 o1 o2).mono ?_; rintro e w4 ⟨rfl, b⟩
  have bz := b
  have F4_1 := Lib.hid (F3_1.out.keep bz F3_1.out.lt)
  have z4 : w3.heap.size ≤ w4.heap.size := bz.size
  have H4 := Lib.hid (H3.out.trans (bz.mono H3.out.size))
  clear b bz F3_1 F3_2 F3_3 H3
  obtain ⟨c1_0, c1_1, c1_2, c1_3⟩ := F4_1.out
  have l1 := F4_1.out.lt
  go_wp2_with fail
  clear c1_0 c1_1 c1_2 c1_3 l1
  go_at_call 17; refine (toRows_any _ R _ (V0.out.below H4.out (Nat.le_refl _)) (by omega)).mono ?_; rintro e w5 ⟨x0v, rfl, i, b⟩
  obtain ⟨x0c1, x0ck1, x0c2, x0ck2, x0c3, x0ck3, rfl⟩ := i.split
  have F5_4 := Lib.hid (RD.wide (lo' := w4.heap.size) i (Below.refl w4.heap.size w4).size)
  clear i
  have bz := b
  have F5_1 := Lib.hid (F4_1.out.keep bz F4_1.out.lt)
  have z5 : w4.heap.size ≤ w5.heap.size := bz.size
  have H5 := Lib.hid (H4.out.trans (bz.mono H4.out.size))
  clear b bz F4_1 H4
  have F5_5 := Lib.hid (Box4.mk' w5 (.int .i64 R.vars) (.slice x0c1 R.N.length x0ck1) (.slice x0c2 R.B.length x0ck2) (.slice x0c3 R.G.length x0ck3) 28)
  obtain ⟨c1_0, c1_1, c1_2, c1_3⟩ := F5_1.out
  have l1 := F5_1.out.lt
  go_wp2_with fail
  clear c1_0 c1_1 c1_2 c1_3 l1
  go_at_call 18; refine (toF32_si _ Y _ (V1.out.below (H5.out.trans ((below_alloc w5 _).mono H5.out.size)) (Nat.le_refl _)) (by omega)).mono ?_; rintro e w6 ⟨x1v, rfl, i, b⟩
  obtain ⟨x1a, x1c, rfl⟩ := FI.len' i
  have F6_6 := Lib.hid (FI.wide' (lo' := (w5.heap.size + 1)) i (by simp))
  clear i
  have bz := (below_alloc w5 _).trans (b.mono (below_alloc w5 _).size)
  have F6_1 := Lib.hid (F5_1.out.keep bz F5_1.out.lt)
  have F6_4 := Lib.hid (F5_4.out.below bz (Nat.le_refl _))
  have F6_5 := Lib.hid (F5_5.out.keep b F5_5.out.lt)
  have lb5 : w5.heap.size < w6.heap.size := F6_5.out.lt
  have z6 : w5.heap.size ≤ w6.heap.size := bz.size
  have H6 := Lib.hid (H5.out.trans (bz.mono H5.out.size))
  clear b bz F5_1 F5_4 F5_5 H5
  obtain ⟨c1_0, c1_1, c1_2, c1_3⟩ := F6_1.out
  have l1 := F6_1.out.lt
  obtain ⟨c5_0, c5_1, c5_2, c5_3⟩ := F6_5.out
  have l5 := F6_5.out.lt
  go_wp2_with fail
  clear c1_0 c1_1 c1_2 c1_3 l1 c5_0 c5_1 c5_2 c5_3 l5
  go_at_call 23; refine (implArePrices_any _ R _ Y a _ F6_4.out.rv F6_6.out.sl o0 o1 o2).mono ?_; rintro e w7 ⟨rfl, b⟩
  have bz := b
  have F7_1 := Lib.hid (F6_1.out.keep bz F6_1.out.lt)
  have F7_4 := Lib.hid (F6_4.out.below bz (Nat.le_refl _))
  have F7_5 := Lib.hid (F6_5.out.keep bz F6_5.out.lt)
  have F7_6 := Lib.hid (F6_6.out.below' bz (Nat.le_refl _))
  have z7 : w6.heap.size ≤ w7.heap.size := bz.size
  have H7 := Lib.hid (H6.out.trans (bz.mono H6.out.size))
  clear b bz F6_1 F6_4 F6_5 F6_6 H6
  obtain ⟨c1_0, c1_1, c1_2, c1_3⟩ := F7_1.out
  have l1 := F7_1.out.lt
  obtain ⟨c5_0, c5_1, c5_2, c5_3⟩ := F7_5.out
  have l5 := F7_5.out.lt
  go_upto_region 13 with fail
  clear c1_0 c1_1 c1_2 c1_3 l1 c5_0 c5_1 c5_2 c5_3 l5
  go_cut [41] (fun s wx => s = .bool false ∧ Hid ((Below w.heap.size w wx) ∧ (w7.heap.size ≤ wx.heap.size) ∧ (Box4 wx w.heap.size (.int .i64 R.vars) (s01) (s02) (s03)) ∧ (FI (w5.heap.size + 1) w6.heap.size wx ((.slice x1a Y.length x1c)) Y)))
  case first =>
    obtain ⟨c1_0, c1_1, c1_2, c1_3⟩ := F7_1.out
    have l1 := F7_1.out.lt
    obtain ⟨c5_0, c5_1, c5_2, c5_3⟩ := F7_5.out
    have l5 := F7_5.out.lt
    go_region_with (first | (go_at_call 17; refine (toRows_any _ R _ (V0.out.below (show Below w.heap.size w w7.drew from below_drewN H7.out 1) (Nat.le_refl _)) (by omega)).mono ?_; rintro e wy ⟨tv, rfl, i, b⟩; have bz := (below_drewN (Below.refl w7.heap.size w7) 1).trans b; have HH := Lib.hid (H7.out.trans (bz.mono H7.out.size)); have zz := bz.size; have Y1 := Lib.hid (F7_1.out.keep bz F7_1.out.lt); obtain ⟨e1_0, e1_1, e1_2, e1_3⟩ := Y1.out; have m1 := Y1.out.lt; have Y4 := Lib.hid (F7_4.out.below bz (Nat.le_refl _)); have Y5 := Lib.hid (F7_5.out.keep bz F7_5.out.lt); obtain ⟨e5_0, e5_1, e5_2, e5_3⟩ := Y5.out; have m5 := Y5.out.lt; have Y6 := Lib.hid (F7_6.out.below' bz (Nat.le_refl _)); have TT := Lib.hid i.rv; clear i b bz) | (go_at_call 20; refine (eqRows_any _ _ R _ (by omega) Y4.out.rv TT.out).mono ?_; rintro e wz ⟨rfl, b⟩; have H2 := Lib.hid (HH.out.trans (b.mono HH.out.size)); have zy := b.size; have U1 := Lib.hid (Y1.out.keep b Y1.out.lt); have U6 := Lib.hid (Y6.out.below' b (Nat.le_refl _)); clear b))
    all_goals
      go_wp2_with fail
      go_meet
      exact ⟨rfl, Lib.hid ⟨H2.out, Nat.le_trans zz zy, U1.out, U6.out⟩⟩
  case rest =>
    obtain ⟨w8, rfl⟩ : ∃ x : World, x = wc := ⟨_, rfl⟩
    obtain ⟨rfl, hcc⟩ := hcut
    obtain ⟨hH, z8, f1, f6⟩ := hcc.out
    have H8 := Lib.hid hH
    have F8_1 := Lib.hid f1
    have F8_6 := Lib.hid f6
    clear hcc hH f1 F7_1 f6 F7_6 F7_4 F7_5 H7
    obtain ⟨c1_0, c1_1, c1_2, c1_3⟩ := F8_1.out
    have l1 := F8_1.out.lt
    go_wp2_with fail
    clear c1_0 c1_1 c1_2 c1_3 l1
    go_at_call 18; refine (toF32_si _ Y _ (V1.out.below H8.out (Nat.le_refl _)) (by omega)).mono ?_; rintro e w9 ⟨tv, rfl, i, b⟩
    have F9_7 := Lib.hid (FI.wide' (lo' := w8.heap.size) i (Below.refl w8.heap.size w8).size)
    clear i
    have bz := b
    have F9_1 := Lib.hid (F8_1.out.keep bz F8_1.out.lt)
    have F9_6 := Lib.hid (F8_6.out.below' bz (Nat.le_refl _))
    have z9 : w8.heap.size ≤ w9.heap.size := bz.size
    have H9 := Lib.hid (H8.out.trans (bz.mono H8.out.size))
    clear b bz F8_1 F8_6 H8
    obtain ⟨c1_0, c1_1, c1_2, c1_3⟩ := F9_1.out
    have l1 := F9_1.out.lt
    go_wp2_with fail
    clear c1_0 c1_1 c1_2 c1_3 l1
    go_at_call 21; refine (eqF32_says _ _ Y _ (by omega) F9_6.out.sl F9_7.out.sl).mono ?_; rintro e w10 ⟨rfl, b⟩
    have bz := b
    have F10_1 := Lib.hid (F9_1.out.keep bz F9_1.out.lt)
    have z10 : w9.heap.size ≤ w10.heap.size := bz.size
    have H10 := Lib.hid (H9.out.trans (bz.mono H9.out.size))
    clear b bz F9_1 F9_6 F9_7 H9
    obtain ⟨c1_0, c1_1, c1_2, c1_3⟩ := F10_1.out
    have l1 := F10_1.out.lt
    go_wp2_with fail
    clear c1_0 c1_1 c1_2 c1_3 l1
    go_ret
    exact says rfl H10.out
set_option maxRecDepth 100000 in
set_option maxHeartbeats 8000000 in
theorem fnExactArePrices_long1 (v0 v1 : Value) (R : Rw) (Y : List Nat) (a : Nat) (w : World) (hv0 : RV w v0 R) (hv1 : SL w v1 Y) (hb : 1048576 < Y.length) (hx : Y.length ≤ maxLen) :
    Calls Try.prog 4 #[v0, v1, .float .f32 a] w (Says true w) := by
  unfold maxLen at hx
  have V0 := Lib.hid hv0
  obtain ⟨s01, s02, s03, rfl, -, -, -⟩ := hv0
  have V1 := Lib.hid hv1
  obtain ⟨a1, cap1, rfl⟩ := hv1.long
  clear hv1
  have F0_1 := Lib.hid (Box4.mk' w (.int .i64 R.vars) (s01) (s02) (s03) 24)
  go_enter Try.func4, Try.ntmps4
  go_wp2_with fail
  go_ret
  exact says rfl (below_alloc w _)

set_option maxRecDepth 100000 in
set_option maxHeartbeats 8000000 in
theorem fnExactArePrices_size0 (v0 v1 : Value) (R : Rw) (Y : List Nat) (a : Nat) (w : World) (hv0 : RV w v0 R) (hv1 : SL w v1 Y) (hl1 : ¬ 1048576 < Y.length) (hb : 1048576 < (R.size : Int)) (fx : FitR R) :
    Calls Try.prog 4 #[v0, v1, .float .f32 a] w (Says true w) := by
  have V0 := Lib.hid hv0
  obtain ⟨s01, s02, s03, rfl, -, -, -⟩ := hv0
  have V1 := Lib.hid hv1
  obtain ⟨a1, cap1, rfl⟩ := hv1.long
  clear hv1
  have F0_1 := Lib.hid (Box4.mk' w (.int .i64 R.vars) (s01) (s02) (s03) 24)
  have hz : ∀ n : Nat, (0 : Int) ≤ n := fun n => Int.natCast_nonneg n
  go_enter Try.func4, Try.ntmps4
  go_wp2_with fail
  go_at_call 15; refine (szRows_no _ R _ _ (V0.out.below ((Below.refl w.heap.size w).trans ((below_alloc w _).mono (Below.refl w.heap.size w).size)) (Nat.le_refl _)) hb (by omega) (by omega) fx.1 fx.2.1 fx.2.2.1).mono ?_; rintro e w1 ⟨rfl, b⟩
  have bz := (below_alloc w _).trans (b.mono (below_alloc w _).size)
  have F1_1 := Lib.hid (F0_1.out.keep b F0_1.out.lt)
  have lb1 : w.heap.size < w1.heap.size := F1_1.out.lt
  have z1 : w.heap.size ≤ w1.heap.size := bz.size
  have H1 := Lib.hid ((Below.refl w.heap.size w).trans (bz.mono (Below.refl w.heap.size w).size))
  clear b bz F0_1
  obtain ⟨c1_0, c1_1, c1_2, c1_3⟩ := F1_1.out
  have l1 := F1_1.out.lt
  go_wp2_with fail
  clear c1_0 c1_1 c1_2 c1_3 l1
  go_ret
  exact says rfl H1.out

set_option maxRecDepth 100000 in
set_option maxHeartbeats 8000000 in
theorem fnExactArePrices_all (v0 v1 : Value) (R : Rw) (Y : List Nat) (a : Nat) (w : World) (hv0 : RV w v0 R) (hv1 : SL w v1 Y) (f0 : FitR R) (f1 : FitF Y) (f2 : a < 4294967296) :
    Calls Try.prog 4 #[v0, v1, .float .f32 a] w (Says true w) := by
  by_cases hl1 : 1048576 < Y.length
  · exact fnExactArePrices_long1 v0 v1 R Y a w hv0 hv1  hl1 f1.1
  by_cases hb0 : 1048576 < (R.size : Int)
  · exact fnExactArePrices_size0 v0 v1 R Y a w hv0 hv1 hl1 hb0 f0
  exact fnExactArePrices_main v0 v1 R Y a w hv0 hv1 ⟨by omega, f0⟩ ⟨by omega, f1⟩ f2 (by omega)

theorem Try.own : ownKnob Try.prog.godebug = none := by kernel_rfl
theorem Try.laidOut : laidOutB Try.prog = true := by kernel_rfl
theorem f32_lt {x : Nat} (h : (Lit.float .f32 x).wf = true) : x < 4294967296 := by simpa [Lit.wf] using h
theorem f64_lt {x : Nat} (h : (Lit.float .f64 x).wf = true) : x < 18446744073709551616 := by simpa [Lit.wf] using h
theorem i64_in {x : Int} (h : (Lit.int .i64 x).wf = true) : -9223372036854775808 ≤ x ∧ x ≤ 9223372036854775807 := by
  have h1 : IntKind.i64.min = -9223372036854775808 := by decide
  have h2 : IntKind.i64.max = 9223372036854775807 := by decide
  simp only [Lit.wf, Bool.and_eq_true, decide_eq_true_eq, h1, h2] at h
  exact h

set_option maxRecDepth 100000 in
theorem fnExactArePrices_lifted (os : Os) (started : os.Started) (H : Type) (enc : TypeId × Value → H) :
    ReturnsInHanded {} Try.checked os 4 .any (Rows.fnExactArePricesSpec.pre6 enc Try.prog Try.f4 [] false) (Rows.fnExactArePricesSpec.post enc Try.prog Try.f4 false true false false) := by
  refine Frame.law_lifted (tb := 4) Try.own started (by kernel_rfl) Try.func4
    (ChangeSpec.witness6 (enc := enc) (C := Try.checked) false ⟨#[], #[.agg #[.int .i64 0, .slice none 0 0, .slice none 0 0, .slice none 0 0], .slice none 0 0, .float .f32 0], []⟩ 8 (by kernel_rfl) (by kernel_rfl) (by kernel_rfl) (by kernel_rfl))
    Try.laidOut (by kernel_rfl) rfl (by kernel_rfl) Try.underlying4 (fun ds hd => ?_) ?_
  · rw [Try.params4] at hd
    match ds, hd with
    | [_, _, _], _ => exact ⟨rfl, rfl, rfl⟩
  intro W base args ds p hval0 hA0 hlt hsz0
  have hval : ∀ (j : Nat) t v, Try.f4.params[j]? = some t → args[j]? = some v → Value.okWide Try.prog W .any base t v := hval0
  have hA : DataW.TrodAll enc Try.prog W 0 (fun _ => true) true Try.f4.params.toList args.toList ds p := hA0
  have hsz : (DataW.weightsEach Try.prog Try.f4.params.toList ds).all (· ≤ reachBytes) = true := hsz0
  rw [Try.params4] at hA hval hsz
  clear hval0 hA0 hsz0
  obtain ⟨v0, v1, v2, d0, d1, d2, p0, p1, p2, rfl, rfl, rfl, h0, h1, h2⟩ := trodAll_three hA
  obtain ⟨r0, g0, k0⟩ := open_rows (hval 0 24 v0 rfl rfl) h0
  obtain ⟨r1, g1, k1⟩ := open_f32s (hval 1 22 v1 rfl rfl) h1
  obtain ⟨a2, rfl, rfl, rfl, w2⟩ := open_float Try.underlying25 (hval 2 25 v2 rfl rfl) h2
  have b2 := f32_lt w2
  exact fnExactArePrices_all v0 v1 r0 r1 a2 W g0 g1 k0 k1 b2

theorem fnExactArePrices_holds : Rows.FnExactArePricesSaid :=
  OpenClaim.holds_of_wide 4 Try.f4 rfl rfl rfl rfl rfl rfl rfl ⟨rfl, rfl, rfl, rfl, rfl⟩ rfl rfl rfl rfl rfl (by kernel_rfl) Try.func4 (by kernel_rfl)
    (of_decide_eq_true (by kernel_rfl)) (by unfold Func.isWrapper; first | (rw [if_pos (by decide +kernel)]; kernel_rfl) | (rw [if_neg (by decide +kernel)]; exact ⟨rfl, rfl⟩))
    (fun os started H enc _ => fnExactArePrices_lifted os started H enc)
end Go.Proofs.Ytkpdjbpfnepgaab
