/- AddRow answers as its model, for all arguments; it writes into no argument. -/
import Derived.Test.YtajekehidofkiaaAddL
import Derived.Test.YtajekehidofkiaaLaw
import Derived.Deep.RegionWith
import Derived.Deep.DeepCutAuto
import Derived.Test.YtajekehidofkiaaFrame
import Derived.Outline
namespace Go.Proofs.Ytajekehidofkiaa
open Go.ChangeShapes Go.WideShapes Go.ChangeAt Go.RowKit Go.ChangeMaps

set_option maxRecDepth 100000 in
set_option maxHeartbeats 8000000 in
theorem fnExactAddRow_main (v0 v1 : Value) (R : Rw) (X : List Nat) (y : Nat) (w : World) (hv0 : RV w v0 R) (hv1 : SL w v1 X) (o0 : OKR R) (o1 : OKF X) (o2 : y < 4294967296) (hm : (R.size : Int) ≤ (1048576 : Int)) :
    Calls Try.prog 7 #[v0, v1, .float .f32 y] w (Says true w) := by
  have V0 := Lib.hid hv0
  obtain ⟨s01, s02, s03, rfl, -, -, -⟩ := hv0
  have V1 := Lib.hid hv1
  obtain ⟨a1, cap1, rfl⟩ := hv1.long
  clear hv1
  have F0_1 := Lib.hid (Box4.mk' w (.int .i64 R.vars) (s01) (s02) (s03) 46)
  have hs0 := o0.size
  have hl1 : ¬ 1048576 < X.length := by have := o1.size; omega
  have hs1 := o1.size
  have ht0 : decide (1048576 - (R.size : Int) < 0) = false := by simp; omega
  have hmm := hm
  go_enter Try.func7, Try.ntmps7
  go_wp2_with fail
  go_at_call 26; refine (szRows_yes _ R _ _ (V0.out.below ((Below.refl w.heap.size w).trans ((below_alloc w _).mono (Below.refl w.heap.size w).size)) (Nat.le_refl _)) (by omega) (by omega)).mono ?_; rintro e w1 ⟨rfl, b⟩
  have bz := (below_alloc w _).trans (b.mono (below_alloc w _).size)
  have F1_1 := Lib.hid (F0_1.out.keep b F0_1.out.lt)
  have lb1 : w.heap.size < w1.heap.size := F1_1.out.lt
  have z1 : w.heap.size ≤ w1.heap.size := bz.size
  have H1 := Lib.hid ((Below.refl w.heap.size w).trans (bz.mono (Below.refl w.heap.size w).size))
  clear b bz F0_1
  obtain ⟨c1_0, c1_1, c1_2, c1_3⟩ := F1_1.out
  have l1 := F1_1.out.lt
  go_wp2_with fail
  clear c1_0 c1_1 c1_2 c1_3 l1
  go_at_call 28; refine (toRowsT_any _ R _ (V0.out.below H1.out (Nat.le_refl _)) (by omega)).mono ?_; rintro e w2 ⟨q0v, rfl, i, b⟩
  have F2_2 := Lib.hid (RT.wide0 (lo' := w1.heap.size) i (Below.refl w1.heap.size w1).size)
  clear i
  have bz := b
  have F2_1 := Lib.hid (F1_1.out.keep bz F1_1.out.lt)
  have z2 : w1.heap.size ≤ w2.heap.size := bz.size
  have H2 := Lib.hid (H1.out.trans (bz.mono H1.out.size))
  clear b bz F1_1 H1
  obtain ⟨c1_0, c1_1, c1_2, c1_3⟩ := F2_1.out
  have l1 := F2_1.out.lt
  go_wp2_with fail
  clear c1_0 c1_1 c1_2 c1_3 l1
  go_at_call 29; refine (toF32_si _ X _ (V1.out.below H2.out (Nat.le_refl _)) (by omega)).mono ?_; rintro e w3 ⟨q1v, rfl, i, b⟩
  have F3_3 := Lib.hid (FI.wide' (lo' := w2.heap.size) i (Below.refl w2.heap.size w2).size)
  clear i
  have bz := b
  have F3_1 := Lib.hid (F2_1.out.keep bz F2_1.out.lt)
  have F3_2 := Lib.hid (F2_2.out.below bz (Nat.le_refl _))
  have z3 : w2.heap.size ≤ w3.heap.size := bz.size
  have H3 := Lib.hid (H2.out.trans (bz.mono H2.out.size))
  clear b bz F2_1 F2_2 H2
  obtain ⟨c1_0, c1_1, c1_2, c1_3⟩ := F3_1.out
  have l1 := F3_1.out.lt
  go_wp2_with fail
  clear c1_0 c1_1 c1_2 c1_3 l1
  go_at_call 27; refine (specAddRow_any _ R _ X y _ F3_2.out.rv F3_3.out.sl o0 o1 o2).mono ?_; rintro e w4 ⟨w0v, rfl, i0, b⟩
  obtain ⟨w0c1, w0ck1, w0c2, w0ck2, w0c3, w0ck3, rfl⟩ := i0.split
  have F4_4 := Lib.hid (RT.wide0 (lo' := w3.heap.size) i0 (Below.refl w3.heap.size w3).size)
  clear i0
  have bz := b
  have F4_1 := Lib.hid (F3_1.out.keep bz F3_1.out.lt)
  have z4 : w3.heap.size ≤ w4.heap.size := bz.size
  have H4 := Lib.hid (H3.out.trans (bz.mono H3.out.size))
  clear b bz F3_1 F3_2 F3_3 H3
  have F4_5 := Lib.hid (Box4.mk' w4 (.int .i64 (addO R X y).vars) (.slice w0c1 (addO R X y).N.length w0ck1) (.slice w0c2 (addO R X y).B.length w0ck2) (.slice w0c3 (addO R X y).G.length w0ck3) 49)
  obtain ⟨c1_0, c1_1, c1_2, c1_3⟩ := F4_1.out
  have l1 := F4_1.out.lt
  go_wp2_with fail
  clear c1_0 c1_1 c1_2 c1_3 l1
  go_at_call 28; refine (toRowsT_any _ R _ (V0.out.below (H4.out.trans ((below_alloc w4 _).mono H4.out.size)) (Nat.le_refl _)) (by omega)).mono ?_; rintro e w5 ⟨x0v, rfl, i, b⟩
  obtain ⟨x0c1, x0ck1, x0c2, x0ck2, x0c3, x0ck3, rfl⟩ := i.split
  have F5_6 := Lib.hid (RT.wide0 (lo' := (w4.heap.size + 1)) i (by simp))
  clear i
  have bz := (below_alloc w4 _).trans (b.mono (below_alloc w4 _).size)
  have F5_1 := Lib.hid (F4_1.out.keep bz F4_1.out.lt)
  have F5_4 := Lib.hid (F4_4.out.below bz (Nat.le_refl _))
  have F5_5 := Lib.hid (F4_5.out.keep b F4_5.out.lt)
  have lb5 : w4.heap.size < w5.heap.size := F5_5.out.lt
  have z5 : w4.heap.size ≤ w5.heap.size := bz.size
  have H5 := Lib.hid (H4.out.trans (bz.mono H4.out.size))
  clear b bz F4_1 F4_4 F4_5 H4
  have F5_7 := Lib.hid (Box4.mk' w5 (.int .i64 R.vars) (.slice x0c1 R.N.length x0ck1) (.slice x0c2 R.B.length x0ck2) (.slice x0c3 R.G.length x0ck3) 49)
  obtain ⟨c1_0, c1_1, c1_2, c1_3⟩ := F5_1.out
  have l1 := F5_1.out.lt
  obtain ⟨c5_0, c5_1, c5_2, c5_3⟩ := F5_5.out
  have l5 := F5_5.out.lt
  go_wp2_with fail
  clear c1_0 c1_1 c1_2 c1_3 l1 c5_0 c5_1 c5_2 c5_3 l5
  go_at_call 29; refine (toF32_si _ X _ (V1.out.below (H5.out.trans ((below_alloc w5 _).mono H5.out.size)) (Nat.le_refl _)) (by omega)).mono ?_; rintro e w6 ⟨x1v, rfl, i, b⟩
  obtain ⟨x1a, x1c, rfl⟩ := FI.len' i
  have F6_8 := Lib.hid (FI.wide' (lo' := (w5.heap.size + 1)) i (by simp))
  clear i
  have bz := (below_alloc w5 _).trans (b.mono (below_alloc w5 _).size)
  have F6_1 := Lib.hid (F5_1.out.keep bz F5_1.out.lt)
  have F6_4 := Lib.hid (F5_4.out.below bz (Nat.le_refl _))
  have F6_5 := Lib.hid (F5_5.out.keep bz F5_5.out.lt)
  have F6_6 := Lib.hid (F5_6.out.below bz (Nat.le_refl _))
  have F6_7 := Lib.hid (F5_7.out.keep b F5_7.out.lt)
  have lb7 : w5.heap.size < w6.heap.size := F6_7.out.lt
  have z6 : w5.heap.size ≤ w6.heap.size := bz.size
  have H6 := Lib.hid (H5.out.trans (bz.mono H5.out.size))
  clear b bz F5_1 F5_4 F5_5 F5_6 F5_7 H5
  obtain ⟨c1_0, c1_1, c1_2, c1_3⟩ := F6_1.out
  have l1 := F6_1.out.lt
  obtain ⟨c5_0, c5_1, c5_2, c5_3⟩ := F6_5.out
  have l5 := F6_5.out.lt
  obtain ⟨c7_0, c7_1, c7_2, c7_3⟩ := F6_7.out
  have l7 := F6_7.out.lt
  go_wp2_with fail
  clear c1_0 c1_1 c1_2 c1_3 l1 c5_0 c5_1 c5_2 c5_3 l5 c7_0 c7_1 c7_2 c7_3 l7
  go_at_call 30; refine (implAddRow_any _ R _ X y _ F6_6.out.rv F6_8.out.sl o0 o1 o2).mono ?_; rintro e w7 ⟨g0v, rfl, i0, b⟩
  obtain ⟨g0c1, g0ck1, g0c2, g0ck2, g0c3, g0ck3, rfl⟩ := i0.split
  have F7_9 := Lib.hid (RT.wide0 (lo' := w6.heap.size) i0 (Below.refl w6.heap.size w6).size)
  clear i0
  have bz := b
  have F7_1 := Lib.hid (F6_1.out.keep bz F6_1.out.lt)
  have F7_4 := Lib.hid (F6_4.out.below bz (Nat.le_refl _))
  have F7_5 := Lib.hid (F6_5.out.keep bz F6_5.out.lt)
  have F7_6 := Lib.hid (F6_6.out.below bz (Nat.le_refl _))
  have F7_7 := Lib.hid (F6_7.out.keep bz F6_7.out.lt)
  have F7_8 := Lib.hid (F6_8.out.below' bz (Nat.le_refl _))
  have z7 : w6.heap.size ≤ w7.heap.size := bz.size
  have H7 := Lib.hid (H6.out.trans (bz.mono H6.out.size))
  clear b bz F6_1 F6_4 F6_5 F6_6 F6_7 F6_8 H6
  have F7_10 := Lib.hid (Box4.mk' w7 (.int .i64 (addO R X y).vars) (.slice g0c1 (addO R X y).N.length g0ck1) (.slice g0c2 (addO R X y).B.length g0ck2) (.slice g0c3 (addO R X y).G.length g0ck3) 49)
  obtain ⟨c1_0, c1_1, c1_2, c1_3⟩ := F7_1.out
  have l1 := F7_1.out.lt
  obtain ⟨c5_0, c5_1, c5_2, c5_3⟩ := F7_5.out
  have l5 := F7_5.out.lt
  obtain ⟨c7_0, c7_1, c7_2, c7_3⟩ := F7_7.out
  have l7 := F7_7.out.lt
  go_wp2_with fail
  clear c1_0 c1_1 c1_2 c1_3 l1 c5_0 c5_1 c5_2 c5_3 l5 c7_0 c7_1 c7_2 c7_3 l7
  go_at_call 31; refine (eqRows_any _ _ (addO R X y) _ (addO_len R X y) (F7_9.out.below (below_alloc w7 _) (Nat.le_refl _)).rv (F7_4.out.below (below_alloc w7 _) (Nat.le_refl _)).rv).mono ?_; rintro e w8 ⟨rfl, b⟩
  have bz := (below_alloc w7 _).trans (b.mono (below_alloc w7 _).size)
  have F8_1 := Lib.hid (F7_1.out.keep bz F7_1.out.lt)
  have F8_4 := Lib.hid (F7_4.out.below bz (Nat.le_refl _))
  have F8_5 := Lib.hid (F7_5.out.keep bz F7_5.out.lt)
  have F8_6 := Lib.hid (F7_6.out.below bz (Nat.le_refl _))
  have F8_7 := Lib.hid (F7_7.out.keep bz F7_7.out.lt)
  have F8_8 := Lib.hid (F7_8.out.below' bz (Nat.le_refl _))
  have F8_9 := Lib.hid (F7_9.out.below bz (Nat.le_refl _))
  have F8_10 := Lib.hid (F7_10.out.keep b F7_10.out.lt)
  have lb10 : w7.heap.size < w8.heap.size := F8_10.out.lt
  have z8 : w7.heap.size ≤ w8.heap.size := bz.size
  have H8 := Lib.hid (H7.out.trans (bz.mono H7.out.size))
  clear b bz F7_1 F7_4 F7_5 F7_6 F7_7 F7_8 F7_9 F7_10 H7
  obtain ⟨c1_0, c1_1, c1_2, c1_3⟩ := F8_1.out
  have l1 := F8_1.out.lt
  obtain ⟨c5_0, c5_1, c5_2, c5_3⟩ := F8_5.out
  have l5 := F8_5.out.lt
  obtain ⟨c7_0, c7_1, c7_2, c7_3⟩ := F8_7.out
  have l7 := F8_7.out.lt
  obtain ⟨c10_0, c10_1, c10_2, c10_3⟩ := F8_10.out
  have l10 := F8_10.out.lt
  go_upto_region 13 with fail
  clear c1_0 c1_1 c1_2 c1_3 l1 c5_0 c5_1 c5_2 c5_3 l5 c7_0 c7_1 c7_2 c7_3 l7 c10_0 c10_1 c10_2 c10_3 l10
  go_cut [60] (fun s wx => s = .bool false ∧ Hid ((Below w.heap.size w wx) ∧ (w8.heap.size ≤ wx.heap.size) ∧ (Box4 wx w.heap.size (.int .i64 R.vars) (s01) (s02) (s03)) ∧ (RT w3.heap.size w4.heap.size wx ((.agg #[.int .i64 (addO R X y).vars, .slice w0c1 (addO R X y).N.length w0ck1, .slice w0c2 (addO R X y).B.length w0ck2, .slice w0c3 (addO R X y).G.length w0ck3])) (addO R X y)) ∧ (Box4 wx w4.heap.size (.int .i64 (addO R X y).vars) (.slice w0c1 (addO R X y).N.length w0ck1) (.slice w0c2 (addO R X y).B.length w0ck2) (.slice w0c3 (addO R X y).G.length w0ck3)) ∧ (RT (w4.heap.size + 1) w5.heap.size wx ((.agg #[.int .i64 R.vars, .slice x0c1 R.N.length x0ck1, .slice x0c2 R.B.length x0ck2, .slice x0c3 R.G.length x0ck3])) R) ∧ (Box4 wx w5.heap.size (.int .i64 R.vars) (.slice x0c1 R.N.length x0ck1) (.slice x0c2 R.B.length x0ck2) (.slice x0c3 R.G.length x0ck3)) ∧ (FI (w5.heap.size + 1) w6.heap.size wx ((.slice x1a X.length x1c)) X) ∧ (RT w6.heap.size w7.heap.size wx ((.agg #[.int .i64 (addO R X y).vars, .slice g0c1 (addO R X y).N.length g0ck1, .slice g0c2 (addO R X y).B.length g0ck2, .slice g0c3 (addO R X y).G.length g0ck3])) (addO R X y)) ∧ (Box4 wx w7.heap.size (.int .i64 (addO R X y).vars) (.slice g0c1 (addO R X y).N.length g0ck1) (.slice g0c2 (addO R X y).B.length g0ck2) (.slice g0c3 (addO R X y).G.length g0ck3))))
  case first =>
    obtain ⟨c1_0, c1_1, c1_2, c1_3⟩ := F8_1.out
    have l1 := F8_1.out.lt
    obtain ⟨c5_0, c5_1, c5_2, c5_3⟩ := F8_5.out
    have l5 := F8_5.out.lt
    obtain ⟨c7_0, c7_1, c7_2, c7_3⟩ := F8_7.out
    have l7 := F8_7.out.lt
    obtain ⟨c10_0, c10_1, c10_2, c10_3⟩ := F8_10.out
    have l10 := F8_10.out.lt
    go_region_with (first | (go_at_call 28; refine (toRowsT_any _ R _ (V0.out.below (show Below w.heap.size w w8.drew from below_drewN H8.out 1) (Nat.le_refl _)) (by omega)).mono ?_; rintro e wy ⟨tv, rfl, i, b⟩; have bz := (below_drewN (Below.refl w8.heap.size w8) 1).trans b; have HH := Lib.hid (H8.out.trans (bz.mono H8.out.size)); have zz := bz.size; have Y1 := Lib.hid (F8_1.out.keep bz F8_1.out.lt); obtain ⟨e1_0, e1_1, e1_2, e1_3⟩ := Y1.out; have m1 := Y1.out.lt; have Y4 := Lib.hid (F8_4.out.below bz (Nat.le_refl _)); have Y5 := Lib.hid (F8_5.out.keep bz F8_5.out.lt); obtain ⟨e5_0, e5_1, e5_2, e5_3⟩ := Y5.out; have m5 := Y5.out.lt; have Y6 := Lib.hid (F8_6.out.below bz (Nat.le_refl _)); have Y7 := Lib.hid (F8_7.out.keep bz F8_7.out.lt); obtain ⟨e7_0, e7_1, e7_2, e7_3⟩ := Y7.out; have m7 := Y7.out.lt; have Y8 := Lib.hid (F8_8.out.below' bz (Nat.le_refl _)); have Y9 := Lib.hid (F8_9.out.below bz (Nat.le_refl _)); have Y10 := Lib.hid (F8_10.out.keep bz F8_10.out.lt); obtain ⟨e10_0, e10_1, e10_2, e10_3⟩ := Y10.out; have m10 := Y10.out.lt; have TT := Lib.hid i.rv; clear i b bz) | (go_at_call 31; refine (eqRows_any _ _ R _ (by omega) Y6.out.rv TT.out).mono ?_; rintro e wz ⟨rfl, b⟩; have H2 := Lib.hid (HH.out.trans (b.mono HH.out.size)); have zy := b.size; have U1 := Lib.hid (Y1.out.keep b Y1.out.lt); have U4 := Lib.hid (Y4.out.below b (Nat.le_refl _)); have U5 := Lib.hid (Y5.out.keep b Y5.out.lt); have U6 := Lib.hid (Y6.out.below b (Nat.le_refl _)); have U7 := Lib.hid (Y7.out.keep b Y7.out.lt); have U8 := Lib.hid (Y8.out.below' b (Nat.le_refl _)); have U9 := Lib.hid (Y9.out.below b (Nat.le_refl _)); have U10 := Lib.hid (Y10.out.keep b Y10.out.lt); clear b))
    all_goals
      go_wp2_with fail
      go_meet
      exact ⟨rfl, Lib.hid ⟨H2.out, Nat.le_trans zz zy, U1.out, U4.out, U5.out, U6.out, U7.out, U8.out, U9.out, U10.out⟩⟩
  case rest =>
    obtain ⟨w9, rfl⟩ : ∃ x : World, x = wc := ⟨_, rfl⟩
    obtain ⟨rfl, hcc⟩ := hcut
    obtain ⟨hH, z9, f1, f4, f5, f6, f7, f8, f9, f10⟩ := hcc.out
    have H9 := Lib.hid hH
    have F9_1 := Lib.hid f1
    have F9_4 := Lib.hid f4
    have F9_5 := Lib.hid f5
    have F9_6 := Lib.hid f6
    have F9_7 := Lib.hid f7
    have F9_8 := Lib.hid f8
    have F9_9 := Lib.hid f9
    have F9_10 := Lib.hid f10
    clear hcc hH f1 F8_1 f4 F8_4 f5 F8_5 f6 F8_6 f7 F8_7 f8 F8_8 f9 F8_9 f10 F8_10 H8
    obtain ⟨c1_0, c1_1, c1_2, c1_3⟩ := F9_1.out
    have l1 := F9_1.out.lt
    obtain ⟨c5_0, c5_1, c5_2, c5_3⟩ := F9_5.out
    have l5 := F9_5.out.lt
    obtain ⟨c7_0, c7_1, c7_2, c7_3⟩ := F9_7.out
    have l7 := F9_7.out.lt
    obtain ⟨c10_0, c10_1, c10_2, c10_3⟩ := F9_10.out
    have l10 := F9_10.out.lt
    go_wp2_with fail
    clear c1_0 c1_1 c1_2 c1_3 l1 c5_0 c5_1 c5_2 c5_3 l5 c7_0 c7_1 c7_2 c7_3 l7 c10_0 c10_1 c10_2 c10_3 l10
    go_at_call 29; refine (toF32_si _ X _ (V1.out.below H9.out (Nat.le_refl _)) (by omega)).mono ?_; rintro e w10 ⟨tv, rfl, i, b⟩
    have F10_11 := Lib.hid (FI.wide' (lo' := w9.heap.size) i (Below.refl w9.heap.size w9).size)
    clear i
    have bz := b
    have F10_1 := Lib.hid (F9_1.out.keep bz F9_1.out.lt)
    have F10_4 := Lib.hid (F9_4.out.below bz (Nat.le_refl _))
    have F10_5 := Lib.hid (F9_5.out.keep bz F9_5.out.lt)
    have F10_6 := Lib.hid (F9_6.out.below bz (Nat.le_refl _))
    have F10_7 := Lib.hid (F9_7.out.keep bz F9_7.out.lt)
    have F10_8 := Lib.hid (F9_8.out.below' bz (Nat.le_refl _))
    have F10_9 := Lib.hid (F9_9.out.below bz (Nat.le_refl _))
    have F10_10 := Lib.hid (F9_10.out.keep bz F9_10.out.lt)
    have z10 : w9.heap.size ≤ w10.heap.size := bz.size
    have H10 := Lib.hid (H9.out.trans (bz.mono H9.out.size))
    clear b bz F9_1 F9_4 F9_5 F9_6 F9_7 F9_8 F9_9 F9_10 H9
    obtain ⟨c1_0, c1_1, c1_2, c1_3⟩ := F10_1.out
    have l1 := F10_1.out.lt
    obtain ⟨c5_0, c5_1, c5_2, c5_3⟩ := F10_5.out
    have l5 := F10_5.out.lt
    obtain ⟨c7_0, c7_1, c7_2, c7_3⟩ := F10_7.out
    have l7 := F10_7.out.lt
    obtain ⟨c10_0, c10_1, c10_2, c10_3⟩ := F10_10.out
    have l10 := F10_10.out.lt
    go_wp2_with fail
    clear c1_0 c1_1 c1_2 c1_3 l1 c5_0 c5_1 c5_2 c5_3 l5 c7_0 c7_1 c7_2 c7_3 l7 c10_0 c10_1 c10_2 c10_3 l10
    go_at_call 32; refine (eqF32_says _ _ X _ (by omega) F10_8.out.sl F10_11.out.sl).mono ?_; rintro e w11 ⟨rfl, b⟩
    have bz := b
    have F11_1 := Lib.hid (F10_1.out.keep bz F10_1.out.lt)
    have F11_4 := Lib.hid (F10_4.out.below bz (Nat.le_refl _))
    have F11_5 := Lib.hid (F10_5.out.keep bz F10_5.out.lt)
    have F11_6 := Lib.hid (F10_6.out.below bz (Nat.le_refl _))
    have F11_7 := Lib.hid (F10_7.out.keep bz F10_7.out.lt)
    have F11_8 := Lib.hid (F10_8.out.below' bz (Nat.le_refl _))
    have F11_9 := Lib.hid (F10_9.out.below bz (Nat.le_refl _))
    have F11_10 := Lib.hid (F10_10.out.keep bz F10_10.out.lt)
    have z11 : w10.heap.size ≤ w11.heap.size := bz.size
    have H11 := Lib.hid (H10.out.trans (bz.mono H10.out.size))
    clear b bz F10_1 F10_4 F10_5 F10_6 F10_7 F10_8 F10_9 F10_10 F10_11 H10
    obtain ⟨c1_0, c1_1, c1_2, c1_3⟩ := F11_1.out
    have l1 := F11_1.out.lt
    obtain ⟨c5_0, c5_1, c5_2, c5_3⟩ := F11_5.out
    have l5 := F11_5.out.lt
    obtain ⟨c7_0, c7_1, c7_2, c7_3⟩ := F11_7.out
    have l7 := F11_7.out.lt
    obtain ⟨c10_0, c10_1, c10_2, c10_3⟩ := F11_10.out
    have l10 := F11_10.out.lt
    go_wp2_with fail
    clear c1_0 c1_1 c1_2 c1_3 l1 c5_0 c5_1 c5_2 c5_3 l5 c7_0 c7_1 c7_2 c7_3 l7 c10_0 c10_1 c10_2 c10_3 l10
    go_at_call 33; refine (markRowsT_any (w4.heap.size + 1) w5.heap.size _ R 1 _ F11_6.out (by omega) (by omega) (by omega)).mono ?_; rintro e w12 ⟨rfl, i, t⟩
    have G12_6 := Lib.hid i
    clear i
    have F12_1 := Lib.hid (F11_1.out.kept t (by omega))
    have F12_4 := Lib.hid (F11_4.out.kept t (by omega))
    have F12_5 := Lib.hid (F11_5.out.kept t (by omega))
    have F12_7 := Lib.hid (F11_7.out.kept t (by omega))
    have F12_8 := Lib.hid (F11_8.out.kept' t (by omega))
    have F12_9 := Lib.hid (F11_9.out.kept t (by omega))
    have F12_10 := Lib.hid (F11_10.out.kept t (by omega))
    have z12 : w11.heap.size ≤ w12.heap.size := t.size
    have H12 := Lib.hid (H11.out.trans ((t.below (by omega)).mono (by omega)))
    clear t F11_1 F11_4 F11_5 F11_6 F11_7 F11_8 F11_9 F11_10 H11
    clear G12_6
    have hk12 : decide (1 + ((R.size : Nat) : Int) < 0) = false := by simp; omega
    obtain ⟨c1_0, c1_1, c1_2, c1_3⟩ := F12_1.out
    have l1 := F12_1.out.lt
    obtain ⟨c5_0, c5_1, c5_2, c5_3⟩ := F12_5.out
    have l5 := F12_5.out.lt
    obtain ⟨c7_0, c7_1, c7_2, c7_3⟩ := F12_7.out
    have l7 := F12_7.out.lt
    obtain ⟨c10_0, c10_1, c10_2, c10_3⟩ := F12_10.out
    have l10 := F12_10.out.lt
    go_wp2_with fail
    clear c1_0 c1_1 c1_2 c1_3 l1 c5_0 c5_1 c5_2 c5_3 l5 c7_0 c7_1 c7_2 c7_3 l7 c10_0 c10_1 c10_2 c10_3 l10
    go_at_call 34; refine (markF32_any (w5.heap.size + 1) w6.heap.size _ X (1 + (R.size : Nat)) _ F12_8.out (by omega) (by omega) (by omega)).mono ?_; rintro e w13 ⟨rfl, i, t⟩
    have G13_8 := Lib.hid i
    clear i
    have F13_1 := Lib.hid (F12_1.out.kept t (by omega))
    have F13_4 := Lib.hid (F12_4.out.kept t (by omega))
    have F13_5 := Lib.hid (F12_5.out.kept t (by omega))
    have F13_7 := Lib.hid (F12_7.out.kept t (by omega))
    have F13_9 := Lib.hid (F12_9.out.kept t (by omega))
    have F13_10 := Lib.hid (F12_10.out.kept t (by omega))
    have z13 : w12.heap.size ≤ w13.heap.size := t.size
    have H13 := Lib.hid (H12.out.trans ((t.below (by omega)).mono (by omega)))
    clear t F12_1 F12_4 F12_5 F12_7 F12_8 F12_9 F12_10 H12
    clear G13_8
    have hk13 : decide (1 + (R.size : Nat) + ((X.length : Nat) : Int) < 0) = false := by simp; omega
    obtain ⟨c1_0, c1_1, c1_2, c1_3⟩ := F13_1.out
    have l1 := F13_1.out.lt
    obtain ⟨c5_0, c5_1, c5_2, c5_3⟩ := F13_5.out
    have l5 := F13_5.out.lt
    obtain ⟨c7_0, c7_1, c7_2, c7_3⟩ := F13_7.out
    have l7 := F13_7.out.lt
    obtain ⟨c10_0, c10_1, c10_2, c10_3⟩ := F13_10.out
    have l10 := F13_10.out.lt
    go_wp2_with fail
    clear c1_0 c1_1 c1_2 c1_3 l1 c5_0 c5_1 c5_2 c5_3 l5 c7_0 c7_1 c7_2 c7_3 l7 c10_0 c10_1 c10_2 c10_3 l10
    go_at_call 31; refine (eqRows_any _ _ (addO R X y) _ (addO_len R X y) F13_9.out.rv F13_4.out.rv).mono ?_; rintro e w14 ⟨rfl, b⟩
    have bz := b
    have F14_1 := Lib.hid (F13_1.out.keep bz F13_1.out.lt)
    have F14_4 := Lib.hid (F13_4.out.below bz (Nat.le_refl _))
    have F14_5 := Lib.hid (F13_5.out.keep bz F13_5.out.lt)
    have F14_7 := Lib.hid (F13_7.out.keep bz F13_7.out.lt)
    have F14_9 := Lib.hid (F13_9.out.below bz (Nat.le_refl _))
    have F14_10 := Lib.hid (F13_10.out.keep bz F13_10.out.lt)
    have z14 : w13.heap.size ≤ w14.heap.size := bz.size
    have H14 := Lib.hid (H13.out.trans (bz.mono H13.out.size))
    clear b bz F13_1 F13_4 F13_5 F13_7 F13_9 F13_10 H13
    obtain ⟨c1_0, c1_1, c1_2, c1_3⟩ := F14_1.out
    have l1 := F14_1.out.lt
    obtain ⟨c5_0, c5_1, c5_2, c5_3⟩ := F14_5.out
    have l5 := F14_5.out.lt
    obtain ⟨c7_0, c7_1, c7_2, c7_3⟩ := F14_7.out
    have l7 := F14_7.out.lt
    obtain ⟨c10_0, c10_1, c10_2, c10_3⟩ := F14_10.out
    have l10 := F14_10.out.lt
    go_wp2_with fail
    clear c1_0 c1_1 c1_2 c1_3 l1 c5_0 c5_1 c5_2 c5_3 l5 c7_0 c7_1 c7_2 c7_3 l7 c10_0 c10_1 c10_2 c10_3 l10
    go_at_call 33; refine (markRowsT_any w6.heap.size w7.heap.size _ (addO R X y) 1 _ F14_9.out (addO_len R X y) (by omega) (by omega)).mono ?_; rintro e w15 ⟨rfl, i, t⟩
    have G15_9 := Lib.hid i
    clear i
    have F15_1 := Lib.hid (F14_1.out.kept t (by omega))
    have F15_4 := Lib.hid (F14_4.out.kept t (by omega))
    have F15_5 := Lib.hid (F14_5.out.kept t (by omega))
    have F15_7 := Lib.hid (F14_7.out.kept t (by omega))
    have F15_10 := Lib.hid (F14_10.out.kept t (by omega))
    have z15 : w14.heap.size ≤ w15.heap.size := t.size
    have H15 := Lib.hid (H14.out.trans ((t.below (by omega)).mono (by omega)))
    clear t F14_1 F14_4 F14_5 F14_7 F14_9 F14_10 H14
    have hk15 : decide (1 + (((addO R X y).size : Nat) : Int) < 0) = false := by simp; omega
    obtain ⟨c1_0, c1_1, c1_2, c1_3⟩ := F15_1.out
    have l1 := F15_1.out.lt
    obtain ⟨c5_0, c5_1, c5_2, c5_3⟩ := F15_5.out
    have l5 := F15_5.out.lt
    obtain ⟨c7_0, c7_1, c7_2, c7_3⟩ := F15_7.out
    have l7 := F15_7.out.lt
    obtain ⟨c10_0, c10_1, c10_2, c10_3⟩ := F15_10.out
    have l10 := F15_10.out.lt
    go_wp2_with fail
    clear c1_0 c1_1 c1_2 c1_3 l1 c5_0 c5_1 c5_2 c5_3 l5 c7_0 c7_1 c7_2 c7_3 l7 c10_0 c10_1 c10_2 c10_3 l10
    go_at_call 35; refine (heldRowsT_any _ 1 ((addO R X y)) _ G15_9.out.rv (addO_len R X y) (by omega) (by omega)).mono ?_; rintro e w16 ⟨rfl, b⟩
    have bz := b
    have F16_1 := Lib.hid (F15_1.out.keep bz F15_1.out.lt)
    have F16_4 := Lib.hid (F15_4.out.below bz (Nat.le_refl _))
    have F16_5 := Lib.hid (F15_5.out.keep bz F15_5.out.lt)
    have F16_7 := Lib.hid (F15_7.out.keep bz F15_7.out.lt)
    have F16_10 := Lib.hid (F15_10.out.keep bz F15_10.out.lt)
    have F16_9 := Lib.hid (G15_9.out.below bz (Nat.le_refl _))
    have z16 : w15.heap.size ≤ w16.heap.size := bz.size
    have H16 := Lib.hid (H15.out.trans (bz.mono H15.out.size))
    clear b bz F15_1 F15_4 F15_5 F15_7 F15_10 G15_9 H15
    obtain ⟨c1_0, c1_1, c1_2, c1_3⟩ := F16_1.out
    have l1 := F16_1.out.lt
    obtain ⟨c5_0, c5_1, c5_2, c5_3⟩ := F16_5.out
    have l5 := F16_5.out.lt
    obtain ⟨c7_0, c7_1, c7_2, c7_3⟩ := F16_7.out
    have l7 := F16_7.out.lt
    obtain ⟨c10_0, c10_1, c10_2, c10_3⟩ := F16_10.out
    have l10 := F16_10.out.lt
    go_wp2_with fail
    clear c1_0 c1_1 c1_2 c1_3 l1 c5_0 c5_1 c5_2 c5_3 l5 c7_0 c7_1 c7_2 c7_3 l7 c10_0 c10_1 c10_2 c10_3 l10
    go_at_call 28; refine (toRowsT_any _ R _ (V0.out.below H16.out (Nat.le_refl _)) (by omega)).mono ?_; rintro e w17 ⟨q0v, rfl, i, b⟩
    have F17_12 := Lib.hid (RT.wide0 (lo' := w16.heap.size) i (Below.refl w16.heap.size w16).size)
    clear i
    have bz := b
    have F17_1 := Lib.hid (F16_1.out.keep bz F16_1.out.lt)
    have F17_4 := Lib.hid (F16_4.out.below bz (Nat.le_refl _))
    have F17_5 := Lib.hid (F16_5.out.keep bz F16_5.out.lt)
    have F17_7 := Lib.hid (F16_7.out.keep bz F16_7.out.lt)
    have F17_10 := Lib.hid (F16_10.out.keep bz F16_10.out.lt)
    have F17_9 := Lib.hid (F16_9.out.below bz (Nat.le_refl _))
    have z17 : w16.heap.size ≤ w17.heap.size := bz.size
    have H17 := Lib.hid (H16.out.trans (bz.mono H16.out.size))
    clear b bz F16_1 F16_4 F16_5 F16_7 F16_10 F16_9 H16
    obtain ⟨c1_0, c1_1, c1_2, c1_3⟩ := F17_1.out
    have l1 := F17_1.out.lt
    obtain ⟨c5_0, c5_1, c5_2, c5_3⟩ := F17_5.out
    have l5 := F17_5.out.lt
    obtain ⟨c7_0, c7_1, c7_2, c7_3⟩ := F17_7.out
    have l7 := F17_7.out.lt
    obtain ⟨c10_0, c10_1, c10_2, c10_3⟩ := F17_10.out
    have l10 := F17_10.out.lt
    go_wp2_with fail
    clear c1_0 c1_1 c1_2 c1_3 l1 c5_0 c5_1 c5_2 c5_3 l5 c7_0 c7_1 c7_2 c7_3 l7 c10_0 c10_1 c10_2 c10_3 l10
    go_at_call 29; refine (toF32_si _ X _ (V1.out.below H17.out (Nat.le_refl _)) (by omega)).mono ?_; rintro e w18 ⟨q1v, rfl, i, b⟩
    have F18_13 := Lib.hid (FI.wide' (lo' := w17.heap.size) i (Below.refl w17.heap.size w17).size)
    clear i
    have bz := b
    have F18_1 := Lib.hid (F17_1.out.keep bz F17_1.out.lt)
    have F18_4 := Lib.hid (F17_4.out.below bz (Nat.le_refl _))
    have F18_5 := Lib.hid (F17_5.out.keep bz F17_5.out.lt)
    have F18_7 := Lib.hid (F17_7.out.keep bz F17_7.out.lt)
    have F18_10 := Lib.hid (F17_10.out.keep bz F17_10.out.lt)
    have F18_9 := Lib.hid (F17_9.out.below bz (Nat.le_refl _))
    have F18_12 := Lib.hid (F17_12.out.below bz (Nat.le_refl _))
    have z18 : w17.heap.size ≤ w18.heap.size := bz.size
    have H18 := Lib.hid (H17.out.trans (bz.mono H17.out.size))
    clear b bz F17_1 F17_4 F17_5 F17_7 F17_10 F17_9 F17_12 H17
    obtain ⟨c1_0, c1_1, c1_2, c1_3⟩ := F18_1.out
    have l1 := F18_1.out.lt
    obtain ⟨c5_0, c5_1, c5_2, c5_3⟩ := F18_5.out
    have l5 := F18_5.out.lt
    obtain ⟨c7_0, c7_1, c7_2, c7_3⟩ := F18_7.out
    have l7 := F18_7.out.lt
    obtain ⟨c10_0, c10_1, c10_2, c10_3⟩ := F18_10.out
    have l10 := F18_10.out.lt
    go_wp2_with fail
    clear c1_0 c1_1 c1_2 c1_3 l1 c5_0 c5_1 c5_2 c5_3 l5 c7_0 c7_1 c7_2 c7_3 l7 c10_0 c10_1 c10_2 c10_3 l10
    go_at_call 30; refine (implAddRow_any _ R _ X y _ F18_12.out.rv F18_13.out.sl o0 o1 o2).mono ?_; rintro e w19 ⟨h0v, rfl, i0, b⟩
    obtain ⟨h0c1, h0ck1, h0c2, h0ck2, h0c3, h0ck3, rfl⟩ := i0.split
    have F19_14 := Lib.hid (RT.wide0 (lo' := w18.heap.size) i0 (Below.refl w18.heap.size w18).size)
    clear i0
    have bz := b
    have F19_1 := Lib.hid (F18_1.out.keep bz F18_1.out.lt)
    have F19_4 := Lib.hid (F18_4.out.below bz (Nat.le_refl _))
    have F19_5 := Lib.hid (F18_5.out.keep bz F18_5.out.lt)
    have F19_7 := Lib.hid (F18_7.out.keep bz F18_7.out.lt)
    have F19_10 := Lib.hid (F18_10.out.keep bz F18_10.out.lt)
    have F19_9 := Lib.hid (F18_9.out.below bz (Nat.le_refl _))
    have z19 : w18.heap.size ≤ w19.heap.size := bz.size
    have H19 := Lib.hid (H18.out.trans (bz.mono H18.out.size))
    clear b bz F18_1 F18_4 F18_5 F18_7 F18_10 F18_9 F18_12 F18_13 H18
    have F19_15 := Lib.hid (Box4.mk' w19 (.int .i64 (addO R X y).vars) (.slice h0c1 (addO R X y).N.length h0ck1) (.slice h0c2 (addO R X y).B.length h0ck2) (.slice h0c3 (addO R X y).G.length h0ck3) 49)
    obtain ⟨c1_0, c1_1, c1_2, c1_3⟩ := F19_1.out
    have l1 := F19_1.out.lt
    obtain ⟨c5_0, c5_1, c5_2, c5_3⟩ := F19_5.out
    have l5 := F19_5.out.lt
    obtain ⟨c7_0, c7_1, c7_2, c7_3⟩ := F19_7.out
    have l7 := F19_7.out.lt
    obtain ⟨c10_0, c10_1, c10_2, c10_3⟩ := F19_10.out
    have l10 := F19_10.out.lt
    go_wp2_with fail
    clear c1_0 c1_1 c1_2 c1_3 l1 c5_0 c5_1 c5_2 c5_3 l5 c7_0 c7_1 c7_2 c7_3 l7 c10_0 c10_1 c10_2 c10_3 l10
    go_at_call 31; refine (eqRows_any _ _ (addO R X y) _ (addO_len R X y) (F19_14.out.below (below_alloc w19 _) (Nat.le_refl _)).rv (F19_4.out.below (below_alloc w19 _) (Nat.le_refl _)).rv).mono ?_; rintro e w20 ⟨rfl, b⟩
    have bz := (below_alloc w19 _).trans (b.mono (below_alloc w19 _).size)
    have F20_1 := Lib.hid (F19_1.out.keep bz F19_1.out.lt)
    have F20_4 := Lib.hid (F19_4.out.below bz (Nat.le_refl _))
    have F20_5 := Lib.hid (F19_5.out.keep bz F19_5.out.lt)
    have F20_7 := Lib.hid (F19_7.out.keep bz F19_7.out.lt)
    have F20_10 := Lib.hid (F19_10.out.keep bz F19_10.out.lt)
    have F20_9 := Lib.hid (F19_9.out.below bz (Nat.le_refl _))
    have F20_14 := Lib.hid (F19_14.out.below bz (Nat.le_refl _))
    have F20_15 := Lib.hid (F19_15.out.keep b F19_15.out.lt)
    have lb15 : w19.heap.size < w20.heap.size := F20_15.out.lt
    have z20 : w19.heap.size ≤ w20.heap.size := bz.size
    have H20 := Lib.hid (H19.out.trans (bz.mono H19.out.size))
    clear b bz F19_1 F19_4 F19_5 F19_7 F19_10 F19_9 F19_14 F19_15 H19
    obtain ⟨c1_0, c1_1, c1_2, c1_3⟩ := F20_1.out
    have l1 := F20_1.out.lt
    obtain ⟨c5_0, c5_1, c5_2, c5_3⟩ := F20_5.out
    have l5 := F20_5.out.lt
    obtain ⟨c7_0, c7_1, c7_2, c7_3⟩ := F20_7.out
    have l7 := F20_7.out.lt
    obtain ⟨c10_0, c10_1, c10_2, c10_3⟩ := F20_10.out
    have l10 := F20_10.out.lt
    obtain ⟨c15_0, c15_1, c15_2, c15_3⟩ := F20_15.out
    have l15 := F20_15.out.lt
    go_wp2_with fail
    clear c1_0 c1_1 c1_2 c1_3 l1 c5_0 c5_1 c5_2 c5_3 l5 c7_0 c7_1 c7_2 c7_3 l7 c10_0 c10_1 c10_2 c10_3 l10 c15_0 c15_1 c15_2 c15_3 l15
    go_at_call 35; refine (heldRowsT_any _ 1 ((addO R X y)) _ F20_9.out.rv (addO_len R X y) (by omega) (by omega)).mono ?_; rintro e w21 ⟨rfl, b⟩
    have bz := b
    have F21_1 := Lib.hid (F20_1.out.keep bz F20_1.out.lt)
    have F21_4 := Lib.hid (F20_4.out.below bz (Nat.le_refl _))
    have F21_5 := Lib.hid (F20_5.out.keep bz F20_5.out.lt)
    have F21_7 := Lib.hid (F20_7.out.keep bz F20_7.out.lt)
    have F21_10 := Lib.hid (F20_10.out.keep bz F20_10.out.lt)
    have F21_9 := Lib.hid (F20_9.out.below bz (Nat.le_refl _))
    have F21_14 := Lib.hid (F20_14.out.below bz (Nat.le_refl _))
    have F21_15 := Lib.hid (F20_15.out.keep bz F20_15.out.lt)
    have z21 : w20.heap.size ≤ w21.heap.size := bz.size
    have H21 := Lib.hid (H20.out.trans (bz.mono H20.out.size))
    clear b bz F20_1 F20_4 F20_5 F20_7 F20_10 F20_9 F20_14 F20_15 H20
    obtain ⟨c1_0, c1_1, c1_2, c1_3⟩ := F21_1.out
    have l1 := F21_1.out.lt
    obtain ⟨c5_0, c5_1, c5_2, c5_3⟩ := F21_5.out
    have l5 := F21_5.out.lt
    obtain ⟨c7_0, c7_1, c7_2, c7_3⟩ := F21_7.out
    have l7 := F21_7.out.lt
    obtain ⟨c10_0, c10_1, c10_2, c10_3⟩ := F21_10.out
    have l10 := F21_10.out.lt
    obtain ⟨c15_0, c15_1, c15_2, c15_3⟩ := F21_15.out
    have l15 := F21_15.out.lt
    go_wp2_with fail
    clear c1_0 c1_1 c1_2 c1_3 l1 c5_0 c5_1 c5_2 c5_3 l5 c7_0 c7_1 c7_2 c7_3 l7 c10_0 c10_1 c10_2 c10_3 l10 c15_0 c15_1 c15_2 c15_3 l15
    go_ret
    exact says rfl H21.out
set_option maxRecDepth 100000 in
set_option maxHeartbeats 8000000 in
theorem fnExactAddRow_long1 (v0 v1 : Value) (R : Rw) (X : List Nat) (y : Nat) (w : World) (hv0 : RV w v0 R) (hv1 : SL w v1 X) (hb : 1048576 < X.length) (hx : X.length ≤ maxLen) :
    Calls Try.prog 7 #[v0, v1, .float .f32 y] w (Says true w) := by
  unfold maxLen at hx
  have V0 := Lib.hid hv0
  obtain ⟨s01, s02, s03, rfl, -, -, -⟩ := hv0
  have V1 := Lib.hid hv1
  obtain ⟨a1, cap1, rfl⟩ := hv1.long
  clear hv1
  have F0_1 := Lib.hid (Box4.mk' w (.int .i64 R.vars) (s01) (s02) (s03) 46)
  go_enter Try.func7, Try.ntmps7
  go_wp2_with fail
  go_ret
  exact says rfl (below_alloc w _)

set_option maxRecDepth 100000 in
set_option maxHeartbeats 8000000 in
theorem fnExactAddRow_size0 (v0 v1 : Value) (R : Rw) (X : List Nat) (y : Nat) (w : World) (hv0 : RV w v0 R) (hv1 : SL w v1 X) (hl1 : ¬ 1048576 < X.length) (hb : 1048576 < (R.size : Int)) (fx : FitR R) :
    Calls Try.prog 7 #[v0, v1, .float .f32 y] w (Says true w) := by
  have V0 := Lib.hid hv0
  obtain ⟨s01, s02, s03, rfl, -, -, -⟩ := hv0
  have V1 := Lib.hid hv1
  obtain ⟨a1, cap1, rfl⟩ := hv1.long
  clear hv1
  have F0_1 := Lib.hid (Box4.mk' w (.int .i64 R.vars) (s01) (s02) (s03) 46)
  have hz : ∀ n : Nat, (0 : Int) ≤ n := fun n => Int.natCast_nonneg n
  go_enter Try.func7, Try.ntmps7
  go_wp2_with fail
  go_at_call 26; refine (szRows_no _ R _ _ (V0.out.below ((Below.refl w.heap.size w).trans ((below_alloc w _).mono (Below.refl w.heap.size w).size)) (Nat.le_refl _)) hb (by omega) (by omega) fx.1 fx.2.1 fx.2.2.1).mono ?_; rintro e w1 ⟨rfl, b⟩
  have bz := (below_alloc w _).trans (b.mono (below_alloc w _).size)
  have F1_1 := Lib.hid (F0_1.out.keep b F0_1.out.lt)
  have lb1 : w.heap.size < w1.heap.size := F1_1.out.lt
  have z1 : w.heap.size ≤ w1.heap.size := bz.size
  have H1 := Lib.hid ((Below.refl w.heap.size w).trans (bz.mono (Below.refl w.heap.size w).size))
  clear b bz F0_1
  obtain ⟨c1_0, c1_1, c1_2, c1_3⟩ := F1_1.out
  have l1 := F1_1.out.lt
  go_wp2_with fail
  clear c1_0 c1_1 c1_2 c1_3 l1
  go_ret
  exact says rfl H1.out

set_option maxRecDepth 100000 in
set_option maxHeartbeats 8000000 in
theorem fnExactAddRow_all (v0 v1 : Value) (R : Rw) (X : List Nat) (y : Nat) (w : World) (hv0 : RV w v0 R) (hv1 : SL w v1 X) (f0 : FitR R) (f1 : FitF X) (f2 : y < 4294967296) :
    Calls Try.prog 7 #[v0, v1, .float .f32 y] w (Says true w) := by
  by_cases hl1 : 1048576 < X.length
  · exact fnExactAddRow_long1 v0 v1 R X y w hv0 hv1  hl1 f1.1
  by_cases hb0 : 1048576 < (R.size : Int)
  · exact fnExactAddRow_size0 v0 v1 R X y w hv0 hv1 hl1 hb0 f0
  exact fnExactAddRow_main v0 v1 R X y w hv0 hv1 ⟨by omega, f0⟩ ⟨by omega, f1⟩ f2 (by omega)

theorem Try.own : ownKnob Try.prog.godebug = none := by kernel_rfl
theorem Try.laidOut : laidOutB Try.prog = true := by kernel_rfl
theorem f32_lt {x : Nat} (h : (Lit.float .f32 x).wf = true) : x < 4294967296 := by simpa [Lit.wf] using h
theorem f64_lt {x : Nat} (h : (Lit.float .f64 x).wf = true) : x < 18446744073709551616 := by simpa [Lit.wf] using h
theorem i64_in {x : Int} (h : (Lit.int .i64 x).wf = true) : -9223372036854775808 ≤ x ∧ x ≤ 9223372036854775807 := by
  have h1 : IntKind.i64.min = -9223372036854775808 := by decide
  have h2 : IntKind.i64.max = 9223372036854775807 := by decide
  simp only [Lit.wf, Bool.and_eq_true, decide_eq_true_eq, h1, h2] at h
  exact h

set_option maxRecDepth 100000 in
theorem fnExactAddRow_lifted (os : Os) (started : os.Started) (H : Type) (enc : TypeId × Value → H) :
    ReturnsInHanded {} Try.checked os 7 .any (Rows.fnExactAddRowSpec.pre6 enc Try.prog Try.f7 [] false) (Rows.fnExactAddRowSpec.post enc Try.prog Try.f7 false true false false) := by
  refine Frame.law_lifted (tb := 4) Try.own started (by kernel_rfl) Try.func7
    (ChangeSpec.witness6 (enc := enc) (C := Try.checked) false ⟨#[], #[.agg #[.int .i64 0, .slice none 0 0, .slice none 0 0, .slice none 0 0], .slice none 0 0, .float .f32 0], []⟩ 8 (by kernel_rfl) (by kernel_rfl) (by kernel_rfl) (by kernel_rfl))
    Try.laidOut (by kernel_rfl) rfl (by kernel_rfl) Try.underlying4 (fun ds hd => ?_) ?_
  · rw [Try.params7] at hd
    match ds, hd with
    | [_, _, _], _ => exact ⟨rfl, rfl, rfl⟩
  intro W base args ds p hval0 hA0 hlt hsz0
  have hval : ∀ (j : Nat) t v, Try.f7.params[j]? = some t → args[j]? = some v → Value.okWide Try.prog W .any base t v := hval0
  have hA : DataW.TrodAll enc Try.prog W 0 (fun _ => true) true Try.f7.params.toList args.toList ds p := hA0
  have hsz : (DataW.weightsEach Try.prog Try.f7.params.toList ds).all (· ≤ reachBytes) = true := hsz0
  rw [Try.params7] at hA hval hsz
  clear hval0 hA0 hsz0
  obtain ⟨v0, v1, v2, d0, d1, d2, p0, p1, p2, rfl, rfl, rfl, h0, h1, h2⟩ := trodAll_three hA
  obtain ⟨r0, g0, k0⟩ := open_rows (hval 0 46 v0 rfl rfl) h0
  obtain ⟨r1, g1, k1⟩ := open_f32s (hval 1 44 v1 rfl rfl) h1
  obtain ⟨a2, rfl, rfl, rfl, w2⟩ := open_float Try.underlying47 (hval 2 47 v2 rfl rfl) h2
  have b2 := f32_lt w2
  exact fnExactAddRow_all v0 v1 r0 r1 a2 W g0 g1 k0 k1 b2

theorem fnExactAddRow_holds : Rows.FnExactAddRowSaid :=
  OpenClaim.holds_of_wide 7 Try.f7 rfl rfl rfl rfl rfl rfl rfl ⟨rfl, rfl, rfl, rfl, rfl⟩ rfl rfl rfl rfl rfl (by kernel_rfl) Try.func7 (by kernel_rfl)
    (of_decide_eq_true (by kernel_rfl)) (by unfold Func.isWrapper; first | (rw [if_pos (by decide +kernel)]; kernel_rfl) | (rw [if_neg (by decide +kernel)]; exact ⟨rfl, rfl⟩))
    (fun os started H enc _ => fnExactAddRow_lifted os started H enc)
end Go.Proofs.Ytajekehidofkiaa
