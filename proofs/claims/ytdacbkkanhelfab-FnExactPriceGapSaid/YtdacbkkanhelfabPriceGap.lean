/- PriceGap answers as its model, for all arguments; it writes into no argument. -/
import Derived.Test.YtdacbkkanhelfabGap
import Derived.Test.YtdacbkkanhelfabLaw
import Derived.Test.YtdacbkkanhelfabFrame
import Derived.Outline
namespace Go.Proofs.Ytdacbkkanhelfab
open Go.ChangeShapes Go.WideShapes Go.ChangeAt Go.RowKit Go.ChangeMaps
attribute [local go_sem] Fl.run_widen

set_option maxRecDepth 100000 in
set_option maxHeartbeats 8000000 in
theorem fnExactPriceGap_main (v0 v1 v2 : Value) (R : Rw) (X : List Nat) (Y : List Nat) (w : World) (hv0 : RV w v0 R) (hv1 : SL w v1 X) (hv2 : SL w v2 Y) (o0 : OKR R) (o1 : OKF X) (o2 : OKF Y) (hm : (R.size : Int) ≤ (1048576 : Int)) :
    Calls Try.prog 11 #[v0, v1, v2] w (Says true w) := by
  have V0 := Lib.hid hv0
  obtain ⟨s01, s02, s03, rfl, -, -, -⟩ := hv0
  have V1 := Lib.hid hv1
  obtain ⟨a1, cap1, rfl⟩ := hv1.long
  clear hv1
  have V2 := Lib.hid hv2
  obtain ⟨a2, cap2, rfl⟩ := hv2.long
  clear hv2
  have F0_1 := Lib.hid (Box4.mk' w (.int .i64 R.vars) (s01) (s02) (s03) 24)
  have hs0 := o0.size
  have hl1 : ¬ 1048576 < X.length := by have := o1.size; omega
  have hs1 := o1.size
  have hl2 : ¬ 1048576 < Y.length := by have := o2.size; omega
  have hs2 := o2.size
  have ht0 : decide (1048576 - (R.size : Int) < 0) = false := by simp; omega
  have hmm := hm
  go_enter Try.func11, Try.ntmps11
  go_wp2_with fail
  go_at_call 15; refine (szRows_yes _ R _ _ (V0.out.below ((Below.refl w.heap.size w).trans ((below_alloc w _).mono (Below.refl w.heap.size w).size)) (Nat.le_refl _)) (by omega) (by omega)).mono ?_; rintro e w1 ⟨rfl, b⟩
  have bz := (below_alloc w _).trans (b.mono (below_alloc w _).size)
  have F1_1 := Lib.hid (F0_1.out.keep b F0_1.out.lt)
  have lb1 : w.heap.size < w1.heap.size := F1_1.out.lt
  have z1 : w.heap.size ≤ w1.heap.size := bz.size
  have H1 := Lib.hid ((Below.refl w.heap.size w).trans (bz.mono (Below.refl w.heap.size w).size))
  clear b bz F0_1
  obtain ⟨c1_0, c1_1, c1_2, c1_3⟩ := F1_1.out
  have l1 := F1_1.out.lt
  go_wp2_with fail
  clear c1_0 c1_1 c1_2 c1_3 l1
  go_at_call 17; refine (toRows_any _ R _ (V0.out.below H1.out (Nat.le_refl _)) (by omega)).mono ?_; rintro e w2 ⟨q0v, rfl, i, b⟩
  have F2_2 := Lib.hid (RD.wide (lo' := w1.heap.size) i (Below.refl w1.heap.size w1).size)
  clear i
  have bz := b
  have F2_1 := Lib.hid (F1_1.out.keep bz F1_1.out.lt)
  have z2 : w1.heap.size ≤ w2.heap.size := bz.size
  have H2 := Lib.hid (H1.out.trans (bz.mono H1.out.size))
  clear b bz F1_1 H1
  obtain ⟨c1_0, c1_1, c1_2, c1_3⟩ := F2_1.out
  have l1 := F2_1.out.lt
  go_wp2_with fail
  clear c1_0 c1_1 c1_2 c1_3 l1
  go_at_call 18; refine (toF32_si _ X _ (V1.out.below H2.out (Nat.le_refl _)) (by omega)).mono ?_; rintro e w3 ⟨q1v, rfl, i, b⟩
  have F3_3 := Lib.hid (FI.wide' (lo' := w2.heap.size) i (Below.refl w2.heap.size w2).size)
  clear i
  have bz := b
  have F3_1 := Lib.hid (F2_1.out.keep bz F2_1.out.lt)
  have F3_2 := Lib.hid (F2_2.out.below bz (Nat.le_refl _))
  have z3 : w2.heap.size ≤ w3.heap.size := bz.size
  have H3 := Lib.hid (H2.out.trans (bz.mono H2.out.size))
  clear b bz F2_1 F2_2 H2
  obtain ⟨c1_0, c1_1, c1_2, c1_3⟩ := F3_1.out
  have l1 := F3_1.out.lt
  go_wp2_with fail
  clear c1_0 c1_1 c1_2 c1_3 l1
  go_at_call 18; refine (toF32_si _ Y _ (V2.out.below H3.out (Nat.le_refl _)) (by omega)).mono ?_; rintro e w4 ⟨q2v, rfl, i, b⟩
  have F4_4 := Lib.hid (FI.wide' (lo' := w3.heap.size) i (Below.refl w3.heap.size w3).size)
  clear i
  have bz := b
  have F4_1 := Lib.hid (F3_1.out.keep bz F3_1.out.lt)
  have F4_2 := Lib.hid (F3_2.out.below bz (Nat.le_refl _))
  have F4_3 := Lib.hid (F3_3.out.below' bz (Nat.le_refl _))
  have z4 : w3.heap.size ≤ w4.heap.size := bz.size
  have H4 := Lib.hid (H3.out.trans (bz.mono H3.out.size))
  clear b bz F3_1 F3_2 F3_3 H3
  obtain ⟨c1_0, c1_1, c1_2, c1_3⟩ := F4_1.out
  have l1 := F4_1.out.lt
  go_wp2_with fail
  clear c1_0 c1_1 c1_2 c1_3 l1
  go_at_call 45; refine (specPriceGap_any _ R _ X _ Y _ F4_2.out.rv F4_3.out.sl F4_4.out.sl o0 o1 o2).mono ?_; rintro e w5 ⟨w0r, rfl, hc0, b⟩
  have Cw0 := Lib.hid hc0
  clear hc0
  have bz := b
  have F5_1 := Lib.hid (F4_1.out.keep bz F4_1.out.lt)
  have z5 : w4.heap.size ≤ w5.heap.size := bz.size
  have H5 := Lib.hid (H4.out.trans (bz.mono H4.out.size))
  clear b bz F4_1 F4_2 F4_3 F4_4 H4
  obtain ⟨c1_0, c1_1, c1_2, c1_3⟩ := F5_1.out
  have l1 := F5_1.out.lt
  go_wp2_with fail
  clear c1_0 c1_1 c1_2 c1_3 l1
  go_at_call 17; refine (toRows_any _ R _ (V0.out.below H5.out (Nat.le_refl _)) (by omega)).mono ?_; rintro e w6 ⟨x0v, rfl, i, b⟩
  obtain ⟨x0c1, x0ck1, x0c2, x0ck2, x0c3, x0ck3, rfl⟩ := i.split
  have F6_5 := Lib.hid (RD.wide (lo' := w5.heap.size) i (Below.refl w5.heap.size w5).size)
  clear i
  have bz := b
  have F6_1 := Lib.hid (F5_1.out.keep bz F5_1.out.lt)
  have z6 : w5.heap.size ≤ w6.heap.size := bz.size
  have H6 := Lib.hid (H5.out.trans (bz.mono H5.out.size))
  clear b bz F5_1 H5
  have F6_6 := Lib.hid (Box4.mk' w6 (.int .i64 R.vars) (.slice x0c1 R.N.length x0ck1) (.slice x0c2 R.B.length x0ck2) (.slice x0c3 R.G.length x0ck3) 27)
  obtain ⟨c1_0, c1_1, c1_2, c1_3⟩ := F6_1.out
  have l1 := F6_1.out.lt
  go_wp2_with fail
  clear c1_0 c1_1 c1_2 c1_3 l1
  go_at_call 18; refine (toF32_si _ X _ (V1.out.below (H6.out.trans ((below_alloc w6 _).mono H6.out.size)) (Nat.le_refl _)) (by omega)).mono ?_; rintro e w7 ⟨x1v, rfl, i, b⟩
  obtain ⟨x1a, x1c, rfl⟩ := FI.len' i
  have F7_7 := Lib.hid (FI.wide' (lo' := (w6.heap.size + 1)) i (by simp))
  clear i
  have bz := (below_alloc w6 _).trans (b.mono (below_alloc w6 _).size)
  have F7_1 := Lib.hid (F6_1.out.keep bz F6_1.out.lt)
  have F7_5 := Lib.hid (F6_5.out.below bz (Nat.le_refl _))
  have F7_6 := Lib.hid (F6_6.out.keep b F6_6.out.lt)
  have lb6 : w6.heap.size < w7.heap.size := F7_6.out.lt
  have z7 : w6.heap.size ≤ w7.heap.size := bz.size
  have H7 := Lib.hid (H6.out.trans (bz.mono H6.out.size))
  clear b bz F6_1 F6_5 F6_6 H6
  obtain ⟨c1_0, c1_1, c1_2, c1_3⟩ := F7_1.out
  have l1 := F7_1.out.lt
  obtain ⟨c6_0, c6_1, c6_2, c6_3⟩ := F7_6.out
  have l6 := F7_6.out.lt
  go_wp2_with fail
  clear c1_0 c1_1 c1_2 c1_3 l1 c6_0 c6_1 c6_2 c6_3 l6
  go_at_call 18; refine (toF32_si _ Y _ (V2.out.below H7.out (Nat.le_refl _)) (by omega)).mono ?_; rintro e w8 ⟨x2v, rfl, i, b⟩
  obtain ⟨x2a, x2c, rfl⟩ := FI.len' i
  have F8_8 := Lib.hid (FI.wide' (lo' := w7.heap.size) i (Below.refl w7.heap.size w7).size)
  clear i
  have bz := b
  have F8_1 := Lib.hid (F7_1.out.keep bz F7_1.out.lt)
  have F8_5 := Lib.hid (F7_5.out.below bz (Nat.le_refl _))
  have F8_6 := Lib.hid (F7_6.out.keep bz F7_6.out.lt)
  have F8_7 := Lib.hid (F7_7.out.below' bz (Nat.le_refl _))
  have z8 : w7.heap.size ≤ w8.heap.size := bz.size
  have H8 := Lib.hid (H7.out.trans (bz.mono H7.out.size))
  clear b bz F7_1 F7_5 F7_6 F7_7 H7
  obtain ⟨c1_0, c1_1, c1_2, c1_3⟩ := F8_1.out
  have l1 := F8_1.out.lt
  obtain ⟨c6_0, c6_1, c6_2, c6_3⟩ := F8_6.out
  have l6 := F8_6.out.lt
  go_wp2_with fail
  clear c1_0 c1_1 c1_2 c1_3 l1 c6_0 c6_1 c6_2 c6_3 l6
  go_at_call 46; refine (implPriceGap_any _ R _ X _ Y _ F8_5.out.rv F8_7.out.sl F8_8.out.sl o0 o1 o2).mono ?_; rintro e w9 ⟨g0r, rfl, hc0, b⟩
  have Cg0 := Lib.hid hc0
  clear hc0
  have bz := b
  have F9_1 := Lib.hid (F8_1.out.keep bz F8_1.out.lt)
  have F9_5 := Lib.hid (F8_5.out.below bz (Nat.le_refl _))
  have F9_6 := Lib.hid (F8_6.out.keep bz F8_6.out.lt)
  have F9_7 := Lib.hid (F8_7.out.below' bz (Nat.le_refl _))
  have F9_8 := Lib.hid (F8_8.out.below' bz (Nat.le_refl _))
  have z9 : w8.heap.size ≤ w9.heap.size := bz.size
  have H9 := Lib.hid (H8.out.trans (bz.mono H8.out.size))
  clear b bz F8_1 F8_5 F8_6 F8_7 F8_8 H8
  obtain ⟨c1_0, c1_1, c1_2, c1_3⟩ := F9_1.out
  have l1 := F9_1.out.lt
  obtain ⟨c6_0, c6_1, c6_2, c6_3⟩ := F9_6.out
  have l6 := F9_6.out.lt
  go_wp2_with fail
  clear c1_0 c1_1 c1_2 c1_3 l1 c6_0 c6_1 c6_2 c6_3 l6
  go_at_call 47; refine (same_says _ _ (by rw [Fl.cls_wres, Fl.cls_wres, Cg0.out, Cw0.out]) _).mono ?_; rintro e w10 ⟨rfl, b⟩
  have bz := (below_drewN (Below.refl w9.heap.size w9) _).trans (b.mono (below_drewN (Below.refl w9.heap.size w9) _).size)
  have F10_1 := Lib.hid (F9_1.out.keep bz F9_1.out.lt)
  have F10_5 := Lib.hid (F9_5.out.below bz (Nat.le_refl _))
  have F10_6 := Lib.hid (F9_6.out.keep bz F9_6.out.lt)
  have F10_7 := Lib.hid (F9_7.out.below' bz (Nat.le_refl _))
  have F10_8 := Lib.hid (F9_8.out.below' bz (Nat.le_refl _))
  have z10 : w9.heap.size ≤ w10.heap.size := bz.size
  have H10 := Lib.hid (H9.out.trans (bz.mono H9.out.size))
  clear b bz F9_1 F9_5 F9_6 F9_7 F9_8 H9
  obtain ⟨c1_0, c1_1, c1_2, c1_3⟩ := F10_1.out
  have l1 := F10_1.out.lt
  obtain ⟨c6_0, c6_1, c6_2, c6_3⟩ := F10_6.out
  have l6 := F10_6.out.lt
  go_upto_region 16 with fail
  clear c1_0 c1_1 c1_2 c1_3 l1 c6_0 c6_1 c6_2 c6_3 l6
  go_cut [64] (fun s wx => s = .bool false ∧ Hid ((Below w.heap.size w wx) ∧ (w10.heap.size ≤ wx.heap.size) ∧ (Box4 wx w.heap.size (.int .i64 R.vars) (s01) (s02) (s03)) ∧ (FI (w6.heap.size + 1) w7.heap.size wx ((.slice x1a X.length x1c)) X) ∧ (FI w7.heap.size w8.heap.size wx ((.slice x2a Y.length x2c)) Y)))
  case first =>
    obtain ⟨c1_0, c1_1, c1_2, c1_3⟩ := F10_1.out
    have l1 := F10_1.out.lt
    obtain ⟨c6_0, c6_1, c6_2, c6_3⟩ := F10_6.out
    have l6 := F10_6.out.lt
    go_region_with (first | (go_at_call 17; refine (toRows_any _ R _ (V0.out.below (show Below w.heap.size w w10.drew from below_drewN H10.out 1) (Nat.le_refl _)) (by omega)).mono ?_; rintro e wy ⟨tv, rfl, i, b⟩; have bz := (below_drewN (Below.refl w10.heap.size w10) 1).trans b; have HH := Lib.hid (H10.out.trans (bz.mono H10.out.size)); have zz := bz.size; have Y1 := Lib.hid (F10_1.out.keep bz F10_1.out.lt); obtain ⟨e1_0, e1_1, e1_2, e1_3⟩ := Y1.out; have m1 := Y1.out.lt; have Y5 := Lib.hid (F10_5.out.below bz (Nat.le_refl _)); have Y6 := Lib.hid (F10_6.out.keep bz F10_6.out.lt); obtain ⟨e6_0, e6_1, e6_2, e6_3⟩ := Y6.out; have m6 := Y6.out.lt; have Y7 := Lib.hid (F10_7.out.below' bz (Nat.le_refl _)); have Y8 := Lib.hid (F10_8.out.below' bz (Nat.le_refl _)); have TT := Lib.hid i.rv; clear i b bz) | (go_at_call 20; refine (eqRows_any _ _ R _ (by omega) Y5.out.rv TT.out).mono ?_; rintro e wz ⟨rfl, b⟩; have H2 := Lib.hid (HH.out.trans (b.mono HH.out.size)); have zy := b.size; have U1 := Lib.hid (Y1.out.keep b Y1.out.lt); have U7 := Lib.hid (Y7.out.below' b (Nat.le_refl _)); have U8 := Lib.hid (Y8.out.below' b (Nat.le_refl _)); clear b))
    all_goals
      go_wp2_with fail
      go_meet
      exact ⟨rfl, Lib.hid ⟨H2.out, Nat.le_trans zz zy, U1.out, U7.out, U8.out⟩⟩
  case rest =>
    obtain ⟨w11, rfl⟩ : ∃ x : World, x = wc := ⟨_, rfl⟩
    obtain ⟨rfl, hcc⟩ := hcut
    obtain ⟨hH, z11, f1, f7, f8⟩ := hcc.out
    have H11 := Lib.hid hH
    have F11_1 := Lib.hid f1
    have F11_7 := Lib.hid f7
    have F11_8 := Lib.hid f8
    clear hcc hH f1 F10_1 f7 F10_7 f8 F10_8 F10_5 F10_6 H10
    obtain ⟨c1_0, c1_1, c1_2, c1_3⟩ := F11_1.out
    have l1 := F11_1.out.lt
    go_wp2_with fail
    clear c1_0 c1_1 c1_2 c1_3 l1
    go_at_call 18; refine (toF32_si _ X _ (V1.out.below H11.out (Nat.le_refl _)) (by omega)).mono ?_; rintro e w12 ⟨tv, rfl, i, b⟩
    have F12_9 := Lib.hid (FI.wide' (lo' := w11.heap.size) i (Below.refl w11.heap.size w11).size)
    clear i
    have bz := b
    have F12_1 := Lib.hid (F11_1.out.keep bz F11_1.out.lt)
    have F12_7 := Lib.hid (F11_7.out.below' bz (Nat.le_refl _))
    have F12_8 := Lib.hid (F11_8.out.below' bz (Nat.le_refl _))
    have z12 : w11.heap.size ≤ w12.heap.size := bz.size
    have H12 := Lib.hid (H11.out.trans (bz.mono H11.out.size))
    clear b bz F11_1 F11_7 F11_8 H11
    obtain ⟨c1_0, c1_1, c1_2, c1_3⟩ := F12_1.out
    have l1 := F12_1.out.lt
    go_wp2_with fail
    clear c1_0 c1_1 c1_2 c1_3 l1
    go_at_call 21; refine (eqF32_says _ _ X _ (by omega) F12_7.out.sl F12_9.out.sl).mono ?_; rintro e w13 ⟨rfl, b⟩
    have bz := b
    have F13_1 := Lib.hid (F12_1.out.keep bz F12_1.out.lt)
    have F13_8 := Lib.hid (F12_8.out.below' bz (Nat.le_refl _))
    have z13 : w12.heap.size ≤ w13.heap.size := bz.size
    have H13 := Lib.hid (H12.out.trans (bz.mono H12.out.size))
    clear b bz F12_1 F12_7 F12_8 F12_9 H12
    obtain ⟨c1_0, c1_1, c1_2, c1_3⟩ := F13_1.out
    have l1 := F13_1.out.lt
    go_wp2_with fail
    clear c1_0 c1_1 c1_2 c1_3 l1
    go_at_call 18; refine (toF32_si _ Y _ (V2.out.below H13.out (Nat.le_refl _)) (by omega)).mono ?_; rintro e w14 ⟨tv, rfl, i, b⟩
    have F14_10 := Lib.hid (FI.wide' (lo' := w13.heap.size) i (Below.refl w13.heap.size w13).size)
    clear i
    have bz := b
    have F14_1 := Lib.hid (F13_1.out.keep bz F13_1.out.lt)
    have F14_8 := Lib.hid (F13_8.out.below' bz (Nat.le_refl _))
    have z14 : w13.heap.size ≤ w14.heap.size := bz.size
    have H14 := Lib.hid (H13.out.trans (bz.mono H13.out.size))
    clear b bz F13_1 F13_8 H13
    obtain ⟨c1_0, c1_1, c1_2, c1_3⟩ := F14_1.out
    have l1 := F14_1.out.lt
    go_wp2_with fail
    clear c1_0 c1_1 c1_2 c1_3 l1
    go_at_call 21; refine (eqF32_says _ _ Y _ (by omega) F14_8.out.sl F14_10.out.sl).mono ?_; rintro e w15 ⟨rfl, b⟩
    have bz := b
    have F15_1 := Lib.hid (F14_1.out.keep bz F14_1.out.lt)
    have z15 : w14.heap.size ≤ w15.heap.size := bz.size
    have H15 := Lib.hid (H14.out.trans (bz.mono H14.out.size))
    clear b bz F14_1 F14_8 F14_10 H14
    obtain ⟨c1_0, c1_1, c1_2, c1_3⟩ := F15_1.out
    have l1 := F15_1.out.lt
    go_wp2_with fail
    clear c1_0 c1_1 c1_2 c1_3 l1
    go_ret
    exact says rfl H15.out
set_option maxRecDepth 100000 in
set_option maxHeartbeats 8000000 in
theorem fnExactPriceGap_long1 (v0 v1 v2 : Value) (R : Rw) (X : List Nat) (Y : List Nat) (w : World) (hv0 : RV w v0 R) (hv1 : SL w v1 X) (hv2 : SL w v2 Y) (hb : 1048576 < X.length) (hx : X.length ≤ maxLen) :
    Calls Try.prog 11 #[v0, v1, v2] w (Says true w) := by
  unfold maxLen at hx
  have V0 := Lib.hid hv0
  obtain ⟨s01, s02, s03, rfl, -, -, -⟩ := hv0
  have V1 := Lib.hid hv1
  obtain ⟨a1, cap1, rfl⟩ := hv1.long
  clear hv1
  have V2 := Lib.hid hv2
  obtain ⟨a2, cap2, rfl⟩ := hv2.long
  clear hv2
  have F0_1 := Lib.hid (Box4.mk' w (.int .i64 R.vars) (s01) (s02) (s03) 24)
  go_enter Try.func11, Try.ntmps11
  go_wp2_with fail
  go_ret
  exact says rfl (below_alloc w _)

set_option maxRecDepth 100000 in
set_option maxHeartbeats 8000000 in
theorem fnExactPriceGap_long2 (v0 v1 v2 : Value) (R : Rw) (X : List Nat) (Y : List Nat) (w : World) (hv0 : RV w v0 R) (hv1 : SL w v1 X) (hv2 : SL w v2 Y) (hl1 : ¬ 1048576 < X.length) (hb : 1048576 < Y.length) (hx : Y.length ≤ maxLen) :
    Calls Try.prog 11 #[v0, v1, v2] w (Says true w) := by
  unfold maxLen at hx
  have V0 := Lib.hid hv0
  obtain ⟨s01, s02, s03, rfl, -, -, -⟩ := hv0
  have V1 := Lib.hid hv1
  obtain ⟨a1, cap1, rfl⟩ := hv1.long
  clear hv1
  have V2 := Lib.hid hv2
  obtain ⟨a2, cap2, rfl⟩ := hv2.long
  clear hv2
  have F0_1 := Lib.hid (Box4.mk' w (.int .i64 R.vars) (s01) (s02) (s03) 24)
  go_enter Try.func11, Try.ntmps11
  go_wp2_with fail
  go_ret
  exact says rfl (below_alloc w _)

set_option maxRecDepth 100000 in
set_option maxHeartbeats 8000000 in
theorem fnExactPriceGap_size0 (v0 v1 v2 : Value) (R : Rw) (X : List Nat) (Y : List Nat) (w : World) (hv0 : RV w v0 R) (hv1 : SL w v1 X) (hv2 : SL w v2 Y) (hl1 : ¬ 1048576 < X.length) (hl2 : ¬ 1048576 < Y.length) (hb : 1048576 < (R.size : Int)) (fx : FitR R) :
    Calls Try.prog 11 #[v0, v1, v2] w (Says true w) := by
  have V0 := Lib.hid hv0
  obtain ⟨s01, s02, s03, rfl, -, -, -⟩ := hv0
  have V1 := Lib.hid hv1
  obtain ⟨a1, cap1, rfl⟩ := hv1.long
  clear hv1
  have V2 := Lib.hid hv2
  obtain ⟨a2, cap2, rfl⟩ := hv2.long
  clear hv2
  have F0_1 := Lib.hid (Box4.mk' w (.int .i64 R.vars) (s01) (s02) (s03) 24)
  have hz : ∀ n : Nat, (0 : Int) ≤ n := fun n => Int.natCast_nonneg n
  go_enter Try.func11, Try.ntmps11
  go_wp2_with fail
  go_at_call 15; refine (szRows_no _ R _ _ (V0.out.below ((Below.refl w.heap.size w).trans ((below_alloc w _).mono (Below.refl w.heap.size w).size)) (Nat.le_refl _)) hb (by omega) (by omega) fx.1 fx.2.1 fx.2.2.1).mono ?_; rintro e w1 ⟨rfl, b⟩
  have bz := (below_alloc w _).trans (b.mono (below_alloc w _).size)
  have F1_1 := Lib.hid (F0_1.out.keep b F0_1.out.lt)
  have lb1 : w.heap.size < w1.heap.size := F1_1.out.lt
  have z1 : w.heap.size ≤ w1.heap.size := bz.size
  have H1 := Lib.hid ((Below.refl w.heap.size w).trans (bz.mono (Below.refl w.heap.size w).size))
  clear b bz F0_1
  obtain ⟨c1_0, c1_1, c1_2, c1_3⟩ := F1_1.out
  have l1 := F1_1.out.lt
  go_wp2_with fail
  clear c1_0 c1_1 c1_2 c1_3 l1
  go_ret
  exact says rfl H1.out

set_option maxRecDepth 100000 in
set_option maxHeartbeats 8000000 in
theorem fnExactPriceGap_all (v0 v1 v2 : Value) (R : Rw) (X : List Nat) (Y : List Nat) (w : World) (hv0 : RV w v0 R) (hv1 : SL w v1 X) (hv2 : SL w v2 Y) (f0 : FitR R) (f1 : FitF X) (f2 : FitF Y) :
    Calls Try.prog 11 #[v0, v1, v2] w (Says true w) := by
  by_cases hl1 : 1048576 < X.length
  · exact fnExactPriceGap_long1 v0 v1 v2 R X Y w hv0 hv1 hv2  hl1 f1.1
  by_cases hl2 : 1048576 < Y.length
  · exact fnExactPriceGap_long2 v0 v1 v2 R X Y w hv0 hv1 hv2 hl1 hl2 f2.1
  by_cases hb0 : 1048576 < (R.size : Int)
  · exact fnExactPriceGap_size0 v0 v1 v2 R X Y w hv0 hv1 hv2 hl1 hl2 hb0 f0
  exact fnExactPriceGap_main v0 v1 v2 R X Y w hv0 hv1 hv2 ⟨by omega, f0⟩ ⟨by omega, f1⟩ ⟨by omega, f2⟩ (by omega)

theorem Try.own : ownKnob Try.prog.godebug = none := by kernel_rfl
theorem Try.laidOut : laidOutB Try.prog = true := by kernel_rfl
theorem f32_lt {x : Nat} (h : (Lit.float .f32 x).wf = true) : x < 4294967296 := by simpa [Lit.wf] using h
theorem f64_lt {x : Nat} (h : (Lit.float .f64 x).wf = true) : x < 18446744073709551616 := by simpa [Lit.wf] using h
theorem i64_in {x : Int} (h : (Lit.int .i64 x).wf = true) : -9223372036854775808 ≤ x ∧ x ≤ 9223372036854775807 := by
  have h1 : IntKind.i64.min = -9223372036854775808 := by decide
  have h2 : IntKind.i64.max = 9223372036854775807 := by decide
  simp only [Lit.wf, Bool.and_eq_true, decide_eq_true_eq, h1, h2] at h
  exact h

set_option maxRecDepth 100000 in
theorem fnExactPriceGap_lifted (os : Os) (started : os.Started) (H : Type) (enc : TypeId × Value → H) :
    ReturnsInHanded {} Try.checked os 11 .any (Rows.fnExactPriceGapSpec.pre6 enc Try.prog Try.f11 [] false) (Rows.fnExactPriceGapSpec.post enc Try.prog Try.f11 false true false false) := by
  refine Frame.law_lifted (tb := 4) Try.own started (by kernel_rfl) Try.func11
    (ChangeSpec.witness6 (enc := enc) (C := Try.checked) false ⟨#[], #[.agg #[.int .i64 0, .slice none 0 0, .slice none 0 0, .slice none 0 0], .slice none 0 0, .slice none 0 0], []⟩ 8 (by kernel_rfl) (by kernel_rfl) (by kernel_rfl) (by kernel_rfl))
    Try.laidOut (by kernel_rfl) rfl (by kernel_rfl) Try.underlying4 (fun ds hd => ?_) ?_
  · rw [Try.params11] at hd
    match ds, hd with
    | [_, _, _], _ => exact ⟨rfl, rfl, rfl⟩
  intro W base args ds p hval0 hA0 hlt hsz0
  have hval : ∀ (j : Nat) t v, Try.f11.params[j]? = some t → args[j]? = some v → Value.okWide Try.prog W .any base t v := hval0
  have hA : DataW.TrodAll enc Try.prog W 0 (fun _ => true) true Try.f11.params.toList args.toList ds p := hA0
  have hsz : (DataW.weightsEach Try.prog Try.f11.params.toList ds).all (· ≤ reachBytes) = true := hsz0
  rw [Try.params11] at hA hval hsz
  clear hval0 hA0 hsz0
  obtain ⟨v0, v1, v2, d0, d1, d2, p0, p1, p2, rfl, rfl, rfl, h0, h1, h2⟩ := trodAll_three hA
  obtain ⟨r0, g0, k0⟩ := open_rows (hval 0 24 v0 rfl rfl) h0
  obtain ⟨r1, g1, k1⟩ := open_f32s (hval 1 22 v1 rfl rfl) h1
  obtain ⟨r2, g2, k2⟩ := open_f32s (hval 2 22 v2 rfl rfl) h2
  exact fnExactPriceGap_all v0 v1 v2 r0 r1 r2 W g0 g1 g2 k0 k1 k2

theorem fnExactPriceGap_holds : Rows.FnExactPriceGapSaid :=
  OpenClaim.holds_of_wide 11 Try.f11 rfl rfl rfl rfl rfl rfl rfl ⟨rfl, rfl, rfl, rfl, rfl⟩ rfl rfl rfl rfl rfl (by kernel_rfl) Try.func11 (by kernel_rfl)
    (of_decide_eq_true (by kernel_rfl)) (by unfold Func.isWrapper; first | (rw [if_pos (by decide +kernel)]; kernel_rfl) | (rw [if_neg (by decide +kernel)]; exact ⟨rfl, rfl⟩))
    (fun os started H enc _ => fnExactPriceGap_lifted os started H enc)
end Go.Proofs.Ytdacbkkanhelfab
