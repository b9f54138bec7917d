/- UnitsOf answers as its model, for all arguments; it writes into no argument. -/
import Derived.Test.YtnakpfbeeekmiaaUnitsOfB
import Derived.Test.YtnakpfbeeekmiaaUnitsOfF
import Derived.Test.YtnakpfbeeekmiaaUnitsOfD
import Derived.Test.YtnakpfbeeekmiaaUnitsOfA
import Derived.Deep.RegionWith
import Derived.Deep.DeepCutAuto
import Derived.Outline
namespace Go.Proofs.Ytnakpfbeeekmiaa
open Go.ChangeShapes Go.WideShapes Go.ChangeAt Go.RowKit Go.ChangeMaps

set_option maxRecDepth 100000 in
set_option maxHeartbeats 8000000 in
theorem fnExactUnitsOf_main (v0 v1 : Value) (F : Fm) (G : List Int) (w : World) (hv0 : FmV w v0 F) (hv1 : IL w v1 G) (o0 : OKFm F) (o1 : OKI G) (hm : ((szL F.cs) : Int) ≤ (1048576 : Int)) :
    Calls Try.prog 3 #[v0, v1] w (Says true w) := by
  have V0 := Lib.hid hv0
  obtain ⟨s01, rfl, -⟩ := hv0
  have V1 := Lib.hid hv1
  obtain ⟨a1, cap1, rfl⟩ := hv1.long
  clear hv1
  have F0_1 := Lib.hid (Box2.mk' w (.int .i64 F.letters) (s01) 24)
  have hs0 := o0.size
  have hmt0 : totAt F.cs F.cs.length ≤ szL F.cs := Nat.le_add_left _ _
  have hl1 : ¬ 1048576 < G.length := by have := o1.size; omega
  have hs1 := o1.size
  have ht0 : decide (1048576 - ((szL F.cs) : Int) < 0) = false := by simp; omega
  have hmm := hm
  go_enter Try.func3, Try.ntmps3
  go_wp2_with fail
  go_at_call 13; refine (szForm_yes _ F _ _ (V0.out.below ((Below.refl w.heap.size w).trans ((below_alloc w _).mono (Below.refl w.heap.size w).size)) (Nat.le_refl _)) (by omega) (by omega)).mono ?_; rintro e w1 ⟨rfl, b⟩
  have bz := (below_alloc w _).trans (b.mono (below_alloc w _).size)
  have F1_1 := Lib.hid (F0_1.out.keep b F0_1.out.lt)
  have lb1 : w.heap.size < w1.heap.size := F1_1.out.lt
  have z1 : w.heap.size ≤ w1.heap.size := bz.size
  have H1 := Lib.hid ((Below.refl w.heap.size w).trans (bz.mono (Below.refl w.heap.size w).size))
  clear b bz F0_1
  obtain ⟨c1_0, c1_1⟩ := F1_1.out
  have l1 := F1_1.out.lt
  go_wp2_with fail
  clear c1_0 c1_1 l1
  go_at_call 15; refine (toForm_any _ F _ (V0.out.below H1.out (Nat.le_refl _)) (by omega)).mono ?_; rintro e w2 ⟨q0v, rfl, i, b⟩
  have F2_2 := Lib.hid (FmD.wide (lo' := w1.heap.size) i (Below.refl w1.heap.size w1).size)
  clear i
  have bz := b
  have F2_1 := Lib.hid (F1_1.out.keep bz F1_1.out.lt)
  have z2 : w1.heap.size ≤ w2.heap.size := bz.size
  have H2 := Lib.hid (H1.out.trans (bz.mono H1.out.size))
  clear b bz F1_1 H1
  obtain ⟨c1_0, c1_1⟩ := F2_1.out
  have l1 := F2_1.out.lt
  go_wp2_with fail
  clear c1_0 c1_1 l1
  go_at_call 16; refine (toI64_si _ G _ (V1.out.below H2.out (Nat.le_refl _)) (by omega)).mono ?_; rintro e w3 ⟨q1v, rfl, i, b⟩
  have F3_3 := Lib.hid (II.wide' (lo' := w2.heap.size) i (Below.refl w2.heap.size w2).size)
  clear i
  have bz := b
  have F3_1 := Lib.hid (F2_1.out.keep bz F2_1.out.lt)
  have F3_2 := Lib.hid (F2_2.out.below bz (Nat.le_refl _))
  have z3 : w2.heap.size ≤ w3.heap.size := bz.size
  have H3 := Lib.hid (H2.out.trans (bz.mono H2.out.size))
  clear b bz F2_1 F2_2 H2
  obtain ⟨c1_0, c1_1⟩ := F3_1.out
  have l1 := F3_1.out.lt
  go_wp2_with fail
  clear c1_0 c1_1 l1
  go_at_call 14; refine (specUnitsOf_any _ F _ G _ F3_2.out.fv F3_3.out.il o0 o1).mono ?_; rintro e w4 ⟨w0v, rfl, i0, b⟩
  have F4_4 := Lib.hid (II.wide' (lo' := w3.heap.size) i0 (Below.refl w3.heap.size w3).size)
  clear i0
  have bz := b
  have F4_1 := Lib.hid (F3_1.out.keep bz F3_1.out.lt)
  have z4 : w3.heap.size ≤ w4.heap.size := bz.size
  have H4 := Lib.hid (H3.out.trans (bz.mono H3.out.size))
  clear b bz F3_1 F3_2 F3_3 H3
  obtain ⟨c1_0, c1_1⟩ := F4_1.out
  have l1 := F4_1.out.lt
  go_wp2_with fail
  clear c1_0 c1_1 l1
  go_at_call 15; refine (toForm_any _ F _ (V0.out.below H4.out (Nat.le_refl _)) (by omega)).mono ?_; rintro e w5 ⟨x0v, rfl, i, b⟩
  obtain ⟨x0c1, x0ck1, rfl⟩ := i.split
  have F5_5 := Lib.hid (FmD.wide (lo' := w4.heap.size) i (Below.refl w4.heap.size w4).size)
  clear i
  have bz := b
  have F5_1 := Lib.hid (F4_1.out.keep bz F4_1.out.lt)
  have F5_4 := Lib.hid (F4_4.out.below' bz (Nat.le_refl _))
  have z5 : w4.heap.size ≤ w5.heap.size := bz.size
  have H5 := Lib.hid (H4.out.trans (bz.mono H4.out.size))
  clear b bz F4_1 F4_4 H4
  have F5_6 := Lib.hid (Box2.mk' w5 (.int .i64 F.letters) (.slice x0c1 F.cs.length x0ck1) 29)
  obtain ⟨c1_0, c1_1⟩ := F5_1.out
  have l1 := F5_1.out.lt
  go_wp2_with fail
  clear c1_0 c1_1 l1
  go_at_call 16; refine (toI64_si _ G _ (V1.out.below (H5.out.trans ((below_alloc w5 _).mono H5.out.size)) (Nat.le_refl _)) (by omega)).mono ?_; rintro e w6 ⟨x1v, rfl, i, b⟩
  obtain ⟨x1a, x1c, rfl⟩ := II.len' i
  have F6_7 := Lib.hid (II.wide' (lo' := (w5.heap.size + 1)) i (by simp))
  clear i
  have bz := (below_alloc w5 _).trans (b.mono (below_alloc w5 _).size)
  have F6_1 := Lib.hid (F5_1.out.keep bz F5_1.out.lt)
  have F6_4 := Lib.hid (F5_4.out.below' bz (Nat.le_refl _))
  have F6_5 := Lib.hid (F5_5.out.below bz (Nat.le_refl _))
  have F6_6 := Lib.hid (F5_6.out.keep b F5_6.out.lt)
  have lb6 : w5.heap.size < w6.heap.size := F6_6.out.lt
  have z6 : w5.heap.size ≤ w6.heap.size := bz.size
  have H6 := Lib.hid (H5.out.trans (bz.mono H5.out.size))
  clear b bz F5_1 F5_4 F5_5 F5_6 H5
  obtain ⟨c1_0, c1_1⟩ := F6_1.out
  have l1 := F6_1.out.lt
  obtain ⟨c6_0, c6_1⟩ := F6_6.out
  have l6 := F6_6.out.lt
  go_wp2_with fail
  clear c1_0 c1_1 l1 c6_0 c6_1 l6
  go_at_call 17; refine (implUnitsOf_any _ F _ G _ F6_5.out.fv F6_7.out.il o0 o1).mono ?_; rintro e w7 ⟨g0v, rfl, i0, b⟩
  have F7_8 := Lib.hid (II.wide' (lo' := w6.heap.size) i0 (Below.refl w6.heap.size w6).size)
  clear i0
  have bz := b
  have F7_1 := Lib.hid (F6_1.out.keep bz F6_1.out.lt)
  have F7_4 := Lib.hid (F6_4.out.below' bz (Nat.le_refl _))
  have F7_5 := Lib.hid (F6_5.out.below bz (Nat.le_refl _))
  have F7_6 := Lib.hid (F6_6.out.keep bz F6_6.out.lt)
  have F7_7 := Lib.hid (F6_7.out.below' bz (Nat.le_refl _))
  have z7 : w6.heap.size ≤ w7.heap.size := bz.size
  have H7 := Lib.hid (H6.out.trans (bz.mono H6.out.size))
  clear b bz F6_1 F6_4 F6_5 F6_6 F6_7 H6
  obtain ⟨c1_0, c1_1⟩ := F7_1.out
  have l1 := F7_1.out.lt
  obtain ⟨c6_0, c6_1⟩ := F7_6.out
  have l6 := F7_6.out.lt
  go_wp2_with fail
  clear c1_0 c1_1 l1 c6_0 c6_1 l6
  go_at_call 18; refine (eqI64_says _ _ (unF F G) _ (unF_len F G) F7_8.out.il F7_4.out.il).mono ?_; rintro e w8 ⟨rfl, b⟩
  have bz := b
  have F8_1 := Lib.hid (F7_1.out.keep bz F7_1.out.lt)
  have F8_4 := Lib.hid (F7_4.out.below' bz (Nat.le_refl _))
  have F8_5 := Lib.hid (F7_5.out.below bz (Nat.le_refl _))
  have F8_6 := Lib.hid (F7_6.out.keep bz F7_6.out.lt)
  have F8_7 := Lib.hid (F7_7.out.below' bz (Nat.le_refl _))
  have F8_8 := Lib.hid (F7_8.out.below' bz (Nat.le_refl _))
  have z8 : w7.heap.size ≤ w8.heap.size := bz.size
  have H8 := Lib.hid (H7.out.trans (bz.mono H7.out.size))
  clear b bz F7_1 F7_4 F7_5 F7_6 F7_7 F7_8 H7
  obtain ⟨c1_0, c1_1⟩ := F8_1.out
  have l1 := F8_1.out.lt
  obtain ⟨c6_0, c6_1⟩ := F8_6.out
  have l6 := F8_6.out.lt
  go_upto_region 13 with fail
  clear c1_0 c1_1 l1 c6_0 c6_1 l6
  go_cut [66] (fun s wx => s = .bool false ∧ Hid ((Below w.heap.size w wx) ∧ (w8.heap.size ≤ wx.heap.size) ∧ (Box2 wx w.heap.size (.int .i64 F.letters) (s01)) ∧ (II w3.heap.size w4.heap.size wx w0v (unF F G)) ∧ (FmD w4.heap.size w5.heap.size wx ((.agg #[.int .i64 F.letters, .slice x0c1 F.cs.length x0ck1])) F) ∧ (Box2 wx w5.heap.size (.int .i64 F.letters) (.slice x0c1 F.cs.length x0ck1)) ∧ (II (w5.heap.size + 1) w6.heap.size wx ((.slice x1a G.length x1c)) G) ∧ (II w6.heap.size w7.heap.size wx g0v (unF F G))))
  case first =>
    obtain ⟨c1_0, c1_1⟩ := F8_1.out
    have l1 := F8_1.out.lt
    obtain ⟨c6_0, c6_1⟩ := F8_6.out
    have l6 := F8_6.out.lt
    go_region_with (first | (go_at_call 15; refine (toForm_any _ F _ (V0.out.below (show Below w.heap.size w w8.drew from below_drewN H8.out 1) (Nat.le_refl _)) (by omega)).mono ?_; rintro e wy ⟨tv, rfl, i, b⟩; have bz := (below_drewN (Below.refl w8.heap.size w8) 1).trans b; have HH := Lib.hid (H8.out.trans (bz.mono H8.out.size)); have zz := bz.size; have Y1 := Lib.hid (F8_1.out.keep bz F8_1.out.lt); obtain ⟨e1_0, e1_1⟩ := Y1.out; have m1 := Y1.out.lt; have Y4 := Lib.hid (F8_4.out.below' bz (Nat.le_refl _)); have Y5 := Lib.hid (F8_5.out.below bz (Nat.le_refl _)); have Y6 := Lib.hid (F8_6.out.keep bz F8_6.out.lt); obtain ⟨e6_0, e6_1⟩ := Y6.out; have m6 := Y6.out.lt; have Y7 := Lib.hid (F8_7.out.below' bz (Nat.le_refl _)); have Y8 := Lib.hid (F8_8.out.below' bz (Nat.le_refl _)); have TT := Lib.hid i.fv; clear i b bz) | (go_at_call 19; refine (eqForm_any _ _ F _ (by omega) Y5.out.fv TT.out).mono ?_; rintro e wz ⟨rfl, b⟩; have H2 := Lib.hid (HH.out.trans (b.mono HH.out.size)); have zy := b.size; have U1 := Lib.hid (Y1.out.keep b Y1.out.lt); have U4 := Lib.hid (Y4.out.below' b (Nat.le_refl _)); have U5 := Lib.hid (Y5.out.below b (Nat.le_refl _)); have U6 := Lib.hid (Y6.out.keep b Y6.out.lt); have U7 := Lib.hid (Y7.out.below' b (Nat.le_refl _)); have U8 := Lib.hid (Y8.out.below' b (Nat.le_refl _)); clear b))
    all_goals
      go_wp2_with fail
      go_meet
      exact ⟨rfl, Lib.hid ⟨H2.out, Nat.le_trans zz zy, U1.out, U4.out, U5.out, U6.out, U7.out, U8.out⟩⟩
  case rest =>
    obtain ⟨w9, rfl⟩ : ∃ x : World, x = wc := ⟨_, rfl⟩
    obtain ⟨rfl, hcc⟩ := hcut
    obtain ⟨hH, z9, f1, f4, f5, f6, f7, f8⟩ := hcc.out
    have H9 := Lib.hid hH
    have F9_1 := Lib.hid f1
    have F9_4 := Lib.hid f4
    have F9_5 := Lib.hid f5
    have F9_6 := Lib.hid f6
    have F9_7 := Lib.hid f7
    have F9_8 := Lib.hid f8
    clear hcc hH f1 F8_1 f4 F8_4 f5 F8_5 f6 F8_6 f7 F8_7 f8 F8_8 H8
    obtain ⟨c1_0, c1_1⟩ := F9_1.out
    have l1 := F9_1.out.lt
    obtain ⟨c6_0, c6_1⟩ := F9_6.out
    have l6 := F9_6.out.lt
    go_wp2_with fail
    clear c1_0 c1_1 l1 c6_0 c6_1 l6
    go_at_call 16; refine (toI64_si _ G _ (V1.out.below H9.out (Nat.le_refl _)) (by omega)).mono ?_; rintro e w10 ⟨tv, rfl, i, b⟩
    have F10_9 := Lib.hid (II.wide' (lo' := w9.heap.size) i (Below.refl w9.heap.size w9).size)
    clear i
    have bz := b
    have F10_1 := Lib.hid (F9_1.out.keep bz F9_1.out.lt)
    have F10_4 := Lib.hid (F9_4.out.below' bz (Nat.le_refl _))
    have F10_5 := Lib.hid (F9_5.out.below bz (Nat.le_refl _))
    have F10_6 := Lib.hid (F9_6.out.keep bz F9_6.out.lt)
    have F10_7 := Lib.hid (F9_7.out.below' bz (Nat.le_refl _))
    have F10_8 := Lib.hid (F9_8.out.below' bz (Nat.le_refl _))
    have z10 : w9.heap.size ≤ w10.heap.size := bz.size
    have H10 := Lib.hid (H9.out.trans (bz.mono H9.out.size))
    clear b bz F9_1 F9_4 F9_5 F9_6 F9_7 F9_8 H9
    obtain ⟨c1_0, c1_1⟩ := F10_1.out
    have l1 := F10_1.out.lt
    obtain ⟨c6_0, c6_1⟩ := F10_6.out
    have l6 := F10_6.out.lt
    go_wp2_with fail
    clear c1_0 c1_1 l1 c6_0 c6_1 l6
    go_at_call 18; refine (eqI64_says _ _ G _ (by omega) F10_7.out.il F10_9.out.il).mono ?_; rintro e w11 ⟨rfl, b⟩
    have bz := b
    have F11_1 := Lib.hid (F10_1.out.keep bz F10_1.out.lt)
    have F11_4 := Lib.hid (F10_4.out.below' bz (Nat.le_refl _))
    have F11_5 := Lib.hid (F10_5.out.below bz (Nat.le_refl _))
    have F11_6 := Lib.hid (F10_6.out.keep bz F10_6.out.lt)
    have F11_7 := Lib.hid (F10_7.out.below' bz (Nat.le_refl _))
    have F11_8 := Lib.hid (F10_8.out.below' bz (Nat.le_refl _))
    have z11 : w10.heap.size ≤ w11.heap.size := bz.size
    have H11 := Lib.hid (H10.out.trans (bz.mono H10.out.size))
    clear b bz F10_1 F10_4 F10_5 F10_6 F10_7 F10_8 F10_9 H10
    obtain ⟨c1_0, c1_1⟩ := F11_1.out
    have l1 := F11_1.out.lt
    obtain ⟨c6_0, c6_1⟩ := F11_6.out
    have l6 := F11_6.out.lt
    go_wp2_with fail
    clear c1_0 c1_1 l1 c6_0 c6_1 l6
    go_at_call 20; refine (markForm_any w4.heap.size w5.heap.size _ F 1 _ F11_5.out (by omega) (by omega) (by omega)).mono ?_; rintro e w12 ⟨rfl, i, t⟩
    have G12_5 := Lib.hid i
    clear i
    have F12_1 := Lib.hid (F11_1.out.kept t (by omega))
    have F12_4 := Lib.hid (F11_4.out.kept' t (by omega))
    have F12_6 := Lib.hid (F11_6.out.kept t (by omega))
    have F12_7 := Lib.hid (F11_7.out.kept' t (by omega))
    have F12_8 := Lib.hid (F11_8.out.kept' t (by omega))
    have z12 : w11.heap.size ≤ w12.heap.size := t.size
    have H12 := Lib.hid (H11.out.trans ((t.below (by omega)).mono (by omega)))
    clear t F11_1 F11_4 F11_5 F11_6 F11_7 F11_8 H11
    clear G12_5
    have hk12 : decide (1 + (((totAt F.cs F.cs.length) : Nat) : Int) < 0) = false := by simp; omega
    obtain ⟨c1_0, c1_1⟩ := F12_1.out
    have l1 := F12_1.out.lt
    obtain ⟨c6_0, c6_1⟩ := F12_6.out
    have l6 := F12_6.out.lt
    go_wp2_with fail
    clear c1_0 c1_1 l1 c6_0 c6_1 l6
    go_at_call 21; refine (markI64_any (w5.heap.size + 1) w6.heap.size _ G (1 + ((totAt F.cs F.cs.length) : Nat)) _ F12_7.out (by omega) (by omega) (by omega)).mono ?_; rintro e w13 ⟨rfl, i, t⟩
    have G13_7 := Lib.hid i
    clear i
    have F13_1 := Lib.hid (F12_1.out.kept t (by omega))
    have F13_4 := Lib.hid (F12_4.out.kept' t (by omega))
    have F13_6 := Lib.hid (F12_6.out.kept t (by omega))
    have F13_8 := Lib.hid (F12_8.out.kept' t (by omega))
    have z13 : w12.heap.size ≤ w13.heap.size := t.size
    have H13 := Lib.hid (H12.out.trans ((t.below (by omega)).mono (by omega)))
    clear t F12_1 F12_4 F12_6 F12_7 F12_8 H12
    clear G13_7
    have hk13 : decide (1 + ((totAt F.cs F.cs.length) : Nat) + ((G.length : Nat) : Int) < 0) = false := by simp; omega
    obtain ⟨c1_0, c1_1⟩ := F13_1.out
    have l1 := F13_1.out.lt
    obtain ⟨c6_0, c6_1⟩ := F13_6.out
    have l6 := F13_6.out.lt
    go_wp2_with fail
    clear c1_0 c1_1 l1 c6_0 c6_1 l6
    go_at_call 18; refine (eqI64_says _ _ (unF F G) _ (unF_len F G) F13_8.out.il F13_4.out.il).mono ?_; rintro e w14 ⟨rfl, b⟩
    have bz := b
    have F14_1 := Lib.hid (F13_1.out.keep bz F13_1.out.lt)
    have F14_4 := Lib.hid (F13_4.out.below' bz (Nat.le_refl _))
    have F14_6 := Lib.hid (F13_6.out.keep bz F13_6.out.lt)
    have F14_8 := Lib.hid (F13_8.out.below' bz (Nat.le_refl _))
    have z14 : w13.heap.size ≤ w14.heap.size := bz.size
    have H14 := Lib.hid (H13.out.trans (bz.mono H13.out.size))
    clear b bz F13_1 F13_4 F13_6 F13_8 H13
    obtain ⟨c1_0, c1_1⟩ := F14_1.out
    have l1 := F14_1.out.lt
    obtain ⟨c6_0, c6_1⟩ := F14_6.out
    have l6 := F14_6.out.lt
    go_wp2_with fail
    clear c1_0 c1_1 l1 c6_0 c6_1 l6
    go_at_call 21; refine (markI64_any w6.heap.size w7.heap.size _ (unF F G) 1 _ F14_8.out (unF_len F G) (by omega) (by omega)).mono ?_; rintro e w15 ⟨rfl, i, t⟩
    have G15_8 := Lib.hid i
    clear i
    have F15_1 := Lib.hid (F14_1.out.kept t (by omega))
    have F15_4 := Lib.hid (F14_4.out.kept' t (by omega))
    have F15_6 := Lib.hid (F14_6.out.kept t (by omega))
    have z15 : w14.heap.size ≤ w15.heap.size := t.size
    have H15 := Lib.hid (H14.out.trans ((t.below (by omega)).mono (by omega)))
    clear t F14_1 F14_4 F14_6 F14_8 H14
    have hk15 : decide (1 + (((unF F G).length : Nat) : Int) < 0) = false := by simp; omega
    obtain ⟨c1_0, c1_1⟩ := F15_1.out
    have l1 := F15_1.out.lt
    obtain ⟨c6_0, c6_1⟩ := F15_6.out
    have l6 := F15_6.out.lt
    go_wp2_with fail
    clear c1_0 c1_1 l1 c6_0 c6_1 l6
    go_at_call 22; refine (heldI64_says _ 1 ((unF F G)).length _ G15_8.out.il (unF_len F G) (by omega) (by omega)).mono ?_; rintro e w16 ⟨rfl, b⟩
    have bz := b
    have F16_1 := Lib.hid (F15_1.out.keep bz F15_1.out.lt)
    have F16_4 := Lib.hid (F15_4.out.below' bz (Nat.le_refl _))
    have F16_6 := Lib.hid (F15_6.out.keep bz F15_6.out.lt)
    have F16_8 := Lib.hid (G15_8.out.below' bz (Nat.le_refl _))
    have z16 : w15.heap.size ≤ w16.heap.size := bz.size
    have H16 := Lib.hid (H15.out.trans (bz.mono H15.out.size))
    clear b bz F15_1 F15_4 F15_6 G15_8 H15
    obtain ⟨c1_0, c1_1⟩ := F16_1.out
    have l1 := F16_1.out.lt
    obtain ⟨c6_0, c6_1⟩ := F16_6.out
    have l6 := F16_6.out.lt
    go_wp2_with fail
    clear c1_0 c1_1 l1 c6_0 c6_1 l6
    go_at_call 15; refine (toForm_any _ F _ (V0.out.below H16.out (Nat.le_refl _)) (by omega)).mono ?_; rintro e w17 ⟨q0v, rfl, i, b⟩
    have F17_10 := Lib.hid (FmD.wide (lo' := w16.heap.size) i (Below.refl w16.heap.size w16).size)
    clear i
    have bz := b
    have F17_1 := Lib.hid (F16_1.out.keep bz F16_1.out.lt)
    have F17_4 := Lib.hid (F16_4.out.below' bz (Nat.le_refl _))
    have F17_6 := Lib.hid (F16_6.out.keep bz F16_6.out.lt)
    have F17_8 := Lib.hid (F16_8.out.below' bz (Nat.le_refl _))
    have z17 : w16.heap.size ≤ w17.heap.size := bz.size
    have H17 := Lib.hid (H16.out.trans (bz.mono H16.out.size))
    clear b bz F16_1 F16_4 F16_6 F16_8 H16
    obtain ⟨c1_0, c1_1⟩ := F17_1.out
    have l1 := F17_1.out.lt
    obtain ⟨c6_0, c6_1⟩ := F17_6.out
    have l6 := F17_6.out.lt
    go_wp2_with fail
    clear c1_0 c1_1 l1 c6_0 c6_1 l6
    go_at_call 16; refine (toI64_si _ G _ (V1.out.below H17.out (Nat.le_refl _)) (by omega)).mono ?_; rintro e w18 ⟨q1v, rfl, i, b⟩
    have F18_11 := Lib.hid (II.wide' (lo' := w17.heap.size) i (Below.refl w17.heap.size w17).size)
    clear i
    have bz := b
    have F18_1 := Lib.hid (F17_1.out.keep bz F17_1.out.lt)
    have F18_4 := Lib.hid (F17_4.out.below' bz (Nat.le_refl _))
    have F18_6 := Lib.hid (F17_6.out.keep bz F17_6.out.lt)
    have F18_8 := Lib.hid (F17_8.out.below' bz (Nat.le_refl _))
    have F18_10 := Lib.hid (F17_10.out.below bz (Nat.le_refl _))
    have z18 : w17.heap.size ≤ w18.heap.size := bz.size
    have H18 := Lib.hid (H17.out.trans (bz.mono H17.out.size))
    clear b bz F17_1 F17_4 F17_6 F17_8 F17_10 H17
    obtain ⟨c1_0, c1_1⟩ := F18_1.out
    have l1 := F18_1.out.lt
    obtain ⟨c6_0, c6_1⟩ := F18_6.out
    have l6 := F18_6.out.lt
    go_wp2_with fail
    clear c1_0 c1_1 l1 c6_0 c6_1 l6
    go_at_call 17; refine (implUnitsOf_any _ F _ G _ F18_10.out.fv F18_11.out.il o0 o1).mono ?_; rintro e w19 ⟨h0v, rfl, i0, b⟩
    have F19_12 := Lib.hid (II.wide' (lo' := w18.heap.size) i0 (Below.refl w18.heap.size w18).size)
    clear i0
    have bz := b
    have F19_1 := Lib.hid (F18_1.out.keep bz F18_1.out.lt)
    have F19_4 := Lib.hid (F18_4.out.below' bz (Nat.le_refl _))
    have F19_6 := Lib.hid (F18_6.out.keep bz F18_6.out.lt)
    have F19_8 := Lib.hid (F18_8.out.below' bz (Nat.le_refl _))
    have z19 : w18.heap.size ≤ w19.heap.size := bz.size
    have H19 := Lib.hid (H18.out.trans (bz.mono H18.out.size))
    clear b bz F18_1 F18_4 F18_6 F18_8 F18_10 F18_11 H18
    obtain ⟨c1_0, c1_1⟩ := F19_1.out
    have l1 := F19_1.out.lt
    obtain ⟨c6_0, c6_1⟩ := F19_6.out
    have l6 := F19_6.out.lt
    go_wp2_with fail
    clear c1_0 c1_1 l1 c6_0 c6_1 l6
    go_at_call 18; refine (eqI64_says _ _ (unF F G) _ (unF_len F G) F19_12.out.il F19_4.out.il).mono ?_; rintro e w20 ⟨rfl, b⟩
    have bz := b
    have F20_1 := Lib.hid (F19_1.out.keep bz F19_1.out.lt)
    have F20_4 := Lib.hid (F19_4.out.below' bz (Nat.le_refl _))
    have F20_6 := Lib.hid (F19_6.out.keep bz F19_6.out.lt)
    have F20_8 := Lib.hid (F19_8.out.below' bz (Nat.le_refl _))
    have F20_12 := Lib.hid (F19_12.out.below' bz (Nat.le_refl _))
    have z20 : w19.heap.size ≤ w20.heap.size := bz.size
    have H20 := Lib.hid (H19.out.trans (bz.mono H19.out.size))
    clear b bz F19_1 F19_4 F19_6 F19_8 F19_12 H19
    obtain ⟨c1_0, c1_1⟩ := F20_1.out
    have l1 := F20_1.out.lt
    obtain ⟨c6_0, c6_1⟩ := F20_6.out
    have l6 := F20_6.out.lt
    go_wp2_with fail
    clear c1_0 c1_1 l1 c6_0 c6_1 l6
    go_at_call 22; refine (heldI64_says _ 1 ((unF F G)).length _ F20_8.out.il (unF_len F G) (by omega) (by omega)).mono ?_; rintro e w21 ⟨rfl, b⟩
    have bz := b
    have F21_1 := Lib.hid (F20_1.out.keep bz F20_1.out.lt)
    have F21_4 := Lib.hid (F20_4.out.below' bz (Nat.le_refl _))
    have F21_6 := Lib.hid (F20_6.out.keep bz F20_6.out.lt)
    have F21_8 := Lib.hid (F20_8.out.below' bz (Nat.le_refl _))
    have F21_12 := Lib.hid (F20_12.out.below' bz (Nat.le_refl _))
    have z21 : w20.heap.size ≤ w21.heap.size := bz.size
    have H21 := Lib.hid (H20.out.trans (bz.mono H20.out.size))
    clear b bz F20_1 F20_4 F20_6 F20_8 F20_12 H20
    obtain ⟨c1_0, c1_1⟩ := F21_1.out
    have l1 := F21_1.out.lt
    obtain ⟨c6_0, c6_1⟩ := F21_6.out
    have l6 := F21_6.out.lt
    go_wp2_with fail
    clear c1_0 c1_1 l1 c6_0 c6_1 l6
    go_ret
    exact says rfl H21.out
set_option maxRecDepth 100000 in
set_option maxHeartbeats 8000000 in
theorem fnExactUnitsOf_long1 (v0 v1 : Value) (F : Fm) (G : List Int) (w : World) (hv0 : FmV w v0 F) (hv1 : IL w v1 G) (hb : 1048576 < G.length) (hx : G.length ≤ maxLen) :
    Calls Try.prog 3 #[v0, v1] w (Says true w) := by
  unfold maxLen at hx
  have V0 := Lib.hid hv0
  obtain ⟨s01, rfl, -⟩ := hv0
  have V1 := Lib.hid hv1
  obtain ⟨a1, cap1, rfl⟩ := hv1.long
  clear hv1
  have F0_1 := Lib.hid (Box2.mk' w (.int .i64 F.letters) (s01) 24)
  go_enter Try.func3, Try.ntmps3
  go_wp2_with fail
  go_ret
  exact says rfl (below_alloc w _)

set_option maxRecDepth 100000 in
set_option maxHeartbeats 8000000 in
theorem fnExactUnitsOf_size0 (v0 v1 : Value) (F : Fm) (G : List Int) (w : World) (hv0 : FmV w v0 F) (hv1 : IL w v1 G) (hl1 : ¬ 1048576 < G.length) (hb : 1048576 < ((szL F.cs) : Int)) (fx : FitFm F) :
    Calls Try.prog 3 #[v0, v1] w (Says true w) := by
  have V0 := Lib.hid hv0
  obtain ⟨s01, rfl, -⟩ := hv0
  have V1 := Lib.hid hv1
  obtain ⟨a1, cap1, rfl⟩ := hv1.long
  clear hv1
  have F0_1 := Lib.hid (Box2.mk' w (.int .i64 F.letters) (s01) 24)
  have hz : ∀ n : Nat, (0 : Int) ≤ n := fun n => Int.natCast_nonneg n
  go_enter Try.func3, Try.ntmps3
  go_wp2_with fail
  go_at_call 13; refine (szForm_no _ F _ _ (V0.out.below ((Below.refl w.heap.size w).trans ((below_alloc w _).mono (Below.refl w.heap.size w).size)) (Nat.le_refl _)) hb (by omega) (by omega) fx).mono ?_; rintro e w1 ⟨rfl, b⟩
  have bz := (below_alloc w _).trans (b.mono (below_alloc w _).size)
  have F1_1 := Lib.hid (F0_1.out.keep b F0_1.out.lt)
  have lb1 : w.heap.size < w1.heap.size := F1_1.out.lt
  have z1 : w.heap.size ≤ w1.heap.size := bz.size
  have H1 := Lib.hid ((Below.refl w.heap.size w).trans (bz.mono (Below.refl w.heap.size w).size))
  clear b bz F0_1
  obtain ⟨c1_0, c1_1⟩ := F1_1.out
  have l1 := F1_1.out.lt
  go_wp2_with fail
  clear c1_0 c1_1 l1
  go_ret
  exact says rfl H1.out

set_option maxRecDepth 100000 in
set_option maxHeartbeats 8000000 in
theorem fnExactUnitsOf_all (v0 v1 : Value) (F : Fm) (G : List Int) (w : World) (hv0 : FmV w v0 F) (hv1 : IL w v1 G) (f0 : FitFm F) (f1 : FitI G) :
    Calls Try.prog 3 #[v0, v1] w (Says true w) := by
  by_cases hl1 : 1048576 < G.length
  · exact fnExactUnitsOf_long1 v0 v1 F G w hv0 hv1  hl1 f1.1
  by_cases hb0 : 1048576 < ((szL F.cs) : Int)
  · exact fnExactUnitsOf_size0 v0 v1 F G w hv0 hv1 hl1 hb0 f0
  exact fnExactUnitsOf_main v0 v1 F G w hv0 hv1 ⟨by omega, f0⟩ ⟨by omega, f1⟩ (by omega)

theorem Try.own : ownKnob Try.prog.godebug = none := by kernel_rfl
theorem Try.laidOut : laidOutB Try.prog = true := by kernel_rfl
theorem f32_lt {x : Nat} (h : (Lit.float .f32 x).wf = true) : x < 4294967296 := by simpa [Lit.wf] using h
theorem f64_lt {x : Nat} (h : (Lit.float .f64 x).wf = true) : x < 18446744073709551616 := by simpa [Lit.wf] using h
theorem i64_in {x : Int} (h : (Lit.int .i64 x).wf = true) : -9223372036854775808 ≤ x ∧ x ≤ 9223372036854775807 := by
  have h1 : IntKind.i64.min = -9223372036854775808 := by decide
  have h2 : IntKind.i64.max = 9223372036854775807 := by decide
  simp only [Lit.wf, Bool.and_eq_true, decide_eq_true_eq, h1, h2] at h
  exact h

set_option maxRecDepth 100000 in
theorem fnExactUnitsOf_lifted (os : Os) (started : os.Started) (H : Type) (enc : TypeId × Value → H) :
    ReturnsInHanded {} Try.checked os 3 .any (Rows.fnExactUnitsOfSpec.pre6 enc Try.prog Try.f3 [] false) (Rows.fnExactUnitsOfSpec.post enc Try.prog Try.f3 false true false false) := by
  refine Frame.law_lifted (tb := 4) Try.own started (by kernel_rfl) Try.func3
    (ChangeSpec.witness6 (enc := enc) (C := Try.checked) false ⟨#[], #[.agg #[.int .i64 0, .slice none 0 0], .slice none 0 0], []⟩ 8 (by kernel_rfl) (by kernel_rfl) (by kernel_rfl) (by kernel_rfl))
    Try.laidOut (by kernel_rfl) rfl (by kernel_rfl) Try.underlying4 (fun ds hd => ?_) ?_
  · rw [Try.params3] at hd
    match ds, hd with
    | [_, _], _ => exact ⟨rfl, rfl, rfl⟩
  intro W base args ds p hval0 hA0 hlt hsz0
  have hval : ∀ (j : Nat) t v, Try.f3.params[j]? = some t → args[j]? = some v → Value.okWide Try.prog W .any base t v := hval0
  have hA : DataW.TrodAll enc Try.prog W 0 (fun _ => true) true Try.f3.params.toList args.toList ds p := hA0
  have hsz : (DataW.weightsEach Try.prog Try.f3.params.toList ds).all (· ≤ reachBytes) = true := hsz0
  rw [Try.params3] at hA hval hsz
  clear hval0 hA0 hsz0
  obtain ⟨v0, v1, d0, d1, p0, p1, rfl, rfl, rfl, h0, h1⟩ := trodAll_two hA
  obtain ⟨r0, g0, k0⟩ := open_form (hval 0 24 v0 rfl rfl) h0
  obtain ⟨r1, g1, k1⟩ := open_i64s (hval 1 25 v1 rfl rfl) h1
  exact fnExactUnitsOf_all v0 v1 r0 r1 W g0 g1 k0 k1

theorem fnExactUnitsOf_holds : Rows.FnExactUnitsOfSaid :=
  OpenClaim.holds_of_wide 3 Try.f3 rfl rfl rfl rfl rfl rfl rfl ⟨rfl, rfl, rfl, rfl, rfl⟩ rfl rfl rfl rfl rfl (by kernel_rfl) Try.func3 (by kernel_rfl)
    (of_decide_eq_true (by kernel_rfl)) (by unfold Func.isWrapper; first | (rw [if_pos (by decide +kernel)]; kernel_rfl) | (rw [if_neg (by decide +kernel)]; exact ⟨rfl, rfl⟩))
    (fun os started H enc _ => fnExactUnitsOf_lifted os started H enc)
end Go.Proofs.Ytnakpfbeeekmiaa
