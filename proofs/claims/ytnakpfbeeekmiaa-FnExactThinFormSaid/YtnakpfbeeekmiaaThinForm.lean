/- ThinForm answers as its model, for all arguments; it writes into no argument. -/
import Derived.Test.YtnakpfbeeekmiaaFmH
import Derived.Test.YtnakpfbeeekmiaaThS
import Derived.Test.YtnakpfbeeekmiaaThI
import Derived.Test.YtnakpfbeeekmiaaLsG
import Derived.Test.YtnakpfbeeekmiaaIl
import Derived.Deep.RegionWith
import Derived.Deep.DeepCutAuto
import Derived.Test.YtnakpfbeeekmiaaFrame
import Derived.Outline
namespace Go.Proofs.Ytnakpfbeeekmiaa
open Go.ChangeShapes Go.WideShapes Go.ChangeAt Go.RowKit Go.ChangeMaps

set_option maxRecDepth 100000 in
set_option maxHeartbeats 8000000 in
theorem fnExactThinForm_main (v0 : Value) (F : Fm) (w : World) (hv0 : FmV w v0 F) (o0 : OKFm F) (hm : ((szL F.cs) : Int) ≤ (1048576 : Int)) :
    Calls Try.prog 8 #[v0] w (Says true w) := by
  have V0 := Lib.hid hv0
  obtain ⟨s01, rfl, -⟩ := hv0
  have F0_1 := Lib.hid (Box2.mk' w (.int .i64 F.letters) (s01) 24)
  have hs0 := o0.size
  have hmt0 : totAt F.cs F.cs.length ≤ szL F.cs := Nat.le_add_left _ _
  have ht0 : decide (1048576 - ((szL F.cs) : Int) < 0) = false := by simp; omega
  have hmm := hm
  go_enter Try.func8, Try.ntmps8
  go_wp2_with fail
  go_at_call 13; refine (szForm_yes _ F _ _ (V0.out.below ((Below.refl w.heap.size w).trans ((below_alloc w _).mono (Below.refl w.heap.size w).size)) (Nat.le_refl _)) (by omega) (by omega)).mono ?_; rintro e w1 ⟨rfl, b⟩
  have bz := (below_alloc w _).trans (b.mono (below_alloc w _).size)
  have F1_1 := Lib.hid (F0_1.out.keep b F0_1.out.lt)
  have lb1 : w.heap.size < w1.heap.size := F1_1.out.lt
  have z1 : w.heap.size ≤ w1.heap.size := bz.size
  have H1 := Lib.hid ((Below.refl w.heap.size w).trans (bz.mono (Below.refl w.heap.size w).size))
  clear b bz F0_1
  obtain ⟨c1_0, c1_1⟩ := F1_1.out
  have l1 := F1_1.out.lt
  go_wp2_with fail
  clear c1_0 c1_1 l1
  go_at_call 15; refine (toForm_any _ F _ (V0.out.below H1.out (Nat.le_refl _)) (by omega)).mono ?_; rintro e w2 ⟨q0v, rfl, i, b⟩
  have F2_2 := Lib.hid (FmD.wide (lo' := w1.heap.size) i (Below.refl w1.heap.size w1).size)
  clear i
  have bz := b
  have F2_1 := Lib.hid (F1_1.out.keep bz F1_1.out.lt)
  have z2 : w1.heap.size ≤ w2.heap.size := bz.size
  have H2 := Lib.hid (H1.out.trans (bz.mono H1.out.size))
  clear b bz F1_1 H1
  obtain ⟨c1_0, c1_1⟩ := F2_1.out
  have l1 := F2_1.out.lt
  go_wp2_with fail
  clear c1_0 c1_1 l1
  go_at_call 37; refine (specThinForm_any _ F _ F2_2.out.fv o0).mono ?_; rintro e w3 ⟨w0v, rfl, i0, b⟩
  obtain ⟨w0c1, w0ck1, rfl⟩ := i0.split
  have F3_3 := Lib.hid (FmD.wide (lo' := w2.heap.size) i0 (Below.refl w2.heap.size w2).size)
  clear i0
  have bz := b
  have F3_1 := Lib.hid (F2_1.out.keep bz F2_1.out.lt)
  have z3 : w2.heap.size ≤ w3.heap.size := bz.size
  have H3 := Lib.hid (H2.out.trans (bz.mono H2.out.size))
  clear b bz F2_1 F2_2 H2
  have F3_4 := Lib.hid (Box2.mk' w3 (.int .i64 (thinF F).letters) (.slice w0c1 (thinF F).cs.length w0ck1) 29)
  obtain ⟨c1_0, c1_1⟩ := F3_1.out
  have l1 := F3_1.out.lt
  go_wp2_with fail
  clear c1_0 c1_1 l1
  go_at_call 15; refine (toForm_any _ F _ (V0.out.below (H3.out.trans ((below_alloc w3 _).mono H3.out.size)) (Nat.le_refl _)) (by omega)).mono ?_; rintro e w4 ⟨x0v, rfl, i, b⟩
  obtain ⟨x0c1, x0ck1, rfl⟩ := i.split
  have F4_5 := Lib.hid (FmD.wide (lo' := (w3.heap.size + 1)) i (by simp))
  clear i
  have bz := (below_alloc w3 _).trans (b.mono (below_alloc w3 _).size)
  have F4_1 := Lib.hid (F3_1.out.keep bz F3_1.out.lt)
  have F4_3 := Lib.hid (F3_3.out.below bz (Nat.le_refl _))
  have F4_4 := Lib.hid (F3_4.out.keep b F3_4.out.lt)
  have lb4 : w3.heap.size < w4.heap.size := F4_4.out.lt
  have z4 : w3.heap.size ≤ w4.heap.size := bz.size
  have H4 := Lib.hid (H3.out.trans (bz.mono H3.out.size))
  clear b bz F3_1 F3_3 F3_4 H3
  have F4_6 := Lib.hid (Box2.mk' w4 (.int .i64 F.letters) (.slice x0c1 F.cs.length x0ck1) 29)
  obtain ⟨c1_0, c1_1⟩ := F4_1.out
  have l1 := F4_1.out.lt
  obtain ⟨c4_0, c4_1⟩ := F4_4.out
  have l4 := F4_4.out.lt
  go_wp2_with fail
  clear c1_0 c1_1 l1 c4_0 c4_1 l4
  go_at_call 38; refine (implThinForm_any _ F _ (F4_5.out.below (below_alloc w4 _) (Nat.le_refl _)).fv o0).mono ?_; rintro e w5 ⟨g0v, rfl, i0, b⟩
  obtain ⟨g0c1, g0ck1, rfl⟩ := i0.split
  have F5_7 := Lib.hid (FmD.wide (lo' := (w4.heap.size + 1)) i0 (by simp))
  clear i0
  have bz := (below_alloc w4 _).trans (b.mono (below_alloc w4 _).size)
  have F5_1 := Lib.hid (F4_1.out.keep bz F4_1.out.lt)
  have F5_3 := Lib.hid (F4_3.out.below bz (Nat.le_refl _))
  have F5_4 := Lib.hid (F4_4.out.keep bz F4_4.out.lt)
  have F5_5 := Lib.hid (F4_5.out.below bz (Nat.le_refl _))
  have F5_6 := Lib.hid (F4_6.out.keep b F4_6.out.lt)
  have lb6 : w4.heap.size < w5.heap.size := F5_6.out.lt
  have z5 : w4.heap.size ≤ w5.heap.size := bz.size
  have H5 := Lib.hid (H4.out.trans (bz.mono H4.out.size))
  clear b bz F4_1 F4_3 F4_4 F4_5 F4_6 H4
  have F5_8 := Lib.hid (Box2.mk' w5 (.int .i64 (thinF F).letters) (.slice g0c1 (thinF F).cs.length g0ck1) 29)
  obtain ⟨c1_0, c1_1⟩ := F5_1.out
  have l1 := F5_1.out.lt
  obtain ⟨c4_0, c4_1⟩ := F5_4.out
  have l4 := F5_4.out.lt
  obtain ⟨c6_0, c6_1⟩ := F5_6.out
  have l6 := F5_6.out.lt
  go_wp2_with fail
  clear c1_0 c1_1 l1 c4_0 c4_1 l4 c6_0 c6_1 l6
  go_at_call 19; refine (eqForm_any _ _ (thinF F) _ (thinF_len F) (F5_7.out.below (below_alloc w5 _) (Nat.le_refl _)).fv (F5_3.out.below (below_alloc w5 _) (Nat.le_refl _)).fv).mono ?_; rintro e w6 ⟨rfl, b⟩
  have bz := (below_alloc w5 _).trans (b.mono (below_alloc w5 _).size)
  have F6_1 := Lib.hid (F5_1.out.keep bz F5_1.out.lt)
  have F6_3 := Lib.hid (F5_3.out.below bz (Nat.le_refl _))
  have F6_4 := Lib.hid (F5_4.out.keep bz F5_4.out.lt)
  have F6_5 := Lib.hid (F5_5.out.below bz (Nat.le_refl _))
  have F6_6 := Lib.hid (F5_6.out.keep bz F5_6.out.lt)
  have F6_7 := Lib.hid (F5_7.out.below bz (Nat.le_refl _))
  have F6_8 := Lib.hid (F5_8.out.keep b F5_8.out.lt)
  have lb8 : w5.heap.size < w6.heap.size := F6_8.out.lt
  have z6 : w5.heap.size ≤ w6.heap.size := bz.size
  have H6 := Lib.hid (H5.out.trans (bz.mono H5.out.size))
  clear b bz F5_1 F5_3 F5_4 F5_5 F5_6 F5_7 F5_8 H5
  obtain ⟨c1_0, c1_1⟩ := F6_1.out
  have l1 := F6_1.out.lt
  obtain ⟨c4_0, c4_1⟩ := F6_4.out
  have l4 := F6_4.out.lt
  obtain ⟨c6_0, c6_1⟩ := F6_6.out
  have l6 := F6_6.out.lt
  obtain ⟨c8_0, c8_1⟩ := F6_8.out
  have l8 := F6_8.out.lt
  go_upto_region 10 with fail
  clear c1_0 c1_1 l1 c4_0 c4_1 l4 c6_0 c6_1 l6 c8_0 c8_1 l8
  go_cut [45] (fun s wx => s = .bool false ∧ Hid ((Below w.heap.size w wx) ∧ (w6.heap.size ≤ wx.heap.size) ∧ (Box2 wx w.heap.size (.int .i64 F.letters) (s01)) ∧ (FmD w2.heap.size w3.heap.size wx ((.agg #[.int .i64 (thinF F).letters, .slice w0c1 (thinF F).cs.length w0ck1])) (thinF F)) ∧ (Box2 wx w3.heap.size (.int .i64 (thinF F).letters) (.slice w0c1 (thinF F).cs.length w0ck1)) ∧ (FmD (w3.heap.size + 1) w4.heap.size wx ((.agg #[.int .i64 F.letters, .slice x0c1 F.cs.length x0ck1])) F) ∧ (Box2 wx w4.heap.size (.int .i64 F.letters) (.slice x0c1 F.cs.length x0ck1)) ∧ (FmD (w4.heap.size + 1) w5.heap.size wx ((.agg #[.int .i64 (thinF F).letters, .slice g0c1 (thinF F).cs.length g0ck1])) (thinF F)) ∧ (Box2 wx w5.heap.size (.int .i64 (thinF F).letters) (.slice g0c1 (thinF F).cs.length g0ck1))))
  case first =>
    obtain ⟨c1_0, c1_1⟩ := F6_1.out
    have l1 := F6_1.out.lt
    obtain ⟨c4_0, c4_1⟩ := F6_4.out
    have l4 := F6_4.out.lt
    obtain ⟨c6_0, c6_1⟩ := F6_6.out
    have l6 := F6_6.out.lt
    obtain ⟨c8_0, c8_1⟩ := F6_8.out
    have l8 := F6_8.out.lt
    go_region_with (first | (go_at_call 15; refine (toForm_any _ F _ (V0.out.below (show Below w.heap.size w w6.drew from below_drewN H6.out 1) (Nat.le_refl _)) (by omega)).mono ?_; rintro e wy ⟨tv, rfl, i, b⟩; have bz := (below_drewN (Below.refl w6.heap.size w6) 1).trans b; have HH := Lib.hid (H6.out.trans (bz.mono H6.out.size)); have zz := bz.size; have Y1 := Lib.hid (F6_1.out.keep bz F6_1.out.lt); obtain ⟨e1_0, e1_1⟩ := Y1.out; have m1 := Y1.out.lt; have Y3 := Lib.hid (F6_3.out.below bz (Nat.le_refl _)); have Y4 := Lib.hid (F6_4.out.keep bz F6_4.out.lt); obtain ⟨e4_0, e4_1⟩ := Y4.out; have m4 := Y4.out.lt; have Y5 := Lib.hid (F6_5.out.below bz (Nat.le_refl _)); have Y6 := Lib.hid (F6_6.out.keep bz F6_6.out.lt); obtain ⟨e6_0, e6_1⟩ := Y6.out; have m6 := Y6.out.lt; have Y7 := Lib.hid (F6_7.out.below bz (Nat.le_refl _)); have Y8 := Lib.hid (F6_8.out.keep bz F6_8.out.lt); obtain ⟨e8_0, e8_1⟩ := Y8.out; have m8 := Y8.out.lt; have TT := Lib.hid i.fv; clear i b bz) | (go_at_call 19; refine (eqForm_any _ _ F _ (by omega) Y5.out.fv TT.out).mono ?_; rintro e wz ⟨rfl, b⟩; have H2 := Lib.hid (HH.out.trans (b.mono HH.out.size)); have zy := b.size; have U1 := Lib.hid (Y1.out.keep b Y1.out.lt); have U3 := Lib.hid (Y3.out.below b (Nat.le_refl _)); have U4 := Lib.hid (Y4.out.keep b Y4.out.lt); have U5 := Lib.hid (Y5.out.below b (Nat.le_refl _)); have U6 := Lib.hid (Y6.out.keep b Y6.out.lt); have U7 := Lib.hid (Y7.out.below b (Nat.le_refl _)); have U8 := Lib.hid (Y8.out.keep b Y8.out.lt); clear b))
    all_goals
      go_wp2_with fail
      go_meet
      exact ⟨rfl, Lib.hid ⟨H2.out, Nat.le_trans zz zy, U1.out, U3.out, U4.out, U5.out, U6.out, U7.out, U8.out⟩⟩
  case rest =>
    obtain ⟨w7, rfl⟩ : ∃ x : World, x = wc := ⟨_, rfl⟩
    obtain ⟨rfl, hcc⟩ := hcut
    obtain ⟨hH, z7, f1, f3, f4, f5, f6, f7, f8⟩ := hcc.out
    have H7 := Lib.hid hH
    have F7_1 := Lib.hid f1
    have F7_3 := Lib.hid f3
    have F7_4 := Lib.hid f4
    have F7_5 := Lib.hid f5
    have F7_6 := Lib.hid f6
    have F7_7 := Lib.hid f7
    have F7_8 := Lib.hid f8
    clear hcc hH f1 F6_1 f3 F6_3 f4 F6_4 f5 F6_5 f6 F6_6 f7 F6_7 f8 F6_8 H6
    obtain ⟨c1_0, c1_1⟩ := F7_1.out
    have l1 := F7_1.out.lt
    obtain ⟨c4_0, c4_1⟩ := F7_4.out
    have l4 := F7_4.out.lt
    obtain ⟨c6_0, c6_1⟩ := F7_6.out
    have l6 := F7_6.out.lt
    obtain ⟨c8_0, c8_1⟩ := F7_8.out
    have l8 := F7_8.out.lt
    go_wp2_with fail
    clear c1_0 c1_1 l1 c4_0 c4_1 l4 c6_0 c6_1 l6 c8_0 c8_1 l8
    go_at_call 20; refine (markForm_any (w3.heap.size + 1) w4.heap.size _ F 1 _ F7_5.out (by omega) (by omega) (by omega)).mono ?_; rintro e w8 ⟨rfl, i, t⟩
    have G8_5 := Lib.hid i
    clear i
    have F8_1 := Lib.hid (F7_1.out.kept t (by omega))
    have F8_3 := Lib.hid (F7_3.out.kept t (by omega))
    have F8_4 := Lib.hid (F7_4.out.kept t (by omega))
    have F8_6 := Lib.hid (F7_6.out.kept t (by omega))
    have F8_7 := Lib.hid (F7_7.out.kept t (by omega))
    have F8_8 := Lib.hid (F7_8.out.kept t (by omega))
    have z8 : w7.heap.size ≤ w8.heap.size := t.size
    have H8 := Lib.hid (H7.out.trans ((t.below (by omega)).mono (by omega)))
    clear t F7_1 F7_3 F7_4 F7_5 F7_6 F7_7 F7_8 H7
    clear G8_5
    have hk8 : decide (1 + (((totAt F.cs F.cs.length) : Nat) : Int) < 0) = false := by simp; omega
    obtain ⟨c1_0, c1_1⟩ := F8_1.out
    have l1 := F8_1.out.lt
    obtain ⟨c4_0, c4_1⟩ := F8_4.out
    have l4 := F8_4.out.lt
    obtain ⟨c6_0, c6_1⟩ := F8_6.out
    have l6 := F8_6.out.lt
    obtain ⟨c8_0, c8_1⟩ := F8_8.out
    have l8 := F8_8.out.lt
    go_wp2_with fail
    clear c1_0 c1_1 l1 c4_0 c4_1 l4 c6_0 c6_1 l6 c8_0 c8_1 l8
    go_at_call 19; refine (eqForm_any _ _ (thinF F) _ (thinF_len F) F8_7.out.fv F8_3.out.fv).mono ?_; rintro e w9 ⟨rfl, b⟩
    have bz := b
    have F9_1 := Lib.hid (F8_1.out.keep bz F8_1.out.lt)
    have F9_3 := Lib.hid (F8_3.out.below bz (Nat.le_refl _))
    have F9_4 := Lib.hid (F8_4.out.keep bz F8_4.out.lt)
    have F9_6 := Lib.hid (F8_6.out.keep bz F8_6.out.lt)
    have F9_7 := Lib.hid (F8_7.out.below bz (Nat.le_refl _))
    have F9_8 := Lib.hid (F8_8.out.keep bz F8_8.out.lt)
    have z9 : w8.heap.size ≤ w9.heap.size := bz.size
    have H9 := Lib.hid (H8.out.trans (bz.mono H8.out.size))
    clear b bz F8_1 F8_3 F8_4 F8_6 F8_7 F8_8 H8
    obtain ⟨c1_0, c1_1⟩ := F9_1.out
    have l1 := F9_1.out.lt
    obtain ⟨c4_0, c4_1⟩ := F9_4.out
    have l4 := F9_4.out.lt
    obtain ⟨c6_0, c6_1⟩ := F9_6.out
    have l6 := F9_6.out.lt
    obtain ⟨c8_0, c8_1⟩ := F9_8.out
    have l8 := F9_8.out.lt
    go_wp2_with fail
    clear c1_0 c1_1 l1 c4_0 c4_1 l4 c6_0 c6_1 l6 c8_0 c8_1 l8
    go_at_call 20; refine (markForm_any (w4.heap.size + 1) w5.heap.size _ (thinF F) 1 _ F9_7.out (thinF_len F) (by omega) (by omega)).mono ?_; rintro e w10 ⟨rfl, i, t⟩
    have G10_7 := Lib.hid i
    clear i
    have F10_1 := Lib.hid (F9_1.out.kept t (by omega))
    have F10_3 := Lib.hid (F9_3.out.kept t (by omega))
    have F10_4 := Lib.hid (F9_4.out.kept t (by omega))
    have F10_6 := Lib.hid (F9_6.out.kept t (by omega))
    have F10_8 := Lib.hid (F9_8.out.kept t (by omega))
    have z10 : w9.heap.size ≤ w10.heap.size := t.size
    have H10 := Lib.hid (H9.out.trans ((t.below (by omega)).mono (by omega)))
    clear t F9_1 F9_3 F9_4 F9_6 F9_7 F9_8 H9
    have hk10 : decide (1 + (((totAt (thinF F).cs (thinF F).cs.length) : Nat) : Int) < 0) = false := by simp; omega
    obtain ⟨c1_0, c1_1⟩ := F10_1.out
    have l1 := F10_1.out.lt
    obtain ⟨c4_0, c4_1⟩ := F10_4.out
    have l4 := F10_4.out.lt
    obtain ⟨c6_0, c6_1⟩ := F10_6.out
    have l6 := F10_6.out.lt
    obtain ⟨c8_0, c8_1⟩ := F10_8.out
    have l8 := F10_8.out.lt
    go_wp2_with fail
    clear c1_0 c1_1 l1 c4_0 c4_1 l4 c6_0 c6_1 l6 c8_0 c8_1 l8
    go_at_call 36; refine (heldForm_any _ 1 ((thinF F)) _ G10_7.out.fv (thinF_len F) (by omega) (by omega)).mono ?_; rintro e w11 ⟨rfl, b⟩
    have bz := b
    have F11_1 := Lib.hid (F10_1.out.keep bz F10_1.out.lt)
    have F11_3 := Lib.hid (F10_3.out.below bz (Nat.le_refl _))
    have F11_4 := Lib.hid (F10_4.out.keep bz F10_4.out.lt)
    have F11_6 := Lib.hid (F10_6.out.keep bz F10_6.out.lt)
    have F11_8 := Lib.hid (F10_8.out.keep bz F10_8.out.lt)
    have F11_7 := Lib.hid (G10_7.out.below bz (Nat.le_refl _))
    have z11 : w10.heap.size ≤ w11.heap.size := bz.size
    have H11 := Lib.hid (H10.out.trans (bz.mono H10.out.size))
    clear b bz F10_1 F10_3 F10_4 F10_6 F10_8 G10_7 H10
    obtain ⟨c1_0, c1_1⟩ := F11_1.out
    have l1 := F11_1.out.lt
    obtain ⟨c4_0, c4_1⟩ := F11_4.out
    have l4 := F11_4.out.lt
    obtain ⟨c6_0, c6_1⟩ := F11_6.out
    have l6 := F11_6.out.lt
    obtain ⟨c8_0, c8_1⟩ := F11_8.out
    have l8 := F11_8.out.lt
    go_wp2_with fail
    clear c1_0 c1_1 l1 c4_0 c4_1 l4 c6_0 c6_1 l6 c8_0 c8_1 l8
    go_at_call 15; refine (toForm_any _ F _ (V0.out.below H11.out (Nat.le_refl _)) (by omega)).mono ?_; rintro e w12 ⟨q0v, rfl, i, b⟩
    have F12_9 := Lib.hid (FmD.wide (lo' := w11.heap.size) i (Below.refl w11.heap.size w11).size)
    clear i
    have bz := b
    have F12_1 := Lib.hid (F11_1.out.keep bz F11_1.out.lt)
    have F12_3 := Lib.hid (F11_3.out.below bz (Nat.le_refl _))
    have F12_4 := Lib.hid (F11_4.out.keep bz F11_4.out.lt)
    have F12_6 := Lib.hid (F11_6.out.keep bz F11_6.out.lt)
    have F12_8 := Lib.hid (F11_8.out.keep bz F11_8.out.lt)
    have F12_7 := Lib.hid (F11_7.out.below bz (Nat.le_refl _))
    have z12 : w11.heap.size ≤ w12.heap.size := bz.size
    have H12 := Lib.hid (H11.out.trans (bz.mono H11.out.size))
    clear b bz F11_1 F11_3 F11_4 F11_6 F11_8 F11_7 H11
    obtain ⟨c1_0, c1_1⟩ := F12_1.out
    have l1 := F12_1.out.lt
    obtain ⟨c4_0, c4_1⟩ := F12_4.out
    have l4 := F12_4.out.lt
    obtain ⟨c6_0, c6_1⟩ := F12_6.out
    have l6 := F12_6.out.lt
    obtain ⟨c8_0, c8_1⟩ := F12_8.out
    have l8 := F12_8.out.lt
    go_wp2_with fail
    clear c1_0 c1_1 l1 c4_0 c4_1 l4 c6_0 c6_1 l6 c8_0 c8_1 l8
    go_at_call 38; refine (implThinForm_any _ F _ F12_9.out.fv o0).mono ?_; rintro e w13 ⟨h0v, rfl, i0, b⟩
    obtain ⟨h0c1, h0ck1, rfl⟩ := i0.split
    have F13_10 := Lib.hid (FmD.wide (lo' := w12.heap.size) i0 (Below.refl w12.heap.size w12).size)
    clear i0
    have bz := b
    have F13_1 := Lib.hid (F12_1.out.keep bz F12_1.out.lt)
    have F13_3 := Lib.hid (F12_3.out.below bz (Nat.le_refl _))
    have F13_4 := Lib.hid (F12_4.out.keep bz F12_4.out.lt)
    have F13_6 := Lib.hid (F12_6.out.keep bz F12_6.out.lt)
    have F13_8 := Lib.hid (F12_8.out.keep bz F12_8.out.lt)
    have F13_7 := Lib.hid (F12_7.out.below bz (Nat.le_refl _))
    have z13 : w12.heap.size ≤ w13.heap.size := bz.size
    have H13 := Lib.hid (H12.out.trans (bz.mono H12.out.size))
    clear b bz F12_1 F12_3 F12_4 F12_6 F12_8 F12_7 F12_9 H12
    have F13_11 := Lib.hid (Box2.mk' w13 (.int .i64 (thinF F).letters) (.slice h0c1 (thinF F).cs.length h0ck1) 29)
    obtain ⟨c1_0, c1_1⟩ := F13_1.out
    have l1 := F13_1.out.lt
    obtain ⟨c4_0, c4_1⟩ := F13_4.out
    have l4 := F13_4.out.lt
    obtain ⟨c6_0, c6_1⟩ := F13_6.out
    have l6 := F13_6.out.lt
    obtain ⟨c8_0, c8_1⟩ := F13_8.out
    have l8 := F13_8.out.lt
    go_wp2_with fail
    clear c1_0 c1_1 l1 c4_0 c4_1 l4 c6_0 c6_1 l6 c8_0 c8_1 l8
    go_at_call 19; refine (eqForm_any _ _ (thinF F) _ (thinF_len F) (F13_10.out.below (below_alloc w13 _) (Nat.le_refl _)).fv (F13_3.out.below (below_alloc w13 _) (Nat.le_refl _)).fv).mono ?_; rintro e w14 ⟨rfl, b⟩
    have bz := (below_alloc w13 _).trans (b.mono (below_alloc w13 _).size)
    have F14_1 := Lib.hid (F13_1.out.keep bz F13_1.out.lt)
    have F14_3 := Lib.hid (F13_3.out.below bz (Nat.le_refl _))
    have F14_4 := Lib.hid (F13_4.out.keep bz F13_4.out.lt)
    have F14_6 := Lib.hid (F13_6.out.keep bz F13_6.out.lt)
    have F14_8 := Lib.hid (F13_8.out.keep bz F13_8.out.lt)
    have F14_7 := Lib.hid (F13_7.out.below bz (Nat.le_refl _))
    have F14_10 := Lib.hid (F13_10.out.below bz (Nat.le_refl _))
    have F14_11 := Lib.hid (F13_11.out.keep b F13_11.out.lt)
    have lb11 : w13.heap.size < w14.heap.size := F14_11.out.lt
    have z14 : w13.heap.size ≤ w14.heap.size := bz.size
    have H14 := Lib.hid (H13.out.trans (bz.mono H13.out.size))
    clear b bz F13_1 F13_3 F13_4 F13_6 F13_8 F13_7 F13_10 F13_11 H13
    obtain ⟨c1_0, c1_1⟩ := F14_1.out
    have l1 := F14_1.out.lt
    obtain ⟨c4_0, c4_1⟩ := F14_4.out
    have l4 := F14_4.out.lt
    obtain ⟨c6_0, c6_1⟩ := F14_6.out
    have l6 := F14_6.out.lt
    obtain ⟨c8_0, c8_1⟩ := F14_8.out
    have l8 := F14_8.out.lt
    obtain ⟨c11_0, c11_1⟩ := F14_11.out
    have l11 := F14_11.out.lt
    go_wp2_with fail
    clear c1_0 c1_1 l1 c4_0 c4_1 l4 c6_0 c6_1 l6 c8_0 c8_1 l8 c11_0 c11_1 l11
    go_at_call 36; refine (heldForm_any _ 1 ((thinF F)) _ F14_7.out.fv (thinF_len F) (by omega) (by omega)).mono ?_; rintro e w15 ⟨rfl, b⟩
    have bz := b
    have F15_1 := Lib.hid (F14_1.out.keep bz F14_1.out.lt)
    have F15_3 := Lib.hid (F14_3.out.below bz (Nat.le_refl _))
    have F15_4 := Lib.hid (F14_4.out.keep bz F14_4.out.lt)
    have F15_6 := Lib.hid (F14_6.out.keep bz F14_6.out.lt)
    have F15_8 := Lib.hid (F14_8.out.keep bz F14_8.out.lt)
    have F15_7 := Lib.hid (F14_7.out.below bz (Nat.le_refl _))
    have F15_10 := Lib.hid (F14_10.out.below bz (Nat.le_refl _))
    have F15_11 := Lib.hid (F14_11.out.keep bz F14_11.out.lt)
    have z15 : w14.heap.size ≤ w15.heap.size := bz.size
    have H15 := Lib.hid (H14.out.trans (bz.mono H14.out.size))
    clear b bz F14_1 F14_3 F14_4 F14_6 F14_8 F14_7 F14_10 F14_11 H14
    obtain ⟨c1_0, c1_1⟩ := F15_1.out
    have l1 := F15_1.out.lt
    obtain ⟨c4_0, c4_1⟩ := F15_4.out
    have l4 := F15_4.out.lt
    obtain ⟨c6_0, c6_1⟩ := F15_6.out
    have l6 := F15_6.out.lt
    obtain ⟨c8_0, c8_1⟩ := F15_8.out
    have l8 := F15_8.out.lt
    obtain ⟨c11_0, c11_1⟩ := F15_11.out
    have l11 := F15_11.out.lt
    go_wp2_with fail
    clear c1_0 c1_1 l1 c4_0 c4_1 l4 c6_0 c6_1 l6 c8_0 c8_1 l8 c11_0 c11_1 l11
    go_ret
    exact says rfl H15.out
set_option maxRecDepth 100000 in
set_option maxHeartbeats 8000000 in
theorem fnExactThinForm_size0 (v0 : Value) (F : Fm) (w : World) (hv0 : FmV w v0 F) (hb : 1048576 < ((szL F.cs) : Int)) (fx : FitFm F) :
    Calls Try.prog 8 #[v0] w (Says true w) := by
  have V0 := Lib.hid hv0
  obtain ⟨s01, rfl, -⟩ := hv0
  have F0_1 := Lib.hid (Box2.mk' w (.int .i64 F.letters) (s01) 24)
  have hz : ∀ n : Nat, (0 : Int) ≤ n := fun n => Int.natCast_nonneg n
  go_enter Try.func8, Try.ntmps8
  go_wp2_with fail
  go_at_call 13; refine (szForm_no _ F _ _ (V0.out.below ((Below.refl w.heap.size w).trans ((below_alloc w _).mono (Below.refl w.heap.size w).size)) (Nat.le_refl _)) hb (by omega) (by omega) fx).mono ?_; rintro e w1 ⟨rfl, b⟩
  have bz := (below_alloc w _).trans (b.mono (below_alloc w _).size)
  have F1_1 := Lib.hid (F0_1.out.keep b F0_1.out.lt)
  have lb1 : w.heap.size < w1.heap.size := F1_1.out.lt
  have z1 : w.heap.size ≤ w1.heap.size := bz.size
  have H1 := Lib.hid ((Below.refl w.heap.size w).trans (bz.mono (Below.refl w.heap.size w).size))
  clear b bz F0_1
  obtain ⟨c1_0, c1_1⟩ := F1_1.out
  have l1 := F1_1.out.lt
  go_wp2_with fail
  clear c1_0 c1_1 l1
  go_ret
  exact says rfl H1.out

set_option maxRecDepth 100000 in
set_option maxHeartbeats 8000000 in
theorem fnExactThinForm_all (v0 : Value) (F : Fm) (w : World) (hv0 : FmV w v0 F) (f0 : FitFm F) :
    Calls Try.prog 8 #[v0] w (Says true w) := by
  by_cases hb0 : 1048576 < ((szL F.cs) : Int)
  · exact fnExactThinForm_size0 v0 F w hv0  hb0 f0
  exact fnExactThinForm_main v0 F w hv0 ⟨by omega, f0⟩ (by omega)

theorem Try.own : ownKnob Try.prog.godebug = none := by kernel_rfl
theorem Try.laidOut : laidOutB Try.prog = true := by kernel_rfl
theorem f32_lt {x : Nat} (h : (Lit.float .f32 x).wf = true) : x < 4294967296 := by simpa [Lit.wf] using h
theorem f64_lt {x : Nat} (h : (Lit.float .f64 x).wf = true) : x < 18446744073709551616 := by simpa [Lit.wf] using h
theorem i64_in {x : Int} (h : (Lit.int .i64 x).wf = true) : -9223372036854775808 ≤ x ∧ x ≤ 9223372036854775807 := by
  have h1 : IntKind.i64.min = -9223372036854775808 := by decide
  have h2 : IntKind.i64.max = 9223372036854775807 := by decide
  simp only [Lit.wf, Bool.and_eq_true, decide_eq_true_eq, h1, h2] at h
  exact h

set_option maxRecDepth 100000 in
theorem fnExactThinForm_lifted (os : Os) (started : os.Started) (H : Type) (enc : TypeId × Value → H) :
    ReturnsInHanded {} Try.checked os 8 .any (Rows.fnExactThinFormSpec.pre6 enc Try.prog Try.f8 [] false) (Rows.fnExactThinFormSpec.post enc Try.prog Try.f8 false true false false) := by
  refine Frame.law_lifted (tb := 4) Try.own started (by kernel_rfl) Try.func8
    (ChangeSpec.witness6 (enc := enc) (C := Try.checked) false ⟨#[], #[.agg #[.int .i64 0, .slice none 0 0]], []⟩ 8 (by kernel_rfl) (by kernel_rfl) (by kernel_rfl) (by kernel_rfl))
    Try.laidOut (by kernel_rfl) rfl (by kernel_rfl) Try.underlying4 (fun ds hd => ?_) ?_
  · rw [Try.params8] at hd
    match ds, hd with
    | [_], _ => exact ⟨rfl, rfl, rfl⟩
  intro W base args ds p hval0 hA0 hlt hsz0
  have hval : ∀ (j : Nat) t v, Try.f8.params[j]? = some t → args[j]? = some v → Value.okWide Try.prog W .any base t v := hval0
  have hA : DataW.TrodAll enc Try.prog W 0 (fun _ => true) true Try.f8.params.toList args.toList ds p := hA0
  have hsz : (DataW.weightsEach Try.prog Try.f8.params.toList ds).all (· ≤ reachBytes) = true := hsz0
  rw [Try.params8] at hA hval hsz
  clear hval0 hA0 hsz0
  obtain ⟨v0, d0, rfl, rfl, h0⟩ := trodAll_one hA
  obtain ⟨r0, g0, k0⟩ := open_form (hval 0 24 v0 rfl rfl) h0
  exact fnExactThinForm_all v0 r0 W g0 k0

theorem fnExactThinForm_holds : Rows.FnExactThinFormSaid :=
  OpenClaim.holds_of_wide 8 Try.f8 rfl rfl rfl rfl rfl rfl rfl ⟨rfl, rfl, rfl, rfl, rfl⟩ rfl rfl rfl rfl rfl (by kernel_rfl) Try.func8 (by kernel_rfl)
    (of_decide_eq_true (by kernel_rfl)) (by unfold Func.isWrapper; first | (rw [if_pos (by decide +kernel)]; kernel_rfl) | (rw [if_neg (by decide +kernel)]; exact ⟨rfl, rfl⟩))
    (fun os started H enc _ => fnExactThinForm_lifted os started H enc)
end Go.Proofs.Ytnakpfbeeekmiaa
