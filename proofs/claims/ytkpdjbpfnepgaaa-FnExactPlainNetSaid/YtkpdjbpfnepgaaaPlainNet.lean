/- PlainNet answers as its model, for all arguments; it writes into no argument. -/
import Derived.Test.YtkpdjbpfnepgaaaPlain
import Derived.Test.YtkpdjbpfnepgaaaIl
import Derived.Deep.RegionWith
import Derived.Deep.DeepCutAuto
import Derived.Test.YtkpdjbpfnepgaaaFrame
import Derived.Outline
namespace Go.Proofs.Ytkpdjbpfnepgaaa
open Go.ChangeShapes Go.WideShapes Go.ChangeAt Go.RowKit Go.ChangeMaps

set_option maxRecDepth 100000 in
set_option maxHeartbeats 8000000 in
theorem fnExactPlainNet_main (v1 : Value) (n : Int) (Z : List Ac) (w : World) (hv1 : AV w v1 Z) (o0 : -9223372036854775808 ≤ n ∧ n ≤ 9223372036854775807) (o1 : OKA Z) (hm : (Z.length : Int) ≤ (1048576 : Int)) :
    Calls Try.prog 5 #[.int .i64 n, v1] w (Says true w) := by
  have V1 := Lib.hid hv1
  obtain ⟨a1, cap1, rfl⟩ := hv1.long
  clear hv1
  have hs1 := o1.size
  have ht1 : decide (1048576 - (Z.length : Int) < 0) = false := by simp; omega
  have hmm := hm
  go_enter Try.func5, Try.ntmps5
  go_wp2_with fail
  go_at_call 22; refine (szA_yes _ Z _ _ (V1.out.below (Below.refl w.heap.size w) (Nat.le_refl _)) (by omega) (by omega)).mono ?_; rintro e w1 ⟨rfl, b⟩
  have bz := b
  have z1 : w.heap.size ≤ w1.heap.size := bz.size
  have H1 := Lib.hid ((Below.refl w.heap.size w).trans (bz.mono (Below.refl w.heap.size w).size))
  clear b bz
  go_wp2_with fail
  go_at_call 24; refine (toArcS_any _ Z _ (V1.out.below H1.out (Nat.le_refl _)) (by omega)).mono ?_; rintro e w2 ⟨q1v, rfl, i, b⟩
  have F2_1 := Lib.hid (AI.wide' (lo' := w1.heap.size) i (Below.refl w1.heap.size w1).size)
  clear i
  have bz := b
  have z2 : w1.heap.size ≤ w2.heap.size := bz.size
  have H2 := Lib.hid (H1.out.trans (bz.mono H1.out.size))
  clear b bz H1
  go_wp2_with fail
  go_at_call 23; refine (specPlainNet_any n _ Z _ F2_1.out.av o0 o1).mono ?_; rintro e w3 ⟨w0v, rfl, i0, b⟩
  obtain ⟨w0c1, w0ck1, rfl⟩ := i0.split
  have F3_2 := Lib.hid (ND.wide (lo' := w2.heap.size) i0 (Below.refl w2.heap.size w2).size)
  clear i0
  have bz := b
  have z3 : w2.heap.size ≤ w3.heap.size := bz.size
  have H3 := Lib.hid (H2.out.trans (bz.mono H2.out.size))
  clear b bz F2_1 H2
  have F3_3 := Lib.hid (Box2.mk' w3 (.int .i64 (plainN n Z).nodes) (.slice w0c1 (plainN n Z).arcs.length w0ck1) 29)
  go_wp2_with fail
  go_at_call 24; refine (toArcS_any _ Z _ (V1.out.below (H3.out.trans ((below_alloc w3 _).mono H3.out.size)) (Nat.le_refl _)) (by omega)).mono ?_; rintro e w4 ⟨x1v, rfl, i, b⟩
  obtain ⟨x1a, x1c, rfl⟩ := AI.len' i
  have F4_4 := Lib.hid (AI.wide' (lo' := (w3.heap.size + 1)) i (by simp))
  clear i
  have bz := (below_alloc w3 _).trans (b.mono (below_alloc w3 _).size)
  have F4_2 := Lib.hid (F3_2.out.below bz (Nat.le_refl _))
  have F4_3 := Lib.hid (F3_3.out.keep b F3_3.out.lt)
  have lb3 : w3.heap.size < w4.heap.size := F4_3.out.lt
  have z4 : w3.heap.size ≤ w4.heap.size := bz.size
  have H4 := Lib.hid (H3.out.trans (bz.mono H3.out.size))
  clear b bz F3_2 F3_3 H3
  obtain ⟨c3_0, c3_1⟩ := F4_3.out
  have l3 := F4_3.out.lt
  go_wp2_with fail
  clear c3_0 c3_1 l3
  go_at_call 25; refine (implPlainNet_any n _ Z _ F4_4.out.av o0 o1).mono ?_; rintro e w5 ⟨g0v, rfl, i0, b⟩
  obtain ⟨g0c1, g0ck1, rfl⟩ := i0.split
  have F5_5 := Lib.hid (ND.wide (lo' := w4.heap.size) i0 (Below.refl w4.heap.size w4).size)
  clear i0
  have bz := b
  have F5_2 := Lib.hid (F4_2.out.below bz (Nat.le_refl _))
  have F5_3 := Lib.hid (F4_3.out.keep bz F4_3.out.lt)
  have F5_4 := Lib.hid (F4_4.out.below' bz (Nat.le_refl _))
  have z5 : w4.heap.size ≤ w5.heap.size := bz.size
  have H5 := Lib.hid (H4.out.trans (bz.mono H4.out.size))
  clear b bz F4_2 F4_3 F4_4 H4
  have F5_6 := Lib.hid (Box2.mk' w5 (.int .i64 (plainN n Z).nodes) (.slice g0c1 (plainN n Z).arcs.length g0ck1) 29)
  obtain ⟨c3_0, c3_1⟩ := F5_3.out
  have l3 := F5_3.out.lt
  go_wp2_with fail
  clear c3_0 c3_1 l3
  go_at_call 19; refine (eqNet_any _ _ (plainN n Z) _ (plainN_len n Z) (F5_5.out.below (below_alloc w5 _) (Nat.le_refl _)).nv (F5_2.out.below (below_alloc w5 _) (Nat.le_refl _)).nv).mono ?_; rintro e w6 ⟨rfl, b⟩
  have bz := (below_alloc w5 _).trans (b.mono (below_alloc w5 _).size)
  have F6_2 := Lib.hid (F5_2.out.below bz (Nat.le_refl _))
  have F6_3 := Lib.hid (F5_3.out.keep bz F5_3.out.lt)
  have F6_4 := Lib.hid (F5_4.out.below' bz (Nat.le_refl _))
  have F6_5 := Lib.hid (F5_5.out.below bz (Nat.le_refl _))
  have F6_6 := Lib.hid (F5_6.out.keep b F5_6.out.lt)
  have lb6 : w5.heap.size < w6.heap.size := F6_6.out.lt
  have z6 : w5.heap.size ≤ w6.heap.size := bz.size
  have H6 := Lib.hid (H5.out.trans (bz.mono H5.out.size))
  clear b bz F5_2 F5_3 F5_4 F5_5 F5_6 H5
  obtain ⟨c3_0, c3_1⟩ := F6_3.out
  have l3 := F6_3.out.lt
  obtain ⟨c6_0, c6_1⟩ := F6_6.out
  have l6 := F6_6.out.lt
  go_wp2_with fail
  clear c3_0 c3_1 l3 c6_0 c6_1 l6
  go_at_call 24; refine (toArcS_any _ Z _ (V1.out.below H6.out (Nat.le_refl _)) (by omega)).mono ?_; rintro e w7 ⟨tv, rfl, i, b⟩
  have F7_7 := Lib.hid (AI.wide' (lo' := w6.heap.size) i (Below.refl w6.heap.size w6).size)
  clear i
  have bz := b
  have F7_2 := Lib.hid (F6_2.out.below bz (Nat.le_refl _))
  have F7_3 := Lib.hid (F6_3.out.keep bz F6_3.out.lt)
  have F7_4 := Lib.hid (F6_4.out.below' bz (Nat.le_refl _))
  have F7_5 := Lib.hid (F6_5.out.below bz (Nat.le_refl _))
  have F7_6 := Lib.hid (F6_6.out.keep bz F6_6.out.lt)
  have z7 : w6.heap.size ≤ w7.heap.size := bz.size
  have H7 := Lib.hid (H6.out.trans (bz.mono H6.out.size))
  clear b bz F6_2 F6_3 F6_4 F6_5 F6_6 H6
  obtain ⟨c3_0, c3_1⟩ := F7_3.out
  have l3 := F7_3.out.lt
  obtain ⟨c6_0, c6_1⟩ := F7_6.out
  have l6 := F7_6.out.lt
  go_wp2_with fail
  clear c3_0 c3_1 l3 c6_0 c6_1 l6
  go_at_call 26; refine (eqArcS_any _ _ Z _ (by omega) F7_4.out.av F7_7.out.av).mono ?_; rintro e w8 ⟨rfl, b⟩
  have bz := b
  have F8_2 := Lib.hid (F7_2.out.below bz (Nat.le_refl _))
  have F8_3 := Lib.hid (F7_3.out.keep bz F7_3.out.lt)
  have F8_4 := Lib.hid (F7_4.out.below' bz (Nat.le_refl _))
  have F8_5 := Lib.hid (F7_5.out.below bz (Nat.le_refl _))
  have F8_6 := Lib.hid (F7_6.out.keep bz F7_6.out.lt)
  have z8 : w7.heap.size ≤ w8.heap.size := bz.size
  have H8 := Lib.hid (H7.out.trans (bz.mono H7.out.size))
  clear b bz F7_2 F7_3 F7_4 F7_5 F7_6 F7_7 H7
  obtain ⟨c3_0, c3_1⟩ := F8_3.out
  have l3 := F8_3.out.lt
  obtain ⟨c6_0, c6_1⟩ := F8_6.out
  have l6 := F8_6.out.lt
  go_wp2_with fail
  clear c3_0 c3_1 l3 c6_0 c6_1 l6
  go_at_call 27; refine (markArcS_any (w3.heap.size + 1) w4.heap.size _ Z 1 _ F8_4.out (by omega) (by omega) (by omega)).mono ?_; rintro e w9 ⟨rfl, i, t⟩
  have G9_4 := Lib.hid i
  clear i
  have F9_2 := Lib.hid (F8_2.out.kept t (by omega))
  have F9_3 := Lib.hid (F8_3.out.kept t (by omega))
  have F9_5 := Lib.hid (F8_5.out.kept t (by omega))
  have F9_6 := Lib.hid (F8_6.out.kept t (by omega))
  have z9 : w8.heap.size ≤ w9.heap.size := t.size
  have H9 := Lib.hid (H8.out.trans ((t.below (by omega)).mono (by omega)))
  clear t F8_2 F8_3 F8_4 F8_5 F8_6 H8
  clear G9_4
  have hk9 : decide (1 + (((4 * Z.length) : Nat) : Int) < 0) = false := by simp; omega
  obtain ⟨c3_0, c3_1⟩ := F9_3.out
  have l3 := F9_3.out.lt
  obtain ⟨c6_0, c6_1⟩ := F9_6.out
  have l6 := F9_6.out.lt
  go_wp2_with fail
  clear c3_0 c3_1 l3 c6_0 c6_1 l6
  go_at_call 19; refine (eqNet_any _ _ (plainN n Z) _ (plainN_len n Z) F9_5.out.nv F9_2.out.nv).mono ?_; rintro e w10 ⟨rfl, b⟩
  have bz := b
  have F10_2 := Lib.hid (F9_2.out.below bz (Nat.le_refl _))
  have F10_3 := Lib.hid (F9_3.out.keep bz F9_3.out.lt)
  have F10_5 := Lib.hid (F9_5.out.below bz (Nat.le_refl _))
  have F10_6 := Lib.hid (F9_6.out.keep bz F9_6.out.lt)
  have z10 : w9.heap.size ≤ w10.heap.size := bz.size
  have H10 := Lib.hid (H9.out.trans (bz.mono H9.out.size))
  clear b bz F9_2 F9_3 F9_5 F9_6 H9
  obtain ⟨c3_0, c3_1⟩ := F10_3.out
  have l3 := F10_3.out.lt
  obtain ⟨c6_0, c6_1⟩ := F10_6.out
  have l6 := F10_6.out.lt
  go_wp2_with fail
  clear c3_0 c3_1 l3 c6_0 c6_1 l6
  go_at_call 28; refine (markNet_any w4.heap.size w5.heap.size _ (plainN n Z) 1 _ F10_5.out (plainN_len n Z) (by omega) (by omega)).mono ?_; rintro e w11 ⟨rfl, i, t⟩
  have G11_5 := Lib.hid i
  clear i
  have F11_2 := Lib.hid (F10_2.out.kept t (by omega))
  have F11_3 := Lib.hid (F10_3.out.kept t (by omega))
  have F11_6 := Lib.hid (F10_6.out.kept t (by omega))
  have z11 : w10.heap.size ≤ w11.heap.size := t.size
  have H11 := Lib.hid (H10.out.trans ((t.below (by omega)).mono (by omega)))
  clear t F10_2 F10_3 F10_5 F10_6 H10
  have hk11 : decide (1 + (((4 * (plainN n Z).arcs.length) : Nat) : Int) < 0) = false := by simp; omega
  obtain ⟨c3_0, c3_1⟩ := F11_3.out
  have l3 := F11_3.out.lt
  obtain ⟨c6_0, c6_1⟩ := F11_6.out
  have l6 := F11_6.out.lt
  go_wp2_with fail
  clear c3_0 c3_1 l3 c6_0 c6_1 l6
  go_at_call 29; refine (heldNet_any _ 1 ((plainN n Z)) _ G11_5.out.nv (plainN_len n Z) (by omega) (by omega)).mono ?_; rintro e w12 ⟨rfl, b⟩
  have bz := b
  have F12_2 := Lib.hid (F11_2.out.below bz (Nat.le_refl _))
  have F12_3 := Lib.hid (F11_3.out.keep bz F11_3.out.lt)
  have F12_6 := Lib.hid (F11_6.out.keep bz F11_6.out.lt)
  have F12_5 := Lib.hid (G11_5.out.below bz (Nat.le_refl _))
  have z12 : w11.heap.size ≤ w12.heap.size := bz.size
  have H12 := Lib.hid (H11.out.trans (bz.mono H11.out.size))
  clear b bz F11_2 F11_3 F11_6 G11_5 H11
  obtain ⟨c3_0, c3_1⟩ := F12_3.out
  have l3 := F12_3.out.lt
  obtain ⟨c6_0, c6_1⟩ := F12_6.out
  have l6 := F12_6.out.lt
  go_wp2_with fail
  clear c3_0 c3_1 l3 c6_0 c6_1 l6
  go_at_call 24; refine (toArcS_any _ Z _ (V1.out.below H12.out (Nat.le_refl _)) (by omega)).mono ?_; rintro e w13 ⟨q1v, rfl, i, b⟩
  have F13_8 := Lib.hid (AI.wide' (lo' := w12.heap.size) i (Below.refl w12.heap.size w12).size)
  clear i
  have bz := b
  have F13_2 := Lib.hid (F12_2.out.below bz (Nat.le_refl _))
  have F13_3 := Lib.hid (F12_3.out.keep bz F12_3.out.lt)
  have F13_6 := Lib.hid (F12_6.out.keep bz F12_6.out.lt)
  have F13_5 := Lib.hid (F12_5.out.below bz (Nat.le_refl _))
  have z13 : w12.heap.size ≤ w13.heap.size := bz.size
  have H13 := Lib.hid (H12.out.trans (bz.mono H12.out.size))
  clear b bz F12_2 F12_3 F12_6 F12_5 H12
  obtain ⟨c3_0, c3_1⟩ := F13_3.out
  have l3 := F13_3.out.lt
  obtain ⟨c6_0, c6_1⟩ := F13_6.out
  have l6 := F13_6.out.lt
  go_wp2_with fail
  clear c3_0 c3_1 l3 c6_0 c6_1 l6
  go_at_call 25; refine (implPlainNet_any n _ Z _ F13_8.out.av o0 o1).mono ?_; rintro e w14 ⟨h0v, rfl, i0, b⟩
  obtain ⟨h0c1, h0ck1, rfl⟩ := i0.split
  have F14_9 := Lib.hid (ND.wide (lo' := w13.heap.size) i0 (Below.refl w13.heap.size w13).size)
  clear i0
  have bz := b
  have F14_2 := Lib.hid (F13_2.out.below bz (Nat.le_refl _))
  have F14_3 := Lib.hid (F13_3.out.keep bz F13_3.out.lt)
  have F14_6 := Lib.hid (F13_6.out.keep bz F13_6.out.lt)
  have F14_5 := Lib.hid (F13_5.out.below bz (Nat.le_refl _))
  have z14 : w13.heap.size ≤ w14.heap.size := bz.size
  have H14 := Lib.hid (H13.out.trans (bz.mono H13.out.size))
  clear b bz F13_2 F13_3 F13_6 F13_5 F13_8 H13
  have F14_10 := Lib.hid (Box2.mk' w14 (.int .i64 (plainN n Z).nodes) (.slice h0c1 (plainN n Z).arcs.length h0ck1) 29)
  obtain ⟨c3_0, c3_1⟩ := F14_3.out
  have l3 := F14_3.out.lt
  obtain ⟨c6_0, c6_1⟩ := F14_6.out
  have l6 := F14_6.out.lt
  go_wp2_with fail
  clear c3_0 c3_1 l3 c6_0 c6_1 l6
  go_at_call 19; refine (eqNet_any _ _ (plainN n Z) _ (plainN_len n Z) (F14_9.out.below (below_alloc w14 _) (Nat.le_refl _)).nv (F14_2.out.below (below_alloc w14 _) (Nat.le_refl _)).nv).mono ?_; rintro e w15 ⟨rfl, b⟩
  have bz := (below_alloc w14 _).trans (b.mono (below_alloc w14 _).size)
  have F15_2 := Lib.hid (F14_2.out.below bz (Nat.le_refl _))
  have F15_3 := Lib.hid (F14_3.out.keep bz F14_3.out.lt)
  have F15_6 := Lib.hid (F14_6.out.keep bz F14_6.out.lt)
  have F15_5 := Lib.hid (F14_5.out.below bz (Nat.le_refl _))
  have F15_9 := Lib.hid (F14_9.out.below bz (Nat.le_refl _))
  have F15_10 := Lib.hid (F14_10.out.keep b F14_10.out.lt)
  have lb10 : w14.heap.size < w15.heap.size := F15_10.out.lt
  have z15 : w14.heap.size ≤ w15.heap.size := bz.size
  have H15 := Lib.hid (H14.out.trans (bz.mono H14.out.size))
  clear b bz F14_2 F14_3 F14_6 F14_5 F14_9 F14_10 H14
  obtain ⟨c3_0, c3_1⟩ := F15_3.out
  have l3 := F15_3.out.lt
  obtain ⟨c6_0, c6_1⟩ := F15_6.out
  have l6 := F15_6.out.lt
  obtain ⟨c10_0, c10_1⟩ := F15_10.out
  have l10 := F15_10.out.lt
  go_wp2_with fail
  clear c3_0 c3_1 l3 c6_0 c6_1 l6 c10_0 c10_1 l10
  go_at_call 29; refine (heldNet_any _ 1 ((plainN n Z)) _ F15_5.out.nv (plainN_len n Z) (by omega) (by omega)).mono ?_; rintro e w16 ⟨rfl, b⟩
  have bz := b
  have F16_2 := Lib.hid (F15_2.out.below bz (Nat.le_refl _))
  have F16_3 := Lib.hid (F15_3.out.keep bz F15_3.out.lt)
  have F16_6 := Lib.hid (F15_6.out.keep bz F15_6.out.lt)
  have F16_5 := Lib.hid (F15_5.out.below bz (Nat.le_refl _))
  have F16_9 := Lib.hid (F15_9.out.below bz (Nat.le_refl _))
  have F16_10 := Lib.hid (F15_10.out.keep bz F15_10.out.lt)
  have z16 : w15.heap.size ≤ w16.heap.size := bz.size
  have H16 := Lib.hid (H15.out.trans (bz.mono H15.out.size))
  clear b bz F15_2 F15_3 F15_6 F15_5 F15_9 F15_10 H15
  obtain ⟨c3_0, c3_1⟩ := F16_3.out
  have l3 := F16_3.out.lt
  obtain ⟨c6_0, c6_1⟩ := F16_6.out
  have l6 := F16_6.out.lt
  obtain ⟨c10_0, c10_1⟩ := F16_10.out
  have l10 := F16_10.out.lt
  go_wp2_with fail
  clear c3_0 c3_1 l3 c6_0 c6_1 l6 c10_0 c10_1 l10
  go_ret
  exact says rfl H16.out
set_option maxRecDepth 100000 in
set_option maxHeartbeats 8000000 in
theorem fnExactPlainNet_size1 (v1 : Value) (n : Int) (Z : List Ac) (w : World) (hv1 : AV w v1 Z) (hb : 1048576 < (Z.length : Int)) (fx : FitA Z) :
    Calls Try.prog 5 #[.int .i64 n, v1] w (Says true w) := by
  have V1 := Lib.hid hv1
  obtain ⟨a1, cap1, rfl⟩ := hv1.long
  clear hv1
  have hz : ∀ n : Nat, (0 : Int) ≤ n := fun n => Int.natCast_nonneg n
  go_enter Try.func5, Try.ntmps5
  go_wp2_with fail
  go_at_call 22; refine (szA_no _ Z _ _ (V1.out.below (Below.refl w.heap.size w) (Nat.le_refl _)) hb (by omega) (by omega) fx.1).mono ?_; rintro e w1 ⟨rfl, b⟩
  have bz := b
  have z1 : w.heap.size ≤ w1.heap.size := bz.size
  have H1 := Lib.hid ((Below.refl w.heap.size w).trans (bz.mono (Below.refl w.heap.size w).size))
  clear b bz
  go_wp2_with fail
  go_ret
  exact says rfl H1.out

set_option maxRecDepth 100000 in
set_option maxHeartbeats 8000000 in
theorem fnExactPlainNet_all (v1 : Value) (n : Int) (Z : List Ac) (w : World) (hv1 : AV w v1 Z) (f0 : -9223372036854775808 ≤ n ∧ n ≤ 9223372036854775807) (f1 : FitA Z) :
    Calls Try.prog 5 #[.int .i64 n, v1] w (Says true w) := by
  by_cases hb1 : 1048576 < (Z.length : Int)
  · exact fnExactPlainNet_size1 v1 n Z w hv1  hb1 f1
  exact fnExactPlainNet_main v1 n Z w hv1 f0 ⟨by omega, f1⟩ (by omega)

theorem Try.own : ownKnob Try.prog.godebug = none := by kernel_rfl
theorem Try.laidOut : laidOutB Try.prog = true := by kernel_rfl
theorem f32_lt {x : Nat} (h : (Lit.float .f32 x).wf = true) : x < 4294967296 := by simpa [Lit.wf] using h
theorem f64_lt {x : Nat} (h : (Lit.float .f64 x).wf = true) : x < 18446744073709551616 := by simpa [Lit.wf] using h
theorem i64_in {x : Int} (h : (Lit.int .i64 x).wf = true) : -9223372036854775808 ≤ x ∧ x ≤ 9223372036854775807 := by
  have h1 : IntKind.i64.min = -9223372036854775808 := by decide
  have h2 : IntKind.i64.max = 9223372036854775807 := by decide
  simp only [Lit.wf, Bool.and_eq_true, decide_eq_true_eq, h1, h2] at h
  exact h

set_option maxRecDepth 100000 in
theorem fnExactPlainNet_lifted (os : Os) (started : os.Started) (H : Type) (enc : TypeId × Value → H) :
    ReturnsInHanded {} Try.checked os 5 .any (Rows.fnExactPlainNetSpec.pre6 enc Try.prog Try.f5 [] false) (Rows.fnExactPlainNetSpec.post enc Try.prog Try.f5 false true false false) := by
  refine Frame.law_lifted (tb := 4) Try.own started (by kernel_rfl) Try.func5
    (ChangeSpec.witness6 (enc := enc) (C := Try.checked) false ⟨#[], #[.int .i64 0, .slice none 0 0], []⟩ 8 (by kernel_rfl) (by kernel_rfl) (by kernel_rfl) (by kernel_rfl))
    Try.laidOut (by kernel_rfl) rfl (by kernel_rfl) Try.underlying4 (fun ds hd => ?_) ?_
  · rw [Try.params5] at hd
    match ds, hd with
    | [_, _], _ => exact ⟨rfl, rfl, rfl⟩
  intro W base args ds p hval0 hA0 hlt hsz0
  have hval : ∀ (j : Nat) t v, Try.f5.params[j]? = some t → args[j]? = some v → Value.okWide Try.prog W .any base t v := hval0
  have hA : DataW.TrodAll enc Try.prog W 0 (fun _ => true) true Try.f5.params.toList args.toList ds p := hA0
  have hsz : (DataW.weightsEach Try.prog Try.f5.params.toList ds).all (· ≤ reachBytes) = true := hsz0
  rw [Try.params5] at hA hval hsz
  clear hval0 hA0 hsz0
  obtain ⟨v0, v1, d0, d1, p0, p1, rfl, rfl, rfl, h0, h1⟩ := trodAll_two hA
  obtain ⟨a0, rfl, rfl, rfl, w0⟩ := open_int Try.underlying2 (hval 0 2 v0 rfl rfl) h0
  have b0 := i64_in w0
  obtain ⟨r1, g1, k1⟩ := open_arcs (hval 1 22 v1 rfl rfl) h1
  exact fnExactPlainNet_all v1 a0 r1 W g1 b0 k1

theorem fnExactPlainNet_holds : Rows.FnExactPlainNetSaid :=
  OpenClaim.holds_of_wide 5 Try.f5 rfl rfl rfl rfl rfl rfl rfl ⟨rfl, rfl, rfl, rfl, rfl⟩ rfl rfl rfl rfl rfl (by kernel_rfl) Try.func5 (by kernel_rfl)
    (of_decide_eq_true (by kernel_rfl)) (by unfold Func.isWrapper; first | (rw [if_pos (by decide +kernel)]; kernel_rfl) | (rw [if_neg (by decide +kernel)]; exact ⟨rfl, rfl⟩))
    (fun os started H enc _ => fnExactPlainNet_lifted os started H enc)
end Go.Proofs.Ytkpdjbpfnepgaaa
