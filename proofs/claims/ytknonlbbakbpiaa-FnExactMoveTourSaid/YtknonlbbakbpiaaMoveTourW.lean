/- MoveTour answers as its model, for all arguments; it writes into no argument. -/
import Derived.Test.YtknonlbbakbpiaaMvT
import Derived.Test.YtknonlbbakbpiaaMvV
import Derived.Test.YtknonlbbakbpiaaIl
import Derived.Deep.RegionWith
import Derived.Deep.DeepCutAuto
import Derived.Test.YtknonlbbakbpiaaFrame
import Derived.Outline
namespace Go.Proofs.Ytknonlbbakbpiaa
open Go.ChangeShapes Go.WideShapes Go.ChangeAt Go.RowKit Go.ChangeMaps

set_option maxRecDepth 100000 in
set_option maxHeartbeats 8000000 in
theorem fnExactMoveTour_main (v0 v1 : Value) (L : List Int) (T : List Int) (w : World) (hv0 : IL w v0 L) (hv1 : IL w v1 T) (o0 : OKI L) (o1 : OKI T) :
    Calls Try.prog 6 #[v0, v1] w (Says true w) := by
  have V0 := Lib.hid hv0
  obtain ⟨a0, cap0, rfl⟩ := hv0.long
  clear hv0
  have V1 := Lib.hid hv1
  obtain ⟨a1, cap1, rfl⟩ := hv1.long
  clear hv1
  have hl0 : ¬ 1048576 < L.length := by have := o0.size; omega
  have hs0 := o0.size
  have hl1 : ¬ 1048576 < T.length := by have := o1.size; omega
  have hs1 := o1.size
  skip
  go_enter Try.func6, Try.ntmps6
  go_wp2_with fail
  go_at_call 25; refine (toI64_si _ L _ (V0.out.below (Below.refl w.heap.size w) (Nat.le_refl _)) (by omega)).mono ?_; rintro e w1 ⟨q0v, rfl, i, b⟩
  have F1_1 := Lib.hid (II.wide' (lo' := w.heap.size) i (Below.refl w.heap.size w).size)
  clear i
  have bz := b
  have z1 : w.heap.size ≤ w1.heap.size := bz.size
  have H1 := Lib.hid ((Below.refl w.heap.size w).trans (bz.mono (Below.refl w.heap.size w).size))
  clear b bz
  go_wp2_with fail
  go_at_call 25; refine (toI64_si _ T _ (V1.out.below H1.out (Nat.le_refl _)) (by omega)).mono ?_; rintro e w2 ⟨q1v, rfl, i, b⟩
  have F2_2 := Lib.hid (II.wide' (lo' := w1.heap.size) i (Below.refl w1.heap.size w1).size)
  clear i
  have bz := b
  have F2_1 := Lib.hid (F1_1.out.below' bz (Nat.le_refl _))
  have z2 : w1.heap.size ≤ w2.heap.size := bz.size
  have H2 := Lib.hid (H1.out.trans (bz.mono H1.out.size))
  clear b bz F1_1 H1
  go_wp2_with fail
  go_at_call 30; refine (specMoveTour_any _ L _ T _ F2_1.out.il F2_2.out.il o0 o1).mono ?_; rintro e w3 ⟨w0v, rfl, i0, b⟩
  have F3_3 := Lib.hid (II.wide' (lo' := w2.heap.size) i0 (Below.refl w2.heap.size w2).size)
  clear i0
  have bz := b
  have z3 : w2.heap.size ≤ w3.heap.size := bz.size
  have H3 := Lib.hid (H2.out.trans (bz.mono H2.out.size))
  clear b bz F2_1 F2_2 H2
  go_wp2_with fail
  go_at_call 25; refine (toI64_si _ L _ (V0.out.below H3.out (Nat.le_refl _)) (by omega)).mono ?_; rintro e w4 ⟨x0v, rfl, i, b⟩
  obtain ⟨x0a, x0c, rfl⟩ := II.len' i
  have F4_4 := Lib.hid (II.wide' (lo' := w3.heap.size) i (Below.refl w3.heap.size w3).size)
  clear i
  have bz := b
  have F4_3 := Lib.hid (F3_3.out.below' bz (Nat.le_refl _))
  have z4 : w3.heap.size ≤ w4.heap.size := bz.size
  have H4 := Lib.hid (H3.out.trans (bz.mono H3.out.size))
  clear b bz F3_3 H3
  go_wp2_with fail
  go_at_call 25; refine (toI64_si _ T _ (V1.out.below H4.out (Nat.le_refl _)) (by omega)).mono ?_; rintro e w5 ⟨x1v, rfl, i, b⟩
  obtain ⟨x1a, x1c, rfl⟩ := II.len' i
  have F5_5 := Lib.hid (II.wide' (lo' := w4.heap.size) i (Below.refl w4.heap.size w4).size)
  clear i
  have bz := b
  have F5_3 := Lib.hid (F4_3.out.below' bz (Nat.le_refl _))
  have F5_4 := Lib.hid (F4_4.out.below' bz (Nat.le_refl _))
  have z5 : w4.heap.size ≤ w5.heap.size := bz.size
  have H5 := Lib.hid (H4.out.trans (bz.mono H4.out.size))
  clear b bz F4_3 F4_4 H4
  go_wp2_with fail
  go_at_call 31; refine (implMoveTour_any _ L _ T _ F5_4.out.il F5_5.out.il o0 o1).mono ?_; rintro e w6 ⟨g0v, rfl, i0, b⟩
  have F6_6 := Lib.hid (II.wide' (lo' := w5.heap.size) i0 (Below.refl w5.heap.size w5).size)
  clear i0
  have bz := b
  have F6_3 := Lib.hid (F5_3.out.below' bz (Nat.le_refl _))
  have F6_4 := Lib.hid (F5_4.out.below' bz (Nat.le_refl _))
  have F6_5 := Lib.hid (F5_5.out.below' bz (Nat.le_refl _))
  have z6 : w5.heap.size ≤ w6.heap.size := bz.size
  have H6 := Lib.hid (H5.out.trans (bz.mono H5.out.size))
  clear b bz F5_3 F5_4 F5_5 H5
  go_wp2_with fail
  go_at_call 27; refine (eqI64_says _ _ (mvL L T) _ (mvL_len L T) F6_6.out.il F6_3.out.il).mono ?_; rintro e w7 ⟨rfl, b⟩
  have bz := b
  have F7_3 := Lib.hid (F6_3.out.below' bz (Nat.le_refl _))
  have F7_4 := Lib.hid (F6_4.out.below' bz (Nat.le_refl _))
  have F7_5 := Lib.hid (F6_5.out.below' bz (Nat.le_refl _))
  have F7_6 := Lib.hid (F6_6.out.below' bz (Nat.le_refl _))
  have z7 : w6.heap.size ≤ w7.heap.size := bz.size
  have H7 := Lib.hid (H6.out.trans (bz.mono H6.out.size))
  clear b bz F6_3 F6_4 F6_5 F6_6 H6
  go_wp2_with fail
  go_at_call 25; refine (toI64_si _ L _ (V0.out.below H7.out (Nat.le_refl _)) (by omega)).mono ?_; rintro e w8 ⟨tv, rfl, i, b⟩
  have F8_7 := Lib.hid (II.wide' (lo' := w7.heap.size) i (Below.refl w7.heap.size w7).size)
  clear i
  have bz := b
  have F8_3 := Lib.hid (F7_3.out.below' bz (Nat.le_refl _))
  have F8_4 := Lib.hid (F7_4.out.below' bz (Nat.le_refl _))
  have F8_5 := Lib.hid (F7_5.out.below' bz (Nat.le_refl _))
  have F8_6 := Lib.hid (F7_6.out.below' bz (Nat.le_refl _))
  have z8 : w7.heap.size ≤ w8.heap.size := bz.size
  have H8 := Lib.hid (H7.out.trans (bz.mono H7.out.size))
  clear b bz F7_3 F7_4 F7_5 F7_6 H7
  go_wp2_with fail
  go_at_call 27; refine (eqI64_says _ _ L _ (by omega) F8_4.out.il F8_7.out.il).mono ?_; rintro e w9 ⟨rfl, b⟩
  have bz := b
  have F9_3 := Lib.hid (F8_3.out.below' bz (Nat.le_refl _))
  have F9_4 := Lib.hid (F8_4.out.below' bz (Nat.le_refl _))
  have F9_5 := Lib.hid (F8_5.out.below' bz (Nat.le_refl _))
  have F9_6 := Lib.hid (F8_6.out.below' bz (Nat.le_refl _))
  have z9 : w8.heap.size ≤ w9.heap.size := bz.size
  have H9 := Lib.hid (H8.out.trans (bz.mono H8.out.size))
  clear b bz F8_3 F8_4 F8_5 F8_6 F8_7 H8
  go_wp2_with fail
  go_at_call 25; refine (toI64_si _ T _ (V1.out.below H9.out (Nat.le_refl _)) (by omega)).mono ?_; rintro e w10 ⟨tv, rfl, i, b⟩
  have F10_8 := Lib.hid (II.wide' (lo' := w9.heap.size) i (Below.refl w9.heap.size w9).size)
  clear i
  have bz := b
  have F10_3 := Lib.hid (F9_3.out.below' bz (Nat.le_refl _))
  have F10_4 := Lib.hid (F9_4.out.below' bz (Nat.le_refl _))
  have F10_5 := Lib.hid (F9_5.out.below' bz (Nat.le_refl _))
  have F10_6 := Lib.hid (F9_6.out.below' bz (Nat.le_refl _))
  have z10 : w9.heap.size ≤ w10.heap.size := bz.size
  have H10 := Lib.hid (H9.out.trans (bz.mono H9.out.size))
  clear b bz F9_3 F9_4 F9_5 F9_6 H9
  go_wp2_with fail
  go_at_call 27; refine (eqI64_says _ _ T _ (by omega) F10_5.out.il F10_8.out.il).mono ?_; rintro e w11 ⟨rfl, b⟩
  have bz := b
  have F11_3 := Lib.hid (F10_3.out.below' bz (Nat.le_refl _))
  have F11_4 := Lib.hid (F10_4.out.below' bz (Nat.le_refl _))
  have F11_5 := Lib.hid (F10_5.out.below' bz (Nat.le_refl _))
  have F11_6 := Lib.hid (F10_6.out.below' bz (Nat.le_refl _))
  have z11 : w10.heap.size ≤ w11.heap.size := bz.size
  have H11 := Lib.hid (H10.out.trans (bz.mono H10.out.size))
  clear b bz F10_3 F10_4 F10_5 F10_6 F10_8 H10
  go_wp2_with fail
  go_at_call 28; refine (markI64_any w3.heap.size w4.heap.size _ L 1 _ F11_4.out (by omega) (by omega) (by omega)).mono ?_; rintro e w12 ⟨rfl, i, t⟩
  have G12_4 := Lib.hid i
  clear i
  have F12_3 := Lib.hid (F11_3.out.kept' t (by omega))
  have F12_5 := Lib.hid (F11_5.out.kept' t (by omega))
  have F12_6 := Lib.hid (F11_6.out.kept' t (by omega))
  have z12 : w11.heap.size ≤ w12.heap.size := t.size
  have H12 := Lib.hid (H11.out.trans ((t.below (by omega)).mono (by omega)))
  clear t F11_3 F11_4 F11_5 F11_6 H11
  clear G12_4
  have hk12 : decide (1 + ((L.length : Nat) : Int) < 0) = false := by simp; omega
  go_wp2_with fail
  go_at_call 28; refine (markI64_any w4.heap.size w5.heap.size _ T (1 + (L.length : Nat)) _ F12_5.out (by omega) (by omega) (by omega)).mono ?_; rintro e w13 ⟨rfl, i, t⟩
  have G13_5 := Lib.hid i
  clear i
  have F13_3 := Lib.hid (F12_3.out.kept' t (by omega))
  have F13_6 := Lib.hid (F12_6.out.kept' t (by omega))
  have z13 : w12.heap.size ≤ w13.heap.size := t.size
  have H13 := Lib.hid (H12.out.trans ((t.below (by omega)).mono (by omega)))
  clear t F12_3 F12_5 F12_6 H12
  clear G13_5
  have hk13 : decide (1 + (L.length : Nat) + ((T.length : Nat) : Int) < 0) = false := by simp; omega
  go_wp2_with fail
  go_at_call 27; refine (eqI64_says _ _ (mvL L T) _ (mvL_len L T) F13_6.out.il F13_3.out.il).mono ?_; rintro e w14 ⟨rfl, b⟩
  have bz := b
  have F14_3 := Lib.hid (F13_3.out.below' bz (Nat.le_refl _))
  have F14_6 := Lib.hid (F13_6.out.below' bz (Nat.le_refl _))
  have z14 : w13.heap.size ≤ w14.heap.size := bz.size
  have H14 := Lib.hid (H13.out.trans (bz.mono H13.out.size))
  clear b bz F13_3 F13_6 H13
  go_wp2_with fail
  go_at_call 28; refine (markI64_any w5.heap.size w6.heap.size _ (mvL L T) 1 _ F14_6.out (mvL_len L T) (by omega) (by omega)).mono ?_; rintro e w15 ⟨rfl, i, t⟩
  have G15_6 := Lib.hid i
  clear i
  have F15_3 := Lib.hid (F14_3.out.kept' t (by omega))
  have z15 : w14.heap.size ≤ w15.heap.size := t.size
  have H15 := Lib.hid (H14.out.trans ((t.below (by omega)).mono (by omega)))
  clear t F14_3 F14_6 H14
  have hk15 : decide (1 + (((mvL L T).length : Nat) : Int) < 0) = false := by simp; omega
  go_wp2_with fail
  go_at_call 29; refine (heldI64_says _ 1 ((mvL L T)).length _ G15_6.out.il (mvL_len L T) (by omega) (by omega)).mono ?_; rintro e w16 ⟨rfl, b⟩
  have bz := b
  have F16_3 := Lib.hid (F15_3.out.below' bz (Nat.le_refl _))
  have F16_6 := Lib.hid (G15_6.out.below' bz (Nat.le_refl _))
  have z16 : w15.heap.size ≤ w16.heap.size := bz.size
  have H16 := Lib.hid (H15.out.trans (bz.mono H15.out.size))
  clear b bz F15_3 G15_6 H15
  go_wp2_with fail
  go_at_call 25; refine (toI64_si _ L _ (V0.out.below H16.out (Nat.le_refl _)) (by omega)).mono ?_; rintro e w17 ⟨q0v, rfl, i, b⟩
  have F17_9 := Lib.hid (II.wide' (lo' := w16.heap.size) i (Below.refl w16.heap.size w16).size)
  clear i
  have bz := b
  have F17_3 := Lib.hid (F16_3.out.below' bz (Nat.le_refl _))
  have F17_6 := Lib.hid (F16_6.out.below' bz (Nat.le_refl _))
  have z17 : w16.heap.size ≤ w17.heap.size := bz.size
  have H17 := Lib.hid (H16.out.trans (bz.mono H16.out.size))
  clear b bz F16_3 F16_6 H16
  go_wp2_with fail
  go_at_call 25; refine (toI64_si _ T _ (V1.out.below H17.out (Nat.le_refl _)) (by omega)).mono ?_; rintro e w18 ⟨q1v, rfl, i, b⟩
  have F18_10 := Lib.hid (II.wide' (lo' := w17.heap.size) i (Below.refl w17.heap.size w17).size)
  clear i
  have bz := b
  have F18_3 := Lib.hid (F17_3.out.below' bz (Nat.le_refl _))
  have F18_6 := Lib.hid (F17_6.out.below' bz (Nat.le_refl _))
  have F18_9 := Lib.hid (F17_9.out.below' bz (Nat.le_refl _))
  have z18 : w17.heap.size ≤ w18.heap.size := bz.size
  have H18 := Lib.hid (H17.out.trans (bz.mono H17.out.size))
  clear b bz F17_3 F17_6 F17_9 H17
  go_wp2_with fail
  go_at_call 31; refine (implMoveTour_any _ L _ T _ F18_9.out.il F18_10.out.il o0 o1).mono ?_; rintro e w19 ⟨h0v, rfl, i0, b⟩
  have F19_11 := Lib.hid (II.wide' (lo' := w18.heap.size) i0 (Below.refl w18.heap.size w18).size)
  clear i0
  have bz := b
  have F19_3 := Lib.hid (F18_3.out.below' bz (Nat.le_refl _))
  have F19_6 := Lib.hid (F18_6.out.below' bz (Nat.le_refl _))
  have z19 : w18.heap.size ≤ w19.heap.size := bz.size
  have H19 := Lib.hid (H18.out.trans (bz.mono H18.out.size))
  clear b bz F18_3 F18_6 F18_9 F18_10 H18
  go_wp2_with fail
  go_at_call 27; refine (eqI64_says _ _ (mvL L T) _ (mvL_len L T) F19_11.out.il F19_3.out.il).mono ?_; rintro e w20 ⟨rfl, b⟩
  have bz := b
  have F20_3 := Lib.hid (F19_3.out.below' bz (Nat.le_refl _))
  have F20_6 := Lib.hid (F19_6.out.below' bz (Nat.le_refl _))
  have F20_11 := Lib.hid (F19_11.out.below' bz (Nat.le_refl _))
  have z20 : w19.heap.size ≤ w20.heap.size := bz.size
  have H20 := Lib.hid (H19.out.trans (bz.mono H19.out.size))
  clear b bz F19_3 F19_6 F19_11 H19
  go_wp2_with fail
  go_at_call 29; refine (heldI64_says _ 1 ((mvL L T)).length _ F20_6.out.il (mvL_len L T) (by omega) (by omega)).mono ?_; rintro e w21 ⟨rfl, b⟩
  have bz := b
  have F21_3 := Lib.hid (F20_3.out.below' bz (Nat.le_refl _))
  have F21_6 := Lib.hid (F20_6.out.below' bz (Nat.le_refl _))
  have F21_11 := Lib.hid (F20_11.out.below' bz (Nat.le_refl _))
  have z21 : w20.heap.size ≤ w21.heap.size := bz.size
  have H21 := Lib.hid (H20.out.trans (bz.mono H20.out.size))
  clear b bz F20_3 F20_6 F20_11 H20
  go_wp2_with fail
  go_ret
  exact says rfl H21.out
set_option maxRecDepth 100000 in
set_option maxHeartbeats 8000000 in
theorem fnExactMoveTour_long0 (v0 v1 : Value) (L : List Int) (T : List Int) (w : World) (hv0 : IL w v0 L) (hv1 : IL w v1 T) (hb : 1048576 < L.length) (hx : L.length ≤ maxLen) :
    Calls Try.prog 6 #[v0, v1] w (Says true w) := by
  unfold maxLen at hx
  have V0 := Lib.hid hv0
  obtain ⟨a0, cap0, rfl⟩ := hv0.long
  clear hv0
  have V1 := Lib.hid hv1
  obtain ⟨a1, cap1, rfl⟩ := hv1.long
  clear hv1
  go_enter Try.func6, Try.ntmps6
  go_wp2_with fail
  go_ret
  exact says rfl (Below.refl w.heap.size w)

set_option maxRecDepth 100000 in
set_option maxHeartbeats 8000000 in
theorem fnExactMoveTour_long1 (v0 v1 : Value) (L : List Int) (T : List Int) (w : World) (hv0 : IL w v0 L) (hv1 : IL w v1 T) (hl0 : ¬ 1048576 < L.length) (hb : 1048576 < T.length) (hx : T.length ≤ maxLen) :
    Calls Try.prog 6 #[v0, v1] w (Says true w) := by
  unfold maxLen at hx
  have V0 := Lib.hid hv0
  obtain ⟨a0, cap0, rfl⟩ := hv0.long
  clear hv0
  have V1 := Lib.hid hv1
  obtain ⟨a1, cap1, rfl⟩ := hv1.long
  clear hv1
  go_enter Try.func6, Try.ntmps6
  go_wp2_with fail
  go_ret
  exact says rfl (Below.refl w.heap.size w)

set_option maxRecDepth 100000 in
set_option maxHeartbeats 8000000 in
theorem fnExactMoveTour_all (v0 v1 : Value) (L : List Int) (T : List Int) (w : World) (hv0 : IL w v0 L) (hv1 : IL w v1 T) (f0 : FitI L) (f1 : FitI T) :
    Calls Try.prog 6 #[v0, v1] w (Says true w) := by
  by_cases hl0 : 1048576 < L.length
  · exact fnExactMoveTour_long0 v0 v1 L T w hv0 hv1  hl0 f0.1
  by_cases hl1 : 1048576 < T.length
  · exact fnExactMoveTour_long1 v0 v1 L T w hv0 hv1 hl0 hl1 f1.1
  exact fnExactMoveTour_main v0 v1 L T w hv0 hv1 ⟨by omega, f0⟩ ⟨by omega, f1⟩

end Go.Proofs.Ytknonlbbakbpiaa
