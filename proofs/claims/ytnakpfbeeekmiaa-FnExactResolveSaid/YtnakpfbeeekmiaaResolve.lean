/- Resolve answers as its model, for all arguments; it writes into no argument. -/
import Derived.Test.YtnakpfbeeekmiaaRvT
import Derived.Test.YtnakpfbeeekmiaaRvI
import Derived.Test.YtnakpfbeeekmiaaIl
import Derived.Deep.RegionWith
import Derived.Deep.DeepCutAuto
import Derived.Test.YtnakpfbeeekmiaaFrame
import Derived.Outline
namespace Go.Proofs.Ytnakpfbeeekmiaa
open Go.ChangeShapes Go.WideShapes Go.ChangeAt Go.RowKit Go.ChangeMaps

set_option maxRecDepth 100000 in
set_option maxHeartbeats 8000000 in
theorem fnExactResolve_main (v1 v2 : Value) (n : Int) (A : List Int) (B : List Int) (x : Int) (w : World) (hv1 : IL w v1 A) (hv2 : IL w v2 B) (o0 : -9223372036854775808 ≤ n ∧ n ≤ 9223372036854775807) (o1 : OKI A) (o2 : OKI B) (o3 : -9223372036854775808 ≤ x ∧ x ≤ 9223372036854775807) :
    Calls Try.prog 10 #[.int .i64 n, v1, v2, .int .i64 x] w (Says true w) := by
  have V1 := Lib.hid hv1
  obtain ⟨a1, cap1, rfl⟩ := hv1.long
  clear hv1
  have V2 := Lib.hid hv2
  obtain ⟨a2, cap2, rfl⟩ := hv2.long
  clear hv2
  have hl1 : ¬ 1048576 < A.length := by have := o1.size; omega
  have hs1 := o1.size
  have hl2 : ¬ 1048576 < B.length := by have := o2.size; omega
  have hs2 := o2.size
  skip
  go_enter Try.func10, Try.ntmps10
  go_wp2_with fail
  go_at_call 16; refine (toI64_si _ A _ (V1.out.below (Below.refl w.heap.size w) (Nat.le_refl _)) (by omega)).mono ?_; rintro e w1 ⟨q1v, rfl, i, b⟩
  have F1_1 := Lib.hid (II.wide' (lo' := w.heap.size) i (Below.refl w.heap.size w).size)
  clear i
  have bz := b
  have z1 : w.heap.size ≤ w1.heap.size := bz.size
  have H1 := Lib.hid ((Below.refl w.heap.size w).trans (bz.mono (Below.refl w.heap.size w).size))
  clear b bz
  go_wp2_with fail
  go_at_call 16; refine (toI64_si _ B _ (V2.out.below H1.out (Nat.le_refl _)) (by omega)).mono ?_; rintro e w2 ⟨q2v, rfl, i, b⟩
  have F2_2 := Lib.hid (II.wide' (lo' := w1.heap.size) i (Below.refl w1.heap.size w1).size)
  clear i
  have bz := b
  have F2_1 := Lib.hid (F1_1.out.below' bz (Nat.le_refl _))
  have z2 : w1.heap.size ≤ w2.heap.size := bz.size
  have H2 := Lib.hid (H1.out.trans (bz.mono H1.out.size))
  clear b bz F1_1 H1
  go_wp2_with fail
  go_at_call 41; refine (specResolve_any n _ A _ B x _ F2_1.out.il F2_2.out.il o0 o1 o2 o3).mono ?_; rintro e w3 ⟨w0v, rfl, i0, b⟩
  have F3_3 := Lib.hid (II.wide' (lo' := w2.heap.size) i0 (Below.refl w2.heap.size w2).size)
  clear i0
  have bz := b
  have z3 : w2.heap.size ≤ w3.heap.size := bz.size
  have H3 := Lib.hid (H2.out.trans (bz.mono H2.out.size))
  clear b bz F2_1 F2_2 H2
  go_wp2_with fail
  go_at_call 16; refine (toI64_si _ A _ (V1.out.below H3.out (Nat.le_refl _)) (by omega)).mono ?_; rintro e w4 ⟨x1v, rfl, i, b⟩
  obtain ⟨x1a, x1c, rfl⟩ := II.len' i
  have F4_4 := Lib.hid (II.wide' (lo' := w3.heap.size) i (Below.refl w3.heap.size w3).size)
  clear i
  have bz := b
  have F4_3 := Lib.hid (F3_3.out.below' bz (Nat.le_refl _))
  have z4 : w3.heap.size ≤ w4.heap.size := bz.size
  have H4 := Lib.hid (H3.out.trans (bz.mono H3.out.size))
  clear b bz F3_3 H3
  go_wp2_with fail
  go_at_call 16; refine (toI64_si _ B _ (V2.out.below H4.out (Nat.le_refl _)) (by omega)).mono ?_; rintro e w5 ⟨x2v, rfl, i, b⟩
  obtain ⟨x2a, x2c, rfl⟩ := II.len' i
  have F5_5 := Lib.hid (II.wide' (lo' := w4.heap.size) i (Below.refl w4.heap.size w4).size)
  clear i
  have bz := b
  have F5_3 := Lib.hid (F4_3.out.below' bz (Nat.le_refl _))
  have F5_4 := Lib.hid (F4_4.out.below' bz (Nat.le_refl _))
  have z5 : w4.heap.size ≤ w5.heap.size := bz.size
  have H5 := Lib.hid (H4.out.trans (bz.mono H4.out.size))
  clear b bz F4_3 F4_4 H4
  go_wp2_with fail
  go_at_call 42; refine (implResolve_any n _ A _ B x _ F5_4.out.il F5_5.out.il o0 o1 o2 o3).mono ?_; rintro e w6 ⟨g0v, rfl, i0, b⟩
  have F6_6 := Lib.hid (II.wide' (lo' := w5.heap.size) i0 (Below.refl w5.heap.size w5).size)
  clear i0
  have bz := b
  have F6_3 := Lib.hid (F5_3.out.below' bz (Nat.le_refl _))
  have F6_4 := Lib.hid (F5_4.out.below' bz (Nat.le_refl _))
  have F6_5 := Lib.hid (F5_5.out.below' bz (Nat.le_refl _))
  have z6 : w5.heap.size ≤ w6.heap.size := bz.size
  have H6 := Lib.hid (H5.out.trans (bz.mono H5.out.size))
  clear b bz F5_3 F5_4 F5_5 H5
  go_wp2_with fail
  go_at_call 18; refine (eqI64_says _ _ (rsF n A B x) _ (rsF_len n A B x) F6_6.out.il F6_3.out.il).mono ?_; rintro e w7 ⟨rfl, b⟩
  have bz := b
  have F7_3 := Lib.hid (F6_3.out.below' bz (Nat.le_refl _))
  have F7_4 := Lib.hid (F6_4.out.below' bz (Nat.le_refl _))
  have F7_5 := Lib.hid (F6_5.out.below' bz (Nat.le_refl _))
  have F7_6 := Lib.hid (F6_6.out.below' bz (Nat.le_refl _))
  have z7 : w6.heap.size ≤ w7.heap.size := bz.size
  have H7 := Lib.hid (H6.out.trans (bz.mono H6.out.size))
  clear b bz F6_3 F6_4 F6_5 F6_6 H6
  go_wp2_with fail
  go_at_call 16; refine (toI64_si _ A _ (V1.out.below H7.out (Nat.le_refl _)) (by omega)).mono ?_; rintro e w8 ⟨tv, rfl, i, b⟩
  have F8_7 := Lib.hid (II.wide' (lo' := w7.heap.size) i (Below.refl w7.heap.size w7).size)
  clear i
  have bz := b
  have F8_3 := Lib.hid (F7_3.out.below' bz (Nat.le_refl _))
  have F8_4 := Lib.hid (F7_4.out.below' bz (Nat.le_refl _))
  have F8_5 := Lib.hid (F7_5.out.below' bz (Nat.le_refl _))
  have F8_6 := Lib.hid (F7_6.out.below' bz (Nat.le_refl _))
  have z8 : w7.heap.size ≤ w8.heap.size := bz.size
  have H8 := Lib.hid (H7.out.trans (bz.mono H7.out.size))
  clear b bz F7_3 F7_4 F7_5 F7_6 H7
  go_wp2_with fail
  go_at_call 18; refine (eqI64_says _ _ A _ (by omega) F8_4.out.il F8_7.out.il).mono ?_; rintro e w9 ⟨rfl, b⟩
  have bz := b
  have F9_3 := Lib.hid (F8_3.out.below' bz (Nat.le_refl _))
  have F9_4 := Lib.hid (F8_4.out.below' bz (Nat.le_refl _))
  have F9_5 := Lib.hid (F8_5.out.below' bz (Nat.le_refl _))
  have F9_6 := Lib.hid (F8_6.out.below' bz (Nat.le_refl _))
  have z9 : w8.heap.size ≤ w9.heap.size := bz.size
  have H9 := Lib.hid (H8.out.trans (bz.mono H8.out.size))
  clear b bz F8_3 F8_4 F8_5 F8_6 F8_7 H8
  go_wp2_with fail
  go_at_call 16; refine (toI64_si _ B _ (V2.out.below H9.out (Nat.le_refl _)) (by omega)).mono ?_; rintro e w10 ⟨tv, rfl, i, b⟩
  have F10_8 := Lib.hid (II.wide' (lo' := w9.heap.size) i (Below.refl w9.heap.size w9).size)
  clear i
  have bz := b
  have F10_3 := Lib.hid (F9_3.out.below' bz (Nat.le_refl _))
  have F10_4 := Lib.hid (F9_4.out.below' bz (Nat.le_refl _))
  have F10_5 := Lib.hid (F9_5.out.below' bz (Nat.le_refl _))
  have F10_6 := Lib.hid (F9_6.out.below' bz (Nat.le_refl _))
  have z10 : w9.heap.size ≤ w10.heap.size := bz.size
  have H10 := Lib.hid (H9.out.trans (bz.mono H9.out.size))
  clear b bz F9_3 F9_4 F9_5 F9_6 H9
  go_wp2_with fail
  go_at_call 18; refine (eqI64_says _ _ B _ (by omega) F10_5.out.il F10_8.out.il).mono ?_; rintro e w11 ⟨rfl, b⟩
  have bz := b
  have F11_3 := Lib.hid (F10_3.out.below' bz (Nat.le_refl _))
  have F11_4 := Lib.hid (F10_4.out.below' bz (Nat.le_refl _))
  have F11_5 := Lib.hid (F10_5.out.below' bz (Nat.le_refl _))
  have F11_6 := Lib.hid (F10_6.out.below' bz (Nat.le_refl _))
  have z11 : w10.heap.size ≤ w11.heap.size := bz.size
  have H11 := Lib.hid (H10.out.trans (bz.mono H10.out.size))
  clear b bz F10_3 F10_4 F10_5 F10_6 F10_8 H10
  go_wp2_with fail
  go_at_call 21; refine (markI64_any w3.heap.size w4.heap.size _ A 1 _ F11_4.out (by omega) (by omega) (by omega)).mono ?_; rintro e w12 ⟨rfl, i, t⟩
  have G12_4 := Lib.hid i
  clear i
  have F12_3 := Lib.hid (F11_3.out.kept' t (by omega))
  have F12_5 := Lib.hid (F11_5.out.kept' t (by omega))
  have F12_6 := Lib.hid (F11_6.out.kept' t (by omega))
  have z12 : w11.heap.size ≤ w12.heap.size := t.size
  have H12 := Lib.hid (H11.out.trans ((t.below (by omega)).mono (by omega)))
  clear t F11_3 F11_4 F11_5 F11_6 H11
  clear G12_4
  have hk12 : decide (1 + ((A.length : Nat) : Int) < 0) = false := by simp; omega
  go_wp2_with fail
  go_at_call 21; refine (markI64_any w4.heap.size w5.heap.size _ B (1 + (A.length : Nat)) _ F12_5.out (by omega) (by omega) (by omega)).mono ?_; rintro e w13 ⟨rfl, i, t⟩
  have G13_5 := Lib.hid i
  clear i
  have F13_3 := Lib.hid (F12_3.out.kept' t (by omega))
  have F13_6 := Lib.hid (F12_6.out.kept' t (by omega))
  have z13 : w12.heap.size ≤ w13.heap.size := t.size
  have H13 := Lib.hid (H12.out.trans ((t.below (by omega)).mono (by omega)))
  clear t F12_3 F12_5 F12_6 H12
  clear G13_5
  have hk13 : decide (1 + (A.length : Nat) + ((B.length : Nat) : Int) < 0) = false := by simp; omega
  go_wp2_with fail
  go_at_call 18; refine (eqI64_says _ _ (rsF n A B x) _ (rsF_len n A B x) F13_6.out.il F13_3.out.il).mono ?_; rintro e w14 ⟨rfl, b⟩
  have bz := b
  have F14_3 := Lib.hid (F13_3.out.below' bz (Nat.le_refl _))
  have F14_6 := Lib.hid (F13_6.out.below' bz (Nat.le_refl _))
  have z14 : w13.heap.size ≤ w14.heap.size := bz.size
  have H14 := Lib.hid (H13.out.trans (bz.mono H13.out.size))
  clear b bz F13_3 F13_6 H13
  go_wp2_with fail
  go_at_call 21; refine (markI64_any w5.heap.size w6.heap.size _ (rsF n A B x) 1 _ F14_6.out (rsF_len n A B x) (by omega) (by omega)).mono ?_; rintro e w15 ⟨rfl, i, t⟩
  have G15_6 := Lib.hid i
  clear i
  have F15_3 := Lib.hid (F14_3.out.kept' t (by omega))
  have z15 : w14.heap.size ≤ w15.heap.size := t.size
  have H15 := Lib.hid (H14.out.trans ((t.below (by omega)).mono (by omega)))
  clear t F14_3 F14_6 H14
  have hk15 : decide (1 + (((rsF n A B x).length : Nat) : Int) < 0) = false := by simp; omega
  go_wp2_with fail
  go_at_call 22; refine (heldI64_says _ 1 ((rsF n A B x)).length _ G15_6.out.il (rsF_len n A B x) (by omega) (by omega)).mono ?_; rintro e w16 ⟨rfl, b⟩
  have bz := b
  have F16_3 := Lib.hid (F15_3.out.below' bz (Nat.le_refl _))
  have F16_6 := Lib.hid (G15_6.out.below' bz (Nat.le_refl _))
  have z16 : w15.heap.size ≤ w16.heap.size := bz.size
  have H16 := Lib.hid (H15.out.trans (bz.mono H15.out.size))
  clear b bz F15_3 G15_6 H15
  go_wp2_with fail
  go_at_call 16; refine (toI64_si _ A _ (V1.out.below H16.out (Nat.le_refl _)) (by omega)).mono ?_; rintro e w17 ⟨q1v, rfl, i, b⟩
  have F17_9 := Lib.hid (II.wide' (lo' := w16.heap.size) i (Below.refl w16.heap.size w16).size)
  clear i
  have bz := b
  have F17_3 := Lib.hid (F16_3.out.below' bz (Nat.le_refl _))
  have F17_6 := Lib.hid (F16_6.out.below' bz (Nat.le_refl _))
  have z17 : w16.heap.size ≤ w17.heap.size := bz.size
  have H17 := Lib.hid (H16.out.trans (bz.mono H16.out.size))
  clear b bz F16_3 F16_6 H16
  go_wp2_with fail
  go_at_call 16; refine (toI64_si _ B _ (V2.out.below H17.out (Nat.le_refl _)) (by omega)).mono ?_; rintro e w18 ⟨q2v, rfl, i, b⟩
  have F18_10 := Lib.hid (II.wide' (lo' := w17.heap.size) i (Below.refl w17.heap.size w17).size)
  clear i
  have bz := b
  have F18_3 := Lib.hid (F17_3.out.below' bz (Nat.le_refl _))
  have F18_6 := Lib.hid (F17_6.out.below' bz (Nat.le_refl _))
  have F18_9 := Lib.hid (F17_9.out.below' bz (Nat.le_refl _))
  have z18 : w17.heap.size ≤ w18.heap.size := bz.size
  have H18 := Lib.hid (H17.out.trans (bz.mono H17.out.size))
  clear b bz F17_3 F17_6 F17_9 H17
  go_wp2_with fail
  go_at_call 42; refine (implResolve_any n _ A _ B x _ F18_9.out.il F18_10.out.il o0 o1 o2 o3).mono ?_; rintro e w19 ⟨h0v, rfl, i0, b⟩
  have F19_11 := Lib.hid (II.wide' (lo' := w18.heap.size) i0 (Below.refl w18.heap.size w18).size)
  clear i0
  have bz := b
  have F19_3 := Lib.hid (F18_3.out.below' bz (Nat.le_refl _))
  have F19_6 := Lib.hid (F18_6.out.below' bz (Nat.le_refl _))
  have z19 : w18.heap.size ≤ w19.heap.size := bz.size
  have H19 := Lib.hid (H18.out.trans (bz.mono H18.out.size))
  clear b bz F18_3 F18_6 F18_9 F18_10 H18
  go_wp2_with fail
  go_at_call 18; refine (eqI64_says _ _ (rsF n A B x) _ (rsF_len n A B x) F19_11.out.il F19_3.out.il).mono ?_; rintro e w20 ⟨rfl, b⟩
  have bz := b
  have F20_3 := Lib.hid (F19_3.out.below' bz (Nat.le_refl _))
  have F20_6 := Lib.hid (F19_6.out.below' bz (Nat.le_refl _))
  have F20_11 := Lib.hid (F19_11.out.below' bz (Nat.le_refl _))
  have z20 : w19.heap.size ≤ w20.heap.size := bz.size
  have H20 := Lib.hid (H19.out.trans (bz.mono H19.out.size))
  clear b bz F19_3 F19_6 F19_11 H19
  go_wp2_with fail
  go_at_call 22; refine (heldI64_says _ 1 ((rsF n A B x)).length _ F20_6.out.il (rsF_len n A B x) (by omega) (by omega)).mono ?_; rintro e w21 ⟨rfl, b⟩
  have bz := b
  have F21_3 := Lib.hid (F20_3.out.below' bz (Nat.le_refl _))
  have F21_6 := Lib.hid (F20_6.out.below' bz (Nat.le_refl _))
  have F21_11 := Lib.hid (F20_11.out.below' bz (Nat.le_refl _))
  have z21 : w20.heap.size ≤ w21.heap.size := bz.size
  have H21 := Lib.hid (H20.out.trans (bz.mono H20.out.size))
  clear b bz F20_3 F20_6 F20_11 H20
  go_wp2_with fail
  go_ret
  exact says rfl H21.out
set_option maxRecDepth 100000 in
set_option maxHeartbeats 8000000 in
theorem fnExactResolve_long1 (v1 v2 : Value) (n : Int) (A : List Int) (B : List Int) (x : Int) (w : World) (hv1 : IL w v1 A) (hv2 : IL w v2 B) (hb : 1048576 < A.length) (hx : A.length ≤ maxLen) :
    Calls Try.prog 10 #[.int .i64 n, v1, v2, .int .i64 x] w (Says true w) := by
  unfold maxLen at hx
  have V1 := Lib.hid hv1
  obtain ⟨a1, cap1, rfl⟩ := hv1.long
  clear hv1
  have V2 := Lib.hid hv2
  obtain ⟨a2, cap2, rfl⟩ := hv2.long
  clear hv2
  go_enter Try.func10, Try.ntmps10
  go_wp2_with fail
  go_ret
  exact says rfl (Below.refl w.heap.size w)

set_option maxRecDepth 100000 in
set_option maxHeartbeats 8000000 in
theorem fnExactResolve_long2 (v1 v2 : Value) (n : Int) (A : List Int) (B : List Int) (x : Int) (w : World) (hv1 : IL w v1 A) (hv2 : IL w v2 B) (hl1 : ¬ 1048576 < A.length) (hb : 1048576 < B.length) (hx : B.length ≤ maxLen) :
    Calls Try.prog 10 #[.int .i64 n, v1, v2, .int .i64 x] w (Says true w) := by
  unfold maxLen at hx
  have V1 := Lib.hid hv1
  obtain ⟨a1, cap1, rfl⟩ := hv1.long
  clear hv1
  have V2 := Lib.hid hv2
  obtain ⟨a2, cap2, rfl⟩ := hv2.long
  clear hv2
  go_enter Try.func10, Try.ntmps10
  go_wp2_with fail
  go_ret
  exact says rfl (Below.refl w.heap.size w)

set_option maxRecDepth 100000 in
set_option maxHeartbeats 8000000 in
theorem fnExactResolve_all (v1 v2 : Value) (n : Int) (A : List Int) (B : List Int) (x : Int) (w : World) (hv1 : IL w v1 A) (hv2 : IL w v2 B) (f0 : -9223372036854775808 ≤ n ∧ n ≤ 9223372036854775807) (f1 : FitI A) (f2 : FitI B) (f3 : -9223372036854775808 ≤ x ∧ x ≤ 9223372036854775807) :
    Calls Try.prog 10 #[.int .i64 n, v1, v2, .int .i64 x] w (Says true w) := by
  by_cases hl1 : 1048576 < A.length
  · exact fnExactResolve_long1 v1 v2 n A B x w hv1 hv2  hl1 f1.1
  by_cases hl2 : 1048576 < B.length
  · exact fnExactResolve_long2 v1 v2 n A B x w hv1 hv2 hl1 hl2 f2.1
  exact fnExactResolve_main v1 v2 n A B x w hv1 hv2 f0 ⟨by omega, f1⟩ ⟨by omega, f2⟩ f3

theorem Try.own : ownKnob Try.prog.godebug = none := by kernel_rfl
theorem Try.laidOut : laidOutB Try.prog = true := by kernel_rfl
theorem f32_lt {x : Nat} (h : (Lit.float .f32 x).wf = true) : x < 4294967296 := by simpa [Lit.wf] using h
theorem f64_lt {x : Nat} (h : (Lit.float .f64 x).wf = true) : x < 18446744073709551616 := by simpa [Lit.wf] using h
theorem i64_in {x : Int} (h : (Lit.int .i64 x).wf = true) : -9223372036854775808 ≤ x ∧ x ≤ 9223372036854775807 := by
  have h1 : IntKind.i64.min = -9223372036854775808 := by decide
  have h2 : IntKind.i64.max = 9223372036854775807 := by decide
  simp only [Lit.wf, Bool.and_eq_true, decide_eq_true_eq, h1, h2] at h
  exact h

set_option maxRecDepth 100000 in
theorem fnExactResolve_lifted (os : Os) (started : os.Started) (H : Type) (enc : TypeId × Value → H) :
    ReturnsInHanded {} Try.checked os 10 .any (Rows.fnExactResolveSpec.pre6 enc Try.prog Try.f10 [] false) (Rows.fnExactResolveSpec.post enc Try.prog Try.f10 false true false false) := by
  refine Frame.law_lifted (tb := 4) Try.own started (by kernel_rfl) Try.func10
    (ChangeSpec.witness6 (enc := enc) (C := Try.checked) false ⟨#[], #[.int .i64 0, .slice none 0 0, .slice none 0 0, .int .i64 0], []⟩ 8 (by kernel_rfl) (by kernel_rfl) (by kernel_rfl) (by kernel_rfl))
    Try.laidOut (by kernel_rfl) rfl (by kernel_rfl) Try.underlying4 (fun ds hd => ?_) ?_
  · rw [Try.params10] at hd
    match ds, hd with
    | [_, _, _, _], _ => exact ⟨rfl, rfl, rfl⟩
  intro W base args ds p hval0 hA0 hlt hsz0
  have hval : ∀ (j : Nat) t v, Try.f10.params[j]? = some t → args[j]? = some v → Value.okWide Try.prog W .any base t v := hval0
  have hA : DataW.TrodAll enc Try.prog W 0 (fun _ => true) true Try.f10.params.toList args.toList ds p := hA0
  have hsz : (DataW.weightsEach Try.prog Try.f10.params.toList ds).all (· ≤ reachBytes) = true := hsz0
  rw [Try.params10] at hA hval hsz
  clear hval0 hA0 hsz0
  obtain ⟨v0, v1, v2, v3, d0, d1, d2, d3, p0, p1, p2, p3, rfl, rfl, rfl, h0, h1, h2, h3⟩ := trodAll_four hA
  obtain ⟨a0, rfl, rfl, rfl, w0⟩ := open_int Try.underlying2 (hval 0 2 v0 rfl rfl) h0
  have b0 := i64_in w0
  obtain ⟨r1, g1, k1⟩ := open_i64s (hval 1 25 v1 rfl rfl) h1
  obtain ⟨r2, g2, k2⟩ := open_i64s (hval 2 25 v2 rfl rfl) h2
  obtain ⟨a3, rfl, rfl, rfl, w3⟩ := open_int Try.underlying2 (hval 3 2 v3 rfl rfl) h3
  have b3 := i64_in w3
  exact fnExactResolve_all v1 v2 a0 r1 r2 a3 W g1 g2 b0 k1 k2 b3

theorem fnExactResolve_holds : Rows.FnExactResolveSaid :=
  OpenClaim.holds_of_wide 10 Try.f10 rfl rfl rfl rfl rfl rfl rfl ⟨rfl, rfl, rfl, rfl, rfl⟩ rfl rfl rfl rfl rfl (by kernel_rfl) Try.func10 (by kernel_rfl)
    (of_decide_eq_true (by kernel_rfl)) (by unfold Func.isWrapper; first | (rw [if_pos (by decide +kernel)]; kernel_rfl) | (rw [if_neg (by decide +kernel)]; exact ⟨rfl, rfl⟩))
    (fun os started H enc _ => fnExactResolve_lifted os started H enc)
end Go.Proofs.Ytnakpfbeeekmiaa
