/- FirstBins answers as its model, for all arguments; it writes into no argument. -/
import Derived.Test.YtbaaocgdpgoggaaFbI
import Derived.Test.YtbaaocgdpgoggaaFbS
import Derived.Test.YtbaaocgdpgoggaaIl
import Derived.Deep.RegionWith
import Derived.Deep.DeepCutAuto
import Derived.Test.YtbaaocgdpgoggaaFrame
import Derived.Outline
namespace Go.Proofs.Ytbaaocgdpgoggaa
open Go.ChangeShapes Go.WideShapes Go.ChangeAt Go.RowKit Go.ChangeMaps

set_option maxRecDepth 100000 in
set_option maxHeartbeats 8000000 in
theorem fnExactFirstBins_main (v0 : Value) (S : List Int) (r : Int) (w : World) (hv0 : IL w v0 S) (o0 : OKI S) (o1 : -9223372036854775808 ≤ r ∧ r ≤ 9223372036854775807) :
    Calls Try.prog 7 #[v0, .int .i64 r] w (Says true w) := by
  have V0 := Lib.hid hv0
  obtain ⟨a0, cap0, rfl⟩ := hv0.long
  clear hv0
  have hl0 : ¬ 1048576 < S.length := by have := o0.size; omega
  have hs0 := o0.size
  skip
  go_enter Try.func7, Try.ntmps7
  go_wp2_with fail
  go_at_call 18; refine (toI64_si _ S _ (V0.out.below (Below.refl w.heap.size w) (Nat.le_refl _)) (by omega)).mono ?_; rintro e w1 ⟨q0v, rfl, i, b⟩
  have F1_1 := Lib.hid (II.wide' (lo' := w.heap.size) i (Below.refl w.heap.size w).size)
  clear i
  have bz := b
  have z1 : w.heap.size ≤ w1.heap.size := bz.size
  have H1 := Lib.hid ((Below.refl w.heap.size w).trans (bz.mono (Below.refl w.heap.size w).size))
  clear b bz
  go_wp2_with fail
  go_at_call 36; refine (specFirstBins_any _ S r _ F1_1.out.il o0 o1).mono ?_; rintro e w2 ⟨w0v, rfl, i0, b⟩
  have F2_2 := Lib.hid (II.wide' (lo' := w1.heap.size) i0 (Below.refl w1.heap.size w1).size)
  clear i0
  have bz := b
  have z2 : w1.heap.size ≤ w2.heap.size := bz.size
  have H2 := Lib.hid (H1.out.trans (bz.mono H1.out.size))
  clear b bz F1_1 H1
  go_wp2_with fail
  go_at_call 18; refine (toI64_si _ S _ (V0.out.below H2.out (Nat.le_refl _)) (by omega)).mono ?_; rintro e w3 ⟨x0v, rfl, i, b⟩
  obtain ⟨x0a, x0c, rfl⟩ := II.len' i
  have F3_3 := Lib.hid (II.wide' (lo' := w2.heap.size) i (Below.refl w2.heap.size w2).size)
  clear i
  have bz := b
  have F3_2 := Lib.hid (F2_2.out.below' bz (Nat.le_refl _))
  have z3 : w2.heap.size ≤ w3.heap.size := bz.size
  have H3 := Lib.hid (H2.out.trans (bz.mono H2.out.size))
  clear b bz F2_2 H2
  go_wp2_with fail
  go_at_call 37; refine (implFirstBins_any _ S r _ F3_3.out.il o0 o1).mono ?_; rintro e w4 ⟨g0v, rfl, i0, b⟩
  have F4_4 := Lib.hid (II.wide' (lo' := w3.heap.size) i0 (Below.refl w3.heap.size w3).size)
  clear i0
  have bz := b
  have F4_2 := Lib.hid (F3_2.out.below' bz (Nat.le_refl _))
  have F4_3 := Lib.hid (F3_3.out.below' bz (Nat.le_refl _))
  have z4 : w3.heap.size ≤ w4.heap.size := bz.size
  have H4 := Lib.hid (H3.out.trans (bz.mono H3.out.size))
  clear b bz F3_2 F3_3 H3
  go_wp2_with fail
  go_at_call 20; refine (eqI64_says _ _ (fbA S r) _ (fbA_len S r) F4_4.out.il F4_2.out.il).mono ?_; rintro e w5 ⟨rfl, b⟩
  have bz := b
  have F5_2 := Lib.hid (F4_2.out.below' bz (Nat.le_refl _))
  have F5_3 := Lib.hid (F4_3.out.below' bz (Nat.le_refl _))
  have F5_4 := Lib.hid (F4_4.out.below' bz (Nat.le_refl _))
  have z5 : w4.heap.size ≤ w5.heap.size := bz.size
  have H5 := Lib.hid (H4.out.trans (bz.mono H4.out.size))
  clear b bz F4_2 F4_3 F4_4 H4
  go_wp2_with fail
  go_at_call 18; refine (toI64_si _ S _ (V0.out.below H5.out (Nat.le_refl _)) (by omega)).mono ?_; rintro e w6 ⟨tv, rfl, i, b⟩
  have F6_5 := Lib.hid (II.wide' (lo' := w5.heap.size) i (Below.refl w5.heap.size w5).size)
  clear i
  have bz := b
  have F6_2 := Lib.hid (F5_2.out.below' bz (Nat.le_refl _))
  have F6_3 := Lib.hid (F5_3.out.below' bz (Nat.le_refl _))
  have F6_4 := Lib.hid (F5_4.out.below' bz (Nat.le_refl _))
  have z6 : w5.heap.size ≤ w6.heap.size := bz.size
  have H6 := Lib.hid (H5.out.trans (bz.mono H5.out.size))
  clear b bz F5_2 F5_3 F5_4 H5
  go_wp2_with fail
  go_at_call 20; refine (eqI64_says _ _ S _ (by omega) F6_3.out.il F6_5.out.il).mono ?_; rintro e w7 ⟨rfl, b⟩
  have bz := b
  have F7_2 := Lib.hid (F6_2.out.below' bz (Nat.le_refl _))
  have F7_3 := Lib.hid (F6_3.out.below' bz (Nat.le_refl _))
  have F7_4 := Lib.hid (F6_4.out.below' bz (Nat.le_refl _))
  have z7 : w6.heap.size ≤ w7.heap.size := bz.size
  have H7 := Lib.hid (H6.out.trans (bz.mono H6.out.size))
  clear b bz F6_2 F6_3 F6_4 F6_5 H6
  go_wp2_with fail
  go_at_call 23; refine (markI64_any w2.heap.size w3.heap.size _ S 1 _ F7_3.out (by omega) (by omega) (by omega)).mono ?_; rintro e w8 ⟨rfl, i, t⟩
  have G8_3 := Lib.hid i
  clear i
  have F8_2 := Lib.hid (F7_2.out.kept' t (by omega))
  have F8_4 := Lib.hid (F7_4.out.kept' t (by omega))
  have z8 : w7.heap.size ≤ w8.heap.size := t.size
  have H8 := Lib.hid (H7.out.trans ((t.below (by omega)).mono (by omega)))
  clear t F7_2 F7_3 F7_4 H7
  clear G8_3
  have hk8 : decide (1 + ((S.length : Nat) : Int) < 0) = false := by simp; omega
  go_wp2_with fail
  go_at_call 20; refine (eqI64_says _ _ (fbA S r) _ (fbA_len S r) F8_4.out.il F8_2.out.il).mono ?_; rintro e w9 ⟨rfl, b⟩
  have bz := b
  have F9_2 := Lib.hid (F8_2.out.below' bz (Nat.le_refl _))
  have F9_4 := Lib.hid (F8_4.out.below' bz (Nat.le_refl _))
  have z9 : w8.heap.size ≤ w9.heap.size := bz.size
  have H9 := Lib.hid (H8.out.trans (bz.mono H8.out.size))
  clear b bz F8_2 F8_4 H8
  go_wp2_with fail
  go_at_call 23; refine (markI64_any w3.heap.size w4.heap.size _ (fbA S r) 1 _ F9_4.out (fbA_len S r) (by omega) (by omega)).mono ?_; rintro e w10 ⟨rfl, i, t⟩
  have G10_4 := Lib.hid i
  clear i
  have F10_2 := Lib.hid (F9_2.out.kept' t (by omega))
  have z10 : w9.heap.size ≤ w10.heap.size := t.size
  have H10 := Lib.hid (H9.out.trans ((t.below (by omega)).mono (by omega)))
  clear t F9_2 F9_4 H9
  have hk10 : decide (1 + (((fbA S r).length : Nat) : Int) < 0) = false := by simp; omega
  go_wp2_with fail
  go_at_call 24; refine (heldI64_says _ 1 ((fbA S r)).length _ G10_4.out.il (fbA_len S r) (by omega) (by omega)).mono ?_; rintro e w11 ⟨rfl, b⟩
  have bz := b
  have F11_2 := Lib.hid (F10_2.out.below' bz (Nat.le_refl _))
  have F11_4 := Lib.hid (G10_4.out.below' bz (Nat.le_refl _))
  have z11 : w10.heap.size ≤ w11.heap.size := bz.size
  have H11 := Lib.hid (H10.out.trans (bz.mono H10.out.size))
  clear b bz F10_2 G10_4 H10
  go_wp2_with fail
  go_at_call 18; refine (toI64_si _ S _ (V0.out.below H11.out (Nat.le_refl _)) (by omega)).mono ?_; rintro e w12 ⟨q0v, rfl, i, b⟩
  have F12_6 := Lib.hid (II.wide' (lo' := w11.heap.size) i (Below.refl w11.heap.size w11).size)
  clear i
  have bz := b
  have F12_2 := Lib.hid (F11_2.out.below' bz (Nat.le_refl _))
  have F12_4 := Lib.hid (F11_4.out.below' bz (Nat.le_refl _))
  have z12 : w11.heap.size ≤ w12.heap.size := bz.size
  have H12 := Lib.hid (H11.out.trans (bz.mono H11.out.size))
  clear b bz F11_2 F11_4 H11
  go_wp2_with fail
  go_at_call 37; refine (implFirstBins_any _ S r _ F12_6.out.il o0 o1).mono ?_; rintro e w13 ⟨h0v, rfl, i0, b⟩
  have F13_7 := Lib.hid (II.wide' (lo' := w12.heap.size) i0 (Below.refl w12.heap.size w12).size)
  clear i0
  have bz := b
  have F13_2 := Lib.hid (F12_2.out.below' bz (Nat.le_refl _))
  have F13_4 := Lib.hid (F12_4.out.below' bz (Nat.le_refl _))
  have z13 : w12.heap.size ≤ w13.heap.size := bz.size
  have H13 := Lib.hid (H12.out.trans (bz.mono H12.out.size))
  clear b bz F12_2 F12_4 F12_6 H12
  go_wp2_with fail
  go_at_call 20; refine (eqI64_says _ _ (fbA S r) _ (fbA_len S r) F13_7.out.il F13_2.out.il).mono ?_; rintro e w14 ⟨rfl, b⟩
  have bz := b
  have F14_2 := Lib.hid (F13_2.out.below' bz (Nat.le_refl _))
  have F14_4 := Lib.hid (F13_4.out.below' bz (Nat.le_refl _))
  have F14_7 := Lib.hid (F13_7.out.below' bz (Nat.le_refl _))
  have z14 : w13.heap.size ≤ w14.heap.size := bz.size
  have H14 := Lib.hid (H13.out.trans (bz.mono H13.out.size))
  clear b bz F13_2 F13_4 F13_7 H13
  go_wp2_with fail
  go_at_call 24; refine (heldI64_says _ 1 ((fbA S r)).length _ F14_4.out.il (fbA_len S r) (by omega) (by omega)).mono ?_; rintro e w15 ⟨rfl, b⟩
  have bz := b
  have F15_2 := Lib.hid (F14_2.out.below' bz (Nat.le_refl _))
  have F15_4 := Lib.hid (F14_4.out.below' bz (Nat.le_refl _))
  have F15_7 := Lib.hid (F14_7.out.below' bz (Nat.le_refl _))
  have z15 : w14.heap.size ≤ w15.heap.size := bz.size
  have H15 := Lib.hid (H14.out.trans (bz.mono H14.out.size))
  clear b bz F14_2 F14_4 F14_7 H14
  go_wp2_with fail
  go_ret
  exact says rfl H15.out
set_option maxRecDepth 100000 in
set_option maxHeartbeats 8000000 in
theorem fnExactFirstBins_long0 (v0 : Value) (S : List Int) (r : Int) (w : World) (hv0 : IL w v0 S) (hb : 1048576 < S.length) (hx : S.length ≤ maxLen) :
    Calls Try.prog 7 #[v0, .int .i64 r] w (Says true w) := by
  unfold maxLen at hx
  have V0 := Lib.hid hv0
  obtain ⟨a0, cap0, rfl⟩ := hv0.long
  clear hv0
  go_enter Try.func7, Try.ntmps7
  go_wp2_with fail
  go_ret
  exact says rfl (Below.refl w.heap.size w)

set_option maxRecDepth 100000 in
set_option maxHeartbeats 8000000 in
theorem fnExactFirstBins_all (v0 : Value) (S : List Int) (r : Int) (w : World) (hv0 : IL w v0 S) (f0 : FitI S) (f1 : -9223372036854775808 ≤ r ∧ r ≤ 9223372036854775807) :
    Calls Try.prog 7 #[v0, .int .i64 r] w (Says true w) := by
  by_cases hl0 : 1048576 < S.length
  · exact fnExactFirstBins_long0 v0 S r w hv0  hl0 f0.1
  exact fnExactFirstBins_main v0 S r w hv0 ⟨by omega, f0⟩ f1

end Go.Proofs.Ytbaaocgdpgoggaa
