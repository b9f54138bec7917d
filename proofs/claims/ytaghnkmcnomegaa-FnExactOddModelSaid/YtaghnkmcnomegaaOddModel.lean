/- OddModel answers as its model, for all arguments; it writes into no argument. -/
import Derived.Test.YtaghnkmcnomegaaOdS
import Derived.Test.YtaghnkmcnomegaaLsG
import Derived.Test.YtaghnkmcnomegaaIl
import Derived.Deep.RegionWith
import Derived.Deep.DeepCutAuto
import Derived.Test.YtaghnkmcnomegaaFrame
import Derived.Outline
namespace Go.Proofs.Ytaghnkmcnomegaa
open Go.ChangeShapes Go.WideShapes Go.ChangeAt Go.RowKit Go.ChangeMaps

set_option maxRecDepth 100000 in
set_option maxHeartbeats 8000000 in
theorem fnExactOddModel_main (v1 v2 : Value) (n : Int) (L : List (List Int)) (V : List Bool) (w : World) (hv1 : LV w v1 L) (hv2 : BL w v2 V) (o0 : -9223372036854775808 ≤ n ∧ n ≤ 9223372036854775807) (o1 : OKL L) (o2 : OKB V) (hm : ((szL L) : Int) ≤ (1048576 : Int)) :
    Calls Try.prog 3 #[.int .i64 n, v1, v2] w (Says true w) := by
  have V1 := Lib.hid hv1
  obtain ⟨a1, cap1, rfl⟩ := hv1.long
  clear hv1
  have V2 := Lib.hid hv2
  obtain ⟨a2, cap2, rfl⟩ := hv2.long
  clear hv2
  have hs1 := o1.size
  have hmt1 : totAt L L.length ≤ szL L := Nat.le_add_left _ _
  have hl2 : ¬ 1048576 < V.length := by have := o2.size; omega
  have hs2 := o2.size
  have ht1 : decide (1048576 - ((szL L) : Int) < 0) = false := by simp; omega
  have hmm := hm
  go_enter Try.func3, Try.ntmps3
  go_wp2_with fail
  go_at_call 7; refine (szSS_yes2 _ L _ _ (V1.out.below (Below.refl w.heap.size w) (Nat.le_refl _)) (by omega) (by omega)).mono ?_; rintro e w1 ⟨rfl, b⟩
  have bz := b
  have z1 : w.heap.size ≤ w1.heap.size := bz.size
  have H1 := Lib.hid ((Below.refl w.heap.size w).trans (bz.mono (Below.refl w.heap.size w).size))
  clear b bz
  go_wp2_with fail
  go_at_call 9; refine (toSS_any _ L _ (V1.out.below H1.out (Nat.le_refl _)) (by omega)).mono ?_; rintro e w2 ⟨q1v, rfl, i, b⟩
  have F2_1 := Lib.hid (LD.wide' (lo' := w1.heap.size) i (Below.refl w1.heap.size w1).size)
  clear i
  have bz := b
  have z2 : w1.heap.size ≤ w2.heap.size := bz.size
  have H2 := Lib.hid (H1.out.trans (bz.mono H1.out.size))
  clear b bz H1
  go_wp2_with fail
  go_at_call 10; refine (toBools_any _ V _ (V2.out.below H2.out (Nat.le_refl _)) (by omega)).mono ?_; rintro e w3 ⟨q2v, rfl, i, b⟩
  have F3_2 := Lib.hid (BI.wide' (lo' := w2.heap.size) i (Below.refl w2.heap.size w2).size)
  clear i
  have bz := b
  have F3_1 := Lib.hid (F2_1.out.below' bz (Nat.le_refl _))
  have z3 : w2.heap.size ≤ w3.heap.size := bz.size
  have H3 := Lib.hid (H2.out.trans (bz.mono H2.out.size))
  clear b bz F2_1 H2
  go_wp2_with fail
  go_at_call 8; refine (specOddModel_any n _ L _ V _ F3_1.out.lv F3_2.out.bl o0 o1 o2).mono ?_; rintro e w4 ⟨w0v, rfl, i0, b⟩
  have F4_3 := Lib.hid (BI.wide' (lo' := w3.heap.size) i0 (Below.refl w3.heap.size w3).size)
  clear i0
  have bz := b
  have z4 : w3.heap.size ≤ w4.heap.size := bz.size
  have H4 := Lib.hid (H3.out.trans (bz.mono H3.out.size))
  clear b bz F3_1 F3_2 H3
  go_wp2_with fail
  go_at_call 9; refine (toSS_any _ L _ (V1.out.below H4.out (Nat.le_refl _)) (by omega)).mono ?_; rintro e w5 ⟨x1v, rfl, i, b⟩
  obtain ⟨x1a, x1c, rfl⟩ := LD.len' i
  have F5_4 := Lib.hid (LD.wide' (lo' := w4.heap.size) i (Below.refl w4.heap.size w4).size)
  clear i
  have bz := b
  have F5_3 := Lib.hid (F4_3.out.below' bz (Nat.le_refl _))
  have z5 : w4.heap.size ≤ w5.heap.size := bz.size
  have H5 := Lib.hid (H4.out.trans (bz.mono H4.out.size))
  clear b bz F4_3 H4
  go_wp2_with fail
  go_at_call 10; refine (toBools_any _ V _ (V2.out.below H5.out (Nat.le_refl _)) (by omega)).mono ?_; rintro e w6 ⟨x2v, rfl, i, b⟩
  obtain ⟨x2a, x2c, rfl⟩ := BI.len' i
  have F6_5 := Lib.hid (BI.wide' (lo' := w5.heap.size) i (Below.refl w5.heap.size w5).size)
  clear i
  have bz := b
  have F6_3 := Lib.hid (F5_3.out.below' bz (Nat.le_refl _))
  have F6_4 := Lib.hid (F5_4.out.below' bz (Nat.le_refl _))
  have z6 : w5.heap.size ≤ w6.heap.size := bz.size
  have H6 := Lib.hid (H5.out.trans (bz.mono H5.out.size))
  clear b bz F5_3 F5_4 H5
  go_wp2_with fail
  go_at_call 11; refine (implOddModel_any n _ L _ V _ F6_4.out.lv F6_5.out.bl o0 o1 o2).mono ?_; rintro e w7 ⟨g0v, rfl, i0, b⟩
  have F7_6 := Lib.hid (BI.wide' (lo' := w6.heap.size) i0 (Below.refl w6.heap.size w6).size)
  clear i0
  have bz := b
  have F7_3 := Lib.hid (F6_3.out.below' bz (Nat.le_refl _))
  have F7_4 := Lib.hid (F6_4.out.below' bz (Nat.le_refl _))
  have F7_5 := Lib.hid (F6_5.out.below' bz (Nat.le_refl _))
  have z7 : w6.heap.size ≤ w7.heap.size := bz.size
  have H7 := Lib.hid (H6.out.trans (bz.mono H6.out.size))
  clear b bz F6_3 F6_4 F6_5 H6
  go_wp2_with fail
  go_at_call 12; refine (eqBools_says _ _ (odL n L V) _ (odL_len n L V) F7_6.out.bl F7_3.out.bl).mono ?_; rintro e w8 ⟨rfl, b⟩
  have bz := b
  have F8_3 := Lib.hid (F7_3.out.below' bz (Nat.le_refl _))
  have F8_4 := Lib.hid (F7_4.out.below' bz (Nat.le_refl _))
  have F8_5 := Lib.hid (F7_5.out.below' bz (Nat.le_refl _))
  have F8_6 := Lib.hid (F7_6.out.below' bz (Nat.le_refl _))
  have z8 : w7.heap.size ≤ w8.heap.size := bz.size
  have H8 := Lib.hid (H7.out.trans (bz.mono H7.out.size))
  clear b bz F7_3 F7_4 F7_5 F7_6 H7
  go_wp2_with fail
  go_at_call 9; refine (toSS_any _ L _ (V1.out.below H8.out (Nat.le_refl _)) (by omega)).mono ?_; rintro e w9 ⟨tv, rfl, i, b⟩
  have F9_7 := Lib.hid (LD.wide' (lo' := w8.heap.size) i (Below.refl w8.heap.size w8).size)
  clear i
  have bz := b
  have F9_3 := Lib.hid (F8_3.out.below' bz (Nat.le_refl _))
  have F9_4 := Lib.hid (F8_4.out.below' bz (Nat.le_refl _))
  have F9_5 := Lib.hid (F8_5.out.below' bz (Nat.le_refl _))
  have F9_6 := Lib.hid (F8_6.out.below' bz (Nat.le_refl _))
  have z9 : w8.heap.size ≤ w9.heap.size := bz.size
  have H9 := Lib.hid (H8.out.trans (bz.mono H8.out.size))
  clear b bz F8_3 F8_4 F8_5 F8_6 H8
  go_wp2_with fail
  go_at_call 13; refine (eqSS_any _ _ L _ (by omega) F9_4.out.lv F9_7.out.lv).mono ?_; rintro e w10 ⟨rfl, b⟩
  have bz := b
  have F10_3 := Lib.hid (F9_3.out.below' bz (Nat.le_refl _))
  have F10_4 := Lib.hid (F9_4.out.below' bz (Nat.le_refl _))
  have F10_5 := Lib.hid (F9_5.out.below' bz (Nat.le_refl _))
  have F10_6 := Lib.hid (F9_6.out.below' bz (Nat.le_refl _))
  have z10 : w9.heap.size ≤ w10.heap.size := bz.size
  have H10 := Lib.hid (H9.out.trans (bz.mono H9.out.size))
  clear b bz F9_3 F9_4 F9_5 F9_6 F9_7 H9
  go_wp2_with fail
  go_at_call 10; refine (toBools_any _ V _ (V2.out.below H10.out (Nat.le_refl _)) (by omega)).mono ?_; rintro e w11 ⟨tv, rfl, i, b⟩
  have F11_8 := Lib.hid (BI.wide' (lo' := w10.heap.size) i (Below.refl w10.heap.size w10).size)
  clear i
  have bz := b
  have F11_3 := Lib.hid (F10_3.out.below' bz (Nat.le_refl _))
  have F11_4 := Lib.hid (F10_4.out.below' bz (Nat.le_refl _))
  have F11_5 := Lib.hid (F10_5.out.below' bz (Nat.le_refl _))
  have F11_6 := Lib.hid (F10_6.out.below' bz (Nat.le_refl _))
  have z11 : w10.heap.size ≤ w11.heap.size := bz.size
  have H11 := Lib.hid (H10.out.trans (bz.mono H10.out.size))
  clear b bz F10_3 F10_4 F10_5 F10_6 H10
  go_wp2_with fail
  go_at_call 12; refine (eqBools_says _ _ V _ (by omega) F11_5.out.bl F11_8.out.bl).mono ?_; rintro e w12 ⟨rfl, b⟩
  have bz := b
  have F12_3 := Lib.hid (F11_3.out.below' bz (Nat.le_refl _))
  have F12_4 := Lib.hid (F11_4.out.below' bz (Nat.le_refl _))
  have F12_5 := Lib.hid (F11_5.out.below' bz (Nat.le_refl _))
  have F12_6 := Lib.hid (F11_6.out.below' bz (Nat.le_refl _))
  have z12 : w11.heap.size ≤ w12.heap.size := bz.size
  have H12 := Lib.hid (H11.out.trans (bz.mono H11.out.size))
  clear b bz F11_3 F11_4 F11_5 F11_6 F11_8 H11
  go_wp2_with fail
  go_at_call 14; refine (markSS_any w4.heap.size w5.heap.size _ L 1 _ F12_4.out (by omega) (by omega) (by omega)).mono ?_; rintro e w13 ⟨rfl, i, t⟩
  have G13_4 := Lib.hid i
  clear i
  have F13_3 := Lib.hid (F12_3.out.kept' t (by omega))
  have F13_5 := Lib.hid (F12_5.out.kept' t (by omega))
  have F13_6 := Lib.hid (F12_6.out.kept' t (by omega))
  have z13 : w12.heap.size ≤ w13.heap.size := t.size
  have H13 := Lib.hid (H12.out.trans ((t.below (by omega)).mono (by omega)))
  clear t F12_3 F12_4 F12_5 F12_6 H12
  clear G13_4
  have hk13 : decide (1 + (((totAt L L.length) : Nat) : Int) < 0) = false := by simp; omega
  go_wp2_with fail
  go_at_call 15; refine (markBools_any w5.heap.size w6.heap.size _ V (1 + ((totAt L L.length) : Nat)) _ F13_5.out (by omega) (by omega) (by omega)).mono ?_; rintro e w14 ⟨rfl, i, t⟩
  have G14_5 := Lib.hid i
  clear i
  have F14_3 := Lib.hid (F13_3.out.kept' t (by omega))
  have F14_6 := Lib.hid (F13_6.out.kept' t (by omega))
  have z14 : w13.heap.size ≤ w14.heap.size := t.size
  have H14 := Lib.hid (H13.out.trans ((t.below (by omega)).mono (by omega)))
  clear t F13_3 F13_5 F13_6 H13
  clear G14_5
  have hk14 : decide (1 + ((totAt L L.length) : Nat) + ((V.length : Nat) : Int) < 0) = false := by simp; omega
  go_wp2_with fail
  go_at_call 12; refine (eqBools_says _ _ (odL n L V) _ (odL_len n L V) F14_6.out.bl F14_3.out.bl).mono ?_; rintro e w15 ⟨rfl, b⟩
  have bz := b
  have F15_3 := Lib.hid (F14_3.out.below' bz (Nat.le_refl _))
  have F15_6 := Lib.hid (F14_6.out.below' bz (Nat.le_refl _))
  have z15 : w14.heap.size ≤ w15.heap.size := bz.size
  have H15 := Lib.hid (H14.out.trans (bz.mono H14.out.size))
  clear b bz F14_3 F14_6 H14
  go_wp2_with fail
  go_at_call 15; refine (markBools_any w6.heap.size w7.heap.size _ (odL n L V) 1 _ F15_6.out (odL_len n L V) (by omega) (by omega)).mono ?_; rintro e w16 ⟨rfl, i, t⟩
  have G16_6 := Lib.hid i
  clear i
  have F16_3 := Lib.hid (F15_3.out.kept' t (by omega))
  have z16 : w15.heap.size ≤ w16.heap.size := t.size
  have H16 := Lib.hid (H15.out.trans ((t.below (by omega)).mono (by omega)))
  clear t F15_3 F15_6 H15
  have hk16 : decide (1 + (((odL n L V).length : Nat) : Int) < 0) = false := by simp; omega
  go_wp2_with fail
  go_at_call 16; refine (heldBools_says _ 1 ((odL n L V)).length _ G16_6.out.bl (odL_len n L V) (by omega) (by omega)).mono ?_; rintro e w17 ⟨rfl, b⟩
  have bz := b
  have F17_3 := Lib.hid (F16_3.out.below' bz (Nat.le_refl _))
  have F17_6 := Lib.hid (G16_6.out.below' bz (Nat.le_refl _))
  have z17 : w16.heap.size ≤ w17.heap.size := bz.size
  have H17 := Lib.hid (H16.out.trans (bz.mono H16.out.size))
  clear b bz F16_3 G16_6 H16
  go_wp2_with fail
  go_at_call 9; refine (toSS_any _ L _ (V1.out.below H17.out (Nat.le_refl _)) (by omega)).mono ?_; rintro e w18 ⟨q1v, rfl, i, b⟩
  have F18_9 := Lib.hid (LD.wide' (lo' := w17.heap.size) i (Below.refl w17.heap.size w17).size)
  clear i
  have bz := b
  have F18_3 := Lib.hid (F17_3.out.below' bz (Nat.le_refl _))
  have F18_6 := Lib.hid (F17_6.out.below' bz (Nat.le_refl _))
  have z18 : w17.heap.size ≤ w18.heap.size := bz.size
  have H18 := Lib.hid (H17.out.trans (bz.mono H17.out.size))
  clear b bz F17_3 F17_6 H17
  go_wp2_with fail
  go_at_call 10; refine (toBools_any _ V _ (V2.out.below H18.out (Nat.le_refl _)) (by omega)).mono ?_; rintro e w19 ⟨q2v, rfl, i, b⟩
  have F19_10 := Lib.hid (BI.wide' (lo' := w18.heap.size) i (Below.refl w18.heap.size w18).size)
  clear i
  have bz := b
  have F19_3 := Lib.hid (F18_3.out.below' bz (Nat.le_refl _))
  have F19_6 := Lib.hid (F18_6.out.below' bz (Nat.le_refl _))
  have F19_9 := Lib.hid (F18_9.out.below' bz (Nat.le_refl _))
  have z19 : w18.heap.size ≤ w19.heap.size := bz.size
  have H19 := Lib.hid (H18.out.trans (bz.mono H18.out.size))
  clear b bz F18_3 F18_6 F18_9 H18
  go_wp2_with fail
  go_at_call 11; refine (implOddModel_any n _ L _ V _ F19_9.out.lv F19_10.out.bl o0 o1 o2).mono ?_; rintro e w20 ⟨h0v, rfl, i0, b⟩
  have F20_11 := Lib.hid (BI.wide' (lo' := w19.heap.size) i0 (Below.refl w19.heap.size w19).size)
  clear i0
  have bz := b
  have F20_3 := Lib.hid (F19_3.out.below' bz (Nat.le_refl _))
  have F20_6 := Lib.hid (F19_6.out.below' bz (Nat.le_refl _))
  have z20 : w19.heap.size ≤ w20.heap.size := bz.size
  have H20 := Lib.hid (H19.out.trans (bz.mono H19.out.size))
  clear b bz F19_3 F19_6 F19_9 F19_10 H19
  go_wp2_with fail
  go_at_call 12; refine (eqBools_says _ _ (odL n L V) _ (odL_len n L V) F20_11.out.bl F20_3.out.bl).mono ?_; rintro e w21 ⟨rfl, b⟩
  have bz := b
  have F21_3 := Lib.hid (F20_3.out.below' bz (Nat.le_refl _))
  have F21_6 := Lib.hid (F20_6.out.below' bz (Nat.le_refl _))
  have F21_11 := Lib.hid (F20_11.out.below' bz (Nat.le_refl _))
  have z21 : w20.heap.size ≤ w21.heap.size := bz.size
  have H21 := Lib.hid (H20.out.trans (bz.mono H20.out.size))
  clear b bz F20_3 F20_6 F20_11 H20
  go_wp2_with fail
  go_at_call 16; refine (heldBools_says _ 1 ((odL n L V)).length _ F21_6.out.bl (odL_len n L V) (by omega) (by omega)).mono ?_; rintro e w22 ⟨rfl, b⟩
  have bz := b
  have F22_3 := Lib.hid (F21_3.out.below' bz (Nat.le_refl _))
  have F22_6 := Lib.hid (F21_6.out.below' bz (Nat.le_refl _))
  have F22_11 := Lib.hid (F21_11.out.below' bz (Nat.le_refl _))
  have z22 : w21.heap.size ≤ w22.heap.size := bz.size
  have H22 := Lib.hid (H21.out.trans (bz.mono H21.out.size))
  clear b bz F21_3 F21_6 F21_11 H21
  go_wp2_with fail
  go_ret
  exact says rfl H22.out
set_option maxRecDepth 100000 in
set_option maxHeartbeats 8000000 in
theorem fnExactOddModel_long2 (v1 v2 : Value) (n : Int) (L : List (List Int)) (V : List Bool) (w : World) (hv1 : LV w v1 L) (hv2 : BL w v2 V) (hb : 1048576 < V.length) (hx : V.length ≤ maxLen) :
    Calls Try.prog 3 #[.int .i64 n, v1, v2] w (Says true w) := by
  unfold maxLen at hx
  have V1 := Lib.hid hv1
  obtain ⟨a1, cap1, rfl⟩ := hv1.long
  clear hv1
  have V2 := Lib.hid hv2
  obtain ⟨a2, cap2, rfl⟩ := hv2.long
  clear hv2
  go_enter Try.func3, Try.ntmps3
  go_wp2_with fail
  go_ret
  exact says rfl (Below.refl w.heap.size w)

set_option maxRecDepth 100000 in
set_option maxHeartbeats 8000000 in
theorem fnExactOddModel_size1 (v1 v2 : Value) (n : Int) (L : List (List Int)) (V : List Bool) (w : World) (hv1 : LV w v1 L) (hv2 : BL w v2 V) (hl2 : ¬ 1048576 < V.length) (hb : 1048576 < ((szL L) : Int)) (fx : FitL L) :
    Calls Try.prog 3 #[.int .i64 n, v1, v2] w (Says true w) := by
  have V1 := Lib.hid hv1
  obtain ⟨a1, cap1, rfl⟩ := hv1.long
  clear hv1
  have V2 := Lib.hid hv2
  obtain ⟨a2, cap2, rfl⟩ := hv2.long
  clear hv2
  have hz : ∀ n : Nat, (0 : Int) ≤ n := fun n => Int.natCast_nonneg n
  go_enter Try.func3, Try.ntmps3
  go_wp2_with fail
  go_at_call 7; refine (szSS_no2 _ L _ _ (V1.out.below (Below.refl w.heap.size w) (Nat.le_refl _)) hb (by omega) (by omega) fx).mono ?_; rintro e w1 ⟨rfl, b⟩
  have bz := b
  have z1 : w.heap.size ≤ w1.heap.size := bz.size
  have H1 := Lib.hid ((Below.refl w.heap.size w).trans (bz.mono (Below.refl w.heap.size w).size))
  clear b bz
  go_wp2_with fail
  go_ret
  exact says rfl H1.out

set_option maxRecDepth 100000 in
set_option maxHeartbeats 8000000 in
theorem fnExactOddModel_all (v1 v2 : Value) (n : Int) (L : List (List Int)) (V : List Bool) (w : World) (hv1 : LV w v1 L) (hv2 : BL w v2 V) (f0 : -9223372036854775808 ≤ n ∧ n ≤ 9223372036854775807) (f1 : FitL L) (f2 : FitB V) :
    Calls Try.prog 3 #[.int .i64 n, v1, v2] w (Says true w) := by
  by_cases hl2 : 1048576 < V.length
  · exact fnExactOddModel_long2 v1 v2 n L V w hv1 hv2  hl2 f2.1
  by_cases hb1 : 1048576 < ((szL L) : Int)
  · exact fnExactOddModel_size1 v1 v2 n L V w hv1 hv2 hl2 hb1 f1
  exact fnExactOddModel_main v1 v2 n L V w hv1 hv2 f0 ⟨by omega, f1⟩ ⟨by omega, f2⟩ (by omega)

theorem Try.own : ownKnob Try.prog.godebug = none := by kernel_rfl
theorem Try.laidOut : laidOutB Try.prog = true := by kernel_rfl
theorem f32_lt {x : Nat} (h : (Lit.float .f32 x).wf = true) : x < 4294967296 := by simpa [Lit.wf] using h
theorem f64_lt {x : Nat} (h : (Lit.float .f64 x).wf = true) : x < 18446744073709551616 := by simpa [Lit.wf] using h
theorem i64_in {x : Int} (h : (Lit.int .i64 x).wf = true) : -9223372036854775808 ≤ x ∧ x ≤ 9223372036854775807 := by
  have h1 : IntKind.i64.min = -9223372036854775808 := by decide
  have h2 : IntKind.i64.max = 9223372036854775807 := by decide
  simp only [Lit.wf, Bool.and_eq_true, decide_eq_true_eq, h1, h2] at h
  exact h

set_option maxRecDepth 100000 in
theorem fnExactOddModel_lifted (os : Os) (started : os.Started) (H : Type) (enc : TypeId × Value → H) :
    ReturnsInHanded {} Try.checked os 3 .any (Rows.fnExactOddModelSpec.pre6 enc Try.prog Try.f3 [] false) (Rows.fnExactOddModelSpec.post enc Try.prog Try.f3 false true false false) := by
  refine Frame.law_lifted (tb := 4) Try.own started (by kernel_rfl) Try.func3
    (ChangeSpec.witness6 (enc := enc) (C := Try.checked) false ⟨#[], #[.int .i64 0, .slice none 0 0, .slice none 0 0], []⟩ 8 (by kernel_rfl) (by kernel_rfl) (by kernel_rfl) (by kernel_rfl))
    Try.laidOut (by kernel_rfl) rfl (by kernel_rfl) Try.underlying4 (fun ds hd => ?_) ?_
  · rw [Try.params3] at hd
    match ds, hd with
    | [_, _, _], _ => exact ⟨rfl, rfl, rfl⟩
  intro W base args ds p hval0 hA0 hlt hsz0
  have hval : ∀ (j : Nat) t v, Try.f3.params[j]? = some t → args[j]? = some v → Value.okWide Try.prog W .any base t v := hval0
  have hA : DataW.TrodAll enc Try.prog W 0 (fun _ => true) true Try.f3.params.toList args.toList ds p := hA0
  have hsz : (DataW.weightsEach Try.prog Try.f3.params.toList ds).all (· ≤ reachBytes) = true := hsz0
  rw [Try.params3] at hA hval hsz
  clear hval0 hA0 hsz0
  obtain ⟨v0, v1, v2, d0, d1, d2, p0, p1, p2, rfl, rfl, rfl, h0, h1, h2⟩ := trodAll_three hA
  obtain ⟨a0, rfl, rfl, rfl, w0⟩ := open_int Try.underlying2 (hval 0 2 v0 rfl rfl) h0
  have b0 := i64_in w0
  obtain ⟨r1, g1, k1⟩ := open_lvs (hval 1 22 v1 rfl rfl) h1
  obtain ⟨r2, g2, k2⟩ := open_bools (hval 2 23 v2 rfl rfl) h2
  exact fnExactOddModel_all v1 v2 a0 r1 r2 W g1 g2 b0 k1 k2

theorem fnExactOddModel_holds : Rows.FnExactOddModelSaid :=
  OpenClaim.holds_of_wide 3 Try.f3 rfl rfl rfl rfl rfl rfl rfl ⟨rfl, rfl, rfl, rfl, rfl⟩ rfl rfl rfl rfl rfl (by kernel_rfl) Try.func3 (by kernel_rfl)
    (of_decide_eq_true (by kernel_rfl)) (by unfold Func.isWrapper; first | (rw [if_pos (by decide +kernel)]; kernel_rfl) | (rw [if_neg (by decide +kernel)]; exact ⟨rfl, rfl⟩))
    (fun os started H enc _ => fnExactOddModel_lifted os started H enc)
end Go.Proofs.Ytaghnkmcnomegaa
