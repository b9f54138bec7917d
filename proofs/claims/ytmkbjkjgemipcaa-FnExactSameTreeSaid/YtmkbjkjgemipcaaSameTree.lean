/- SameTree answers as its model, for all arguments; it writes into no argument. -/
import Derived.Test.YtmkbjkjgemipcaaSmT
import Derived.Test.YtmkbjkjgemipcaaIl
import Derived.Deep.RegionWith
import Derived.Deep.DeepCutAuto
import Derived.Test.YtmkbjkjgemipcaaFrame
import Derived.Outline
namespace Go.Proofs.Ytmkbjkjgemipcaa
open Go.ChangeShapes Go.WideShapes Go.ChangeAt Go.RowKit Go.ChangeMaps

set_option maxRecDepth 100000 in
set_option maxHeartbeats 8000000 in
theorem fnExactSameTree_main (v0 v1 : Value) (A : Tr) (B : Tr) (w : World) (hv0 : TrV w v0 A) (hv1 : TrV w v1 B) (o0 : OKTr A) (o1 : OKTr B) (hm : (A.size : Int) + (B.size : Int) ≤ (1048576 : Int)) :
    Calls Try.prog 5 #[v0, v1] w (Says true w) := by
  have V0 := Lib.hid hv0
  obtain ⟨s01, s02, rfl, -, -⟩ := hv0
  have V1 := Lib.hid hv1
  obtain ⟨s11, s12, rfl, -, -⟩ := hv1
  have F0_1 := Lib.hid (Box2.mk' w (s01) (s02) 29)
  have F0_2 := Lib.hid (show Box2 _ (w.heap.size + 1) (s11) (s12) from (by have h := Box2.mk' (w.alloc (.cells #[s01, s02] 29)) (s11) (s12) 29; simpa using h : Box2 ((w.alloc (.cells #[s01, s02] 29)).alloc (.cells #[s11, s12] 29)) (w.heap.size + 1) (s11) (s12)))
  have hs0 := o0.size
  have hs1 := o1.size
  have ht0 : decide (1048576 - (A.size : Int) < 0) = false := by simp; omega
  have ht1 : decide (1048576 - (A.size : Int) - (B.size : Int) < 0) = false := by simp; omega
  have hmm := hm
  go_enter Try.func5, Try.ntmps5
  go_wp2_with fail
  go_at_call 19; refine (szTree_yes _ A _ _ (V0.out.below ((Below.refl w.heap.size w).trans (((below_alloc w _).alloc (by simp) _).mono (Below.refl w.heap.size w).size)) (Nat.le_refl _)) (by omega) (by omega)).mono ?_; rintro e w1 ⟨rfl, b⟩
  have bz := ((below_alloc w _).alloc (by simp) _).trans (b.mono ((below_alloc w _).alloc (by simp) _).size)
  have F1_1 := Lib.hid (F0_1.out.keep ((below_alloc _ _).trans (b.mono (by simp))) F0_1.out.lt)
  have lb1 : w.heap.size < w1.heap.size := F1_1.out.lt
  have F1_2 := Lib.hid (F0_2.out.keep b F0_2.out.lt)
  have lb2 : w.heap.size + 1 < w1.heap.size := F1_2.out.lt
  have z1 : w.heap.size ≤ w1.heap.size := bz.size
  have H1 := Lib.hid ((Below.refl w.heap.size w).trans (bz.mono (Below.refl w.heap.size w).size))
  clear b bz F0_1 F0_2
  obtain ⟨c1_0, c1_1⟩ := F1_1.out
  have l1 := F1_1.out.lt
  obtain ⟨c2_0, c2_1⟩ := F1_2.out
  have l2 := F1_2.out.lt
  go_wp2_with fail
  clear c1_0 c1_1 l1 c2_0 c2_1 l2
  go_at_call 19; refine (szTree_yes _ B _ _ (V1.out.below H1.out (Nat.le_refl _)) (by omega) (by omega)).mono ?_; rintro e w2 ⟨rfl, b⟩
  have bz := b
  have F2_1 := Lib.hid (F1_1.out.keep bz F1_1.out.lt)
  have F2_2 := Lib.hid (F1_2.out.keep bz F1_2.out.lt)
  have z2 : w1.heap.size ≤ w2.heap.size := bz.size
  have H2 := Lib.hid (H1.out.trans (bz.mono H1.out.size))
  clear b bz F1_1 F1_2 H1
  obtain ⟨c1_0, c1_1⟩ := F2_1.out
  have l1 := F2_1.out.lt
  obtain ⟨c2_0, c2_1⟩ := F2_2.out
  have l2 := F2_2.out.lt
  go_upto_region 8 with fail
  clear c1_0 c1_1 l1 c2_0 c2_1 l2
  go_cut [6] (fun s wx => s = .bool (sameTr A B) ∧ Hid ((Below w.heap.size w wx) ∧ (w2.heap.size ≤ wx.heap.size) ∧ (Box2 wx w.heap.size (s01) (s02)) ∧ (Box2 wx (w.heap.size + 1) (s11) (s12))))
  case first =>
    obtain ⟨c1_0, c1_1⟩ := F2_1.out
    have l1 := F2_1.out.lt
    obtain ⟨c2_0, c2_1⟩ := F2_2.out
    have l2 := F2_2.out.lt
    have D0 := Lib.hid (show Below w.heap.size w w2.drew from below_drewN H2.out 1)
    go_region_with (first | (go_at_call 21; (with_reducible refine (toTree_any _ A _ (V0.out.below D0.out (Nat.le_refl _)) (by omega)).mono ?_); rintro e wa1 ⟨q0v, rfl, i, b⟩; have bz := (below_drewN (Below.refl w2.heap.size w2) 1).trans b; have A1 := Lib.hid (H2.out.trans (bz.mono H2.out.size)); have zz1 := bz.size; have Y1_1 := Lib.hid (F2_1.out.keep bz F2_1.out.lt); obtain ⟨e1_1_0, e1_1_1⟩ := Y1_1.out; have m1_1 := Y1_1.out.lt; have Y1_2 := Lib.hid (F2_2.out.keep bz F2_2.out.lt); obtain ⟨e1_2_0, e1_2_1⟩ := Y1_2.out; have m1_2 := Y1_2.out.lt; have Q0_1 := Lib.hid i.trv; clear i b bz) | (go_at_call 21; (with_reducible refine (toTree_any _ B _ (V1.out.below A1.out (Nat.le_refl _)) (by omega)).mono ?_); rintro e wa2 ⟨q1v, rfl, i, b⟩; have bz := b; have A2 := Lib.hid (A1.out.trans (bz.mono A1.out.size)); have zz2 := bz.size; have Y2_1 := Lib.hid (Y1_1.out.keep bz Y1_1.out.lt); obtain ⟨e2_1_0, e2_1_1⟩ := Y2_1.out; have m2_1 := Y2_1.out.lt; have Y2_2 := Lib.hid (Y1_2.out.keep bz Y1_2.out.lt); obtain ⟨e2_2_0, e2_2_1⟩ := Y2_2.out; have m2_2 := Y2_2.out.lt; have Q0_2 := Lib.hid (Q0_1.out.below bz (Nat.le_refl _)); have Q1_2 := Lib.hid i.trv; clear i b bz) | (go_at_call 24; refine (specSameTree_any _ A _ B _ Q0_2.out Q1_2.out o0 o1).mono ?_; rintro e wz ⟨rfl, b⟩; have H2 := Lib.hid (A2.out.trans (b.mono A2.out.size)); have zy := b.size; have U1 := Lib.hid (Y2_1.out.keep b Y2_1.out.lt); have U2 := Lib.hid (Y2_2.out.keep b Y2_2.out.lt); clear b))
    all_goals
      go_wp2_with fail
      go_meet
      exact ⟨rfl, Lib.hid ⟨H2.out, Nat.le_trans (Nat.le_trans zz1 zz2) zy, U1.out, U2.out⟩⟩
  case rest =>
    obtain ⟨w3, rfl⟩ : ∃ x : World, x = wc := ⟨_, rfl⟩
    obtain ⟨rfl, hcc⟩ := hcut
    obtain ⟨hH, z3, f1, f2⟩ := hcc.out
    have H3 := Lib.hid hH
    have F3_1 := Lib.hid f1
    have F3_2 := Lib.hid f2
    clear hcc hH f1 F2_1 f2 F2_2 H2
    obtain ⟨c1_0, c1_1⟩ := F3_1.out
    have l1 := F3_1.out.lt
    obtain ⟨c2_0, c2_1⟩ := F3_2.out
    have l2 := F3_2.out.lt
    go_wp2_with fail
    clear c1_0 c1_1 l1 c2_0 c2_1 l2
    go_at_call 21; refine (toTree_any _ A _ (V0.out.below H3.out (Nat.le_refl _)) (by omega)).mono ?_; rintro e w4 ⟨x0v, rfl, i, b⟩
    obtain ⟨x0c1, x0ck1, x0c2, x0ck2, rfl⟩ := i.split
    have F4_3 := Lib.hid (TrD.wide (lo' := w3.heap.size) i (Below.refl w3.heap.size w3).size)
    clear i
    have bz := b
    have F4_1 := Lib.hid (F3_1.out.keep bz F3_1.out.lt)
    have F4_2 := Lib.hid (F3_2.out.keep bz F3_2.out.lt)
    have z4 : w3.heap.size ≤ w4.heap.size := bz.size
    have H4 := Lib.hid (H3.out.trans (bz.mono H3.out.size))
    clear b bz F3_1 F3_2 H3
    have F4_4 := Lib.hid (Box2.mk' w4 (.slice x0c1 A.P.length x0ck1) (.slice x0c2 A.V.length x0ck2) 32)
    obtain ⟨c1_0, c1_1⟩ := F4_1.out
    have l1 := F4_1.out.lt
    obtain ⟨c2_0, c2_1⟩ := F4_2.out
    have l2 := F4_2.out.lt
    go_wp2_with fail
    clear c1_0 c1_1 l1 c2_0 c2_1 l2
    go_at_call 21; refine (toTree_any _ B _ (V1.out.below (H4.out.trans ((below_alloc w4 _).mono H4.out.size)) (Nat.le_refl _)) (by omega)).mono ?_; rintro e w5 ⟨x1v, rfl, i, b⟩
    obtain ⟨x1c1, x1ck1, x1c2, x1ck2, rfl⟩ := i.split
    have F5_5 := Lib.hid (TrD.wide (lo' := (w4.heap.size + 1)) i (by simp))
    clear i
    have bz := (below_alloc w4 _).trans (b.mono (below_alloc w4 _).size)
    have F5_1 := Lib.hid (F4_1.out.keep bz F4_1.out.lt)
    have F5_2 := Lib.hid (F4_2.out.keep bz F4_2.out.lt)
    have F5_3 := Lib.hid (F4_3.out.below bz (Nat.le_refl _))
    have F5_4 := Lib.hid (F4_4.out.keep b F4_4.out.lt)
    have lb4 : w4.heap.size < w5.heap.size := F5_4.out.lt
    have z5 : w4.heap.size ≤ w5.heap.size := bz.size
    have H5 := Lib.hid (H4.out.trans (bz.mono H4.out.size))
    clear b bz F4_1 F4_2 F4_3 F4_4 H4
    have F5_6 := Lib.hid (Box2.mk' w5 (.slice x1c1 B.P.length x1ck1) (.slice x1c2 B.V.length x1ck2) 32)
    obtain ⟨c1_0, c1_1⟩ := F5_1.out
    have l1 := F5_1.out.lt
    obtain ⟨c2_0, c2_1⟩ := F5_2.out
    have l2 := F5_2.out.lt
    obtain ⟨c4_0, c4_1⟩ := F5_4.out
    have l4 := F5_4.out.lt
    go_wp2_with fail
    clear c1_0 c1_1 l1 c2_0 c2_1 l2 c4_0 c4_1 l4
    go_at_call 25; refine (implSameTree_any _ A _ B _ (F5_3.out.below (below_alloc w5 _) (Nat.le_refl _)).trv (F5_5.out.below (below_alloc w5 _) (Nat.le_refl _)).trv o0 o1).mono ?_; rintro e w6 ⟨rfl, b⟩
    have bz := (below_alloc w5 _).trans (b.mono (below_alloc w5 _).size)
    have F6_1 := Lib.hid (F5_1.out.keep bz F5_1.out.lt)
    have F6_2 := Lib.hid (F5_2.out.keep bz F5_2.out.lt)
    have F6_3 := Lib.hid (F5_3.out.below bz (Nat.le_refl _))
    have F6_4 := Lib.hid (F5_4.out.keep bz F5_4.out.lt)
    have F6_5 := Lib.hid (F5_5.out.below bz (Nat.le_refl _))
    have F6_6 := Lib.hid (F5_6.out.keep b F5_6.out.lt)
    have lb6 : w5.heap.size < w6.heap.size := F6_6.out.lt
    have z6 : w5.heap.size ≤ w6.heap.size := bz.size
    have H6 := Lib.hid (H5.out.trans (bz.mono H5.out.size))
    clear b bz F5_1 F5_2 F5_3 F5_4 F5_5 F5_6 H5
    obtain ⟨c1_0, c1_1⟩ := F6_1.out
    have l1 := F6_1.out.lt
    obtain ⟨c2_0, c2_1⟩ := F6_2.out
    have l2 := F6_2.out.lt
    obtain ⟨c4_0, c4_1⟩ := F6_4.out
    have l4 := F6_4.out.lt
    obtain ⟨c6_0, c6_1⟩ := F6_6.out
    have l6 := F6_6.out.lt
    go_upto_region 14 with fail
    clear c1_0 c1_1 l1 c2_0 c2_1 l2 c4_0 c4_1 l4 c6_0 c6_1 l6
    go_cut [39] (fun s wx => s = .bool false ∧ Hid ((Below w.heap.size w wx) ∧ (w6.heap.size ≤ wx.heap.size) ∧ (Box2 wx w.heap.size (s01) (s02)) ∧ (Box2 wx (w.heap.size + 1) (s11) (s12)) ∧ (TrD (w4.heap.size + 1) w5.heap.size wx ((.agg #[.slice x1c1 B.P.length x1ck1, .slice x1c2 B.V.length x1ck2])) B) ∧ (Box2 wx w5.heap.size (.slice x1c1 B.P.length x1ck1) (.slice x1c2 B.V.length x1ck2))))
    case first =>
      obtain ⟨c1_0, c1_1⟩ := F6_1.out
      have l1 := F6_1.out.lt
      obtain ⟨c2_0, c2_1⟩ := F6_2.out
      have l2 := F6_2.out.lt
      obtain ⟨c4_0, c4_1⟩ := F6_4.out
      have l4 := F6_4.out.lt
      obtain ⟨c6_0, c6_1⟩ := F6_6.out
      have l6 := F6_6.out.lt
      go_region_with (first | (go_at_call 21; refine (toTree_any _ A _ (V0.out.below (show Below w.heap.size w w6.drew from below_drewN H6.out 1) (Nat.le_refl _)) (by omega)).mono ?_; rintro e wy ⟨tv, rfl, i, b⟩; have bz := (below_drewN (Below.refl w6.heap.size w6) 1).trans b; have HH := Lib.hid (H6.out.trans (bz.mono H6.out.size)); have zz := bz.size; have Y1 := Lib.hid (F6_1.out.keep bz F6_1.out.lt); obtain ⟨e1_0, e1_1⟩ := Y1.out; have m1 := Y1.out.lt; have Y2 := Lib.hid (F6_2.out.keep bz F6_2.out.lt); obtain ⟨e2_0, e2_1⟩ := Y2.out; have m2 := Y2.out.lt; have Y3 := Lib.hid (F6_3.out.below bz (Nat.le_refl _)); have Y4 := Lib.hid (F6_4.out.keep bz F6_4.out.lt); obtain ⟨e4_0, e4_1⟩ := Y4.out; have m4 := Y4.out.lt; have Y5 := Lib.hid (F6_5.out.below bz (Nat.le_refl _)); have Y6 := Lib.hid (F6_6.out.keep bz F6_6.out.lt); obtain ⟨e6_0, e6_1⟩ := Y6.out; have m6 := Y6.out.lt; have TT := Lib.hid i.trv; clear i b bz) | (go_at_call 23; refine (eqTree_any _ _ A _ (by omega) Y3.out.trv TT.out).mono ?_; rintro e wz ⟨rfl, b⟩; have H2 := Lib.hid (HH.out.trans (b.mono HH.out.size)); have zy := b.size; have U1 := Lib.hid (Y1.out.keep b Y1.out.lt); have U2 := Lib.hid (Y2.out.keep b Y2.out.lt); have U5 := Lib.hid (Y5.out.below b (Nat.le_refl _)); have U6 := Lib.hid (Y6.out.keep b Y6.out.lt); clear b))
      all_goals
        go_wp2_with fail
        go_meet
        exact ⟨rfl, Lib.hid ⟨H2.out, Nat.le_trans zz zy, U1.out, U2.out, U5.out, U6.out⟩⟩
    case rest =>
      obtain ⟨w7, rfl⟩ : ∃ x : World, x = wc := ⟨_, rfl⟩
      obtain ⟨rfl, hcc⟩ := hcut
      obtain ⟨hH, z7, f1, f2, f5, f6⟩ := hcc.out
      have H7 := Lib.hid hH
      have F7_1 := Lib.hid f1
      have F7_2 := Lib.hid f2
      have F7_5 := Lib.hid f5
      have F7_6 := Lib.hid f6
      clear hcc hH f1 F6_1 f2 F6_2 f5 F6_5 f6 F6_6 F6_3 F6_4 H6
      obtain ⟨c1_0, c1_1⟩ := F7_1.out
      have l1 := F7_1.out.lt
      obtain ⟨c2_0, c2_1⟩ := F7_2.out
      have l2 := F7_2.out.lt
      obtain ⟨c6_0, c6_1⟩ := F7_6.out
      have l6 := F7_6.out.lt
      go_upto_region 16 with fail
      clear c1_0 c1_1 l1 c2_0 c2_1 l2 c6_0 c6_1 l6
      go_cut [44] (fun s wx => s = .bool false ∧ Hid ((Below w.heap.size w wx) ∧ (w7.heap.size ≤ wx.heap.size) ∧ (Box2 wx w.heap.size (s01) (s02)) ∧ (Box2 wx (w.heap.size + 1) (s11) (s12))))
      case first =>
        obtain ⟨c1_0, c1_1⟩ := F7_1.out
        have l1 := F7_1.out.lt
        obtain ⟨c2_0, c2_1⟩ := F7_2.out
        have l2 := F7_2.out.lt
        obtain ⟨c6_0, c6_1⟩ := F7_6.out
        have l6 := F7_6.out.lt
        go_region_with (first | (go_at_call 21; refine (toTree_any _ B _ (V1.out.below (show Below w.heap.size w w7.drew from below_drewN H7.out 1) (Nat.le_refl _)) (by omega)).mono ?_; rintro e wy ⟨tv, rfl, i, b⟩; have bz := (below_drewN (Below.refl w7.heap.size w7) 1).trans b; have HH := Lib.hid (H7.out.trans (bz.mono H7.out.size)); have zz := bz.size; have Y1 := Lib.hid (F7_1.out.keep bz F7_1.out.lt); obtain ⟨e1_0, e1_1⟩ := Y1.out; have m1 := Y1.out.lt; have Y2 := Lib.hid (F7_2.out.keep bz F7_2.out.lt); obtain ⟨e2_0, e2_1⟩ := Y2.out; have m2 := Y2.out.lt; have Y5 := Lib.hid (F7_5.out.below bz (Nat.le_refl _)); have Y6 := Lib.hid (F7_6.out.keep bz F7_6.out.lt); obtain ⟨e6_0, e6_1⟩ := Y6.out; have m6 := Y6.out.lt; have TT := Lib.hid i.trv; clear i b bz) | (go_at_call 23; refine (eqTree_any _ _ B _ (by omega) Y5.out.trv TT.out).mono ?_; rintro e wz ⟨rfl, b⟩; have H2 := Lib.hid (HH.out.trans (b.mono HH.out.size)); have zy := b.size; have U1 := Lib.hid (Y1.out.keep b Y1.out.lt); have U2 := Lib.hid (Y2.out.keep b Y2.out.lt); clear b))
        all_goals
          go_wp2_with fail
          go_meet
          exact ⟨rfl, Lib.hid ⟨H2.out, Nat.le_trans zz zy, U1.out, U2.out⟩⟩
      case rest =>
        obtain ⟨w8, rfl⟩ : ∃ x : World, x = wc := ⟨_, rfl⟩
        obtain ⟨rfl, hcc⟩ := hcut
        obtain ⟨hH, z8, f1, f2⟩ := hcc.out
        have H8 := Lib.hid hH
        have F8_1 := Lib.hid f1
        have F8_2 := Lib.hid f2
        clear hcc hH f1 F7_1 f2 F7_2 F7_5 F7_6 H7
        obtain ⟨c1_0, c1_1⟩ := F8_1.out
        have l1 := F8_1.out.lt
        obtain ⟨c2_0, c2_1⟩ := F8_2.out
        have l2 := F8_2.out.lt
        go_wp2_with fail
        clear c1_0 c1_1 l1 c2_0 c2_1 l2
        go_ret
        exact says rfl H8.out
set_option maxRecDepth 100000 in
set_option maxHeartbeats 8000000 in
theorem fnExactSameTree_size0 (v0 v1 : Value) (A : Tr) (B : Tr) (w : World) (hv0 : TrV w v0 A) (hv1 : TrV w v1 B) (hb : 1048576 < (A.size : Int)) (fx : FitTr A) :
    Calls Try.prog 5 #[v0, v1] w (Says true w) := by
  have V0 := Lib.hid hv0
  obtain ⟨s01, s02, rfl, -, -⟩ := hv0
  have V1 := Lib.hid hv1
  obtain ⟨s11, s12, rfl, -, -⟩ := hv1
  have F0_1 := Lib.hid (Box2.mk' w (s01) (s02) 29)
  have F0_2 := Lib.hid (show Box2 _ (w.heap.size + 1) (s11) (s12) from (by have h := Box2.mk' (w.alloc (.cells #[s01, s02] 29)) (s11) (s12) 29; simpa using h : Box2 ((w.alloc (.cells #[s01, s02] 29)).alloc (.cells #[s11, s12] 29)) (w.heap.size + 1) (s11) (s12)))
  have hz : ∀ n : Nat, (0 : Int) ≤ n := fun n => Int.natCast_nonneg n
  go_enter Try.func5, Try.ntmps5
  go_wp2_with fail
  go_at_call 19; refine (szTree_no _ A _ _ (V0.out.below ((Below.refl w.heap.size w).trans (((below_alloc w _).alloc (by simp) _).mono (Below.refl w.heap.size w).size)) (Nat.le_refl _)) hb (by omega) (by omega) fx.1 fx.2.1).mono ?_; rintro e w1 ⟨rfl, b⟩
  have bz := ((below_alloc w _).alloc (by simp) _).trans (b.mono ((below_alloc w _).alloc (by simp) _).size)
  have F1_1 := Lib.hid (F0_1.out.keep ((below_alloc _ _).trans (b.mono (by simp))) F0_1.out.lt)
  have lb1 : w.heap.size < w1.heap.size := F1_1.out.lt
  have F1_2 := Lib.hid (F0_2.out.keep b F0_2.out.lt)
  have lb2 : w.heap.size + 1 < w1.heap.size := F1_2.out.lt
  have z1 : w.heap.size ≤ w1.heap.size := bz.size
  have H1 := Lib.hid ((Below.refl w.heap.size w).trans (bz.mono (Below.refl w.heap.size w).size))
  clear b bz F0_1 F0_2
  obtain ⟨c1_0, c1_1⟩ := F1_1.out
  have l1 := F1_1.out.lt
  obtain ⟨c2_0, c2_1⟩ := F1_2.out
  have l2 := F1_2.out.lt
  go_wp2_with fail
  clear c1_0 c1_1 l1 c2_0 c2_1 l2
  go_ret
  exact says rfl H1.out

set_option maxRecDepth 100000 in
set_option maxHeartbeats 8000000 in
theorem fnExactSameTree_size1 (v0 v1 : Value) (A : Tr) (B : Tr) (w : World) (hv0 : TrV w v0 A) (hv1 : TrV w v1 B) (hm : (A.size : Int) ≤ (1048576 : Int)) (hb : 1048576 - (A.size : Int) < (B.size : Int)) (fx : FitTr B) :
    Calls Try.prog 5 #[v0, v1] w (Says true w) := by
  have V0 := Lib.hid hv0
  obtain ⟨s01, s02, rfl, -, -⟩ := hv0
  have V1 := Lib.hid hv1
  obtain ⟨s11, s12, rfl, -, -⟩ := hv1
  have F0_1 := Lib.hid (Box2.mk' w (s01) (s02) 29)
  have F0_2 := Lib.hid (show Box2 _ (w.heap.size + 1) (s11) (s12) from (by have h := Box2.mk' (w.alloc (.cells #[s01, s02] 29)) (s11) (s12) 29; simpa using h : Box2 ((w.alloc (.cells #[s01, s02] 29)).alloc (.cells #[s11, s12] 29)) (w.heap.size + 1) (s11) (s12)))
  have hz : ∀ n : Nat, (0 : Int) ≤ n := fun n => Int.natCast_nonneg n
  have ht_1 : decide (1048576 - (A.size : Int) < 0) = false := by simp; omega
  go_enter Try.func5, Try.ntmps5
  go_wp2_with fail
  go_at_call 19; refine (szTree_yes _ A _ _ (V0.out.below ((Below.refl w.heap.size w).trans (((below_alloc w _).alloc (by simp) _).mono (Below.refl w.heap.size w).size)) (Nat.le_refl _)) (by omega) (by omega)).mono ?_; rintro e w1 ⟨rfl, b⟩
  have bz := ((below_alloc w _).alloc (by simp) _).trans (b.mono ((below_alloc w _).alloc (by simp) _).size)
  have F1_1 := Lib.hid (F0_1.out.keep ((below_alloc _ _).trans (b.mono (by simp))) F0_1.out.lt)
  have lb1 : w.heap.size < w1.heap.size := F1_1.out.lt
  have F1_2 := Lib.hid (F0_2.out.keep b F0_2.out.lt)
  have lb2 : w.heap.size + 1 < w1.heap.size := F1_2.out.lt
  have z1 : w.heap.size ≤ w1.heap.size := bz.size
  have H1 := Lib.hid ((Below.refl w.heap.size w).trans (bz.mono (Below.refl w.heap.size w).size))
  clear b bz F0_1 F0_2
  obtain ⟨c1_0, c1_1⟩ := F1_1.out
  have l1 := F1_1.out.lt
  obtain ⟨c2_0, c2_1⟩ := F1_2.out
  have l2 := F1_2.out.lt
  go_wp2_with fail
  clear c1_0 c1_1 l1 c2_0 c2_1 l2
  go_at_call 19; refine (szTree_no _ B _ _ (V1.out.below H1.out (Nat.le_refl _)) hb (by omega) (by omega) fx.1 fx.2.1).mono ?_; rintro e w2 ⟨rfl, b⟩
  have bz := b
  have F2_1 := Lib.hid (F1_1.out.keep bz F1_1.out.lt)
  have F2_2 := Lib.hid (F1_2.out.keep bz F1_2.out.lt)
  have z2 : w1.heap.size ≤ w2.heap.size := bz.size
  have H2 := Lib.hid (H1.out.trans (bz.mono H1.out.size))
  clear b bz F1_1 F1_2 H1
  obtain ⟨c1_0, c1_1⟩ := F2_1.out
  have l1 := F2_1.out.lt
  obtain ⟨c2_0, c2_1⟩ := F2_2.out
  have l2 := F2_2.out.lt
  go_wp2_with fail
  clear c1_0 c1_1 l1 c2_0 c2_1 l2
  go_ret
  exact says rfl H2.out

set_option maxRecDepth 100000 in
set_option maxHeartbeats 8000000 in
theorem fnExactSameTree_all (v0 v1 : Value) (A : Tr) (B : Tr) (w : World) (hv0 : TrV w v0 A) (hv1 : TrV w v1 B) (f0 : FitTr A) (f1 : FitTr B) :
    Calls Try.prog 5 #[v0, v1] w (Says true w) := by
  by_cases hb0 : 1048576 < (A.size : Int)
  · exact fnExactSameTree_size0 v0 v1 A B w hv0 hv1  hb0 f0
  by_cases hb1 : 1048576 - (A.size : Int) < (B.size : Int)
  · exact fnExactSameTree_size1 v0 v1 A B w hv0 hv1  (by omega) hb1 f1
  exact fnExactSameTree_main v0 v1 A B w hv0 hv1 ⟨by omega, f0⟩ ⟨by omega, f1⟩ (by omega)

theorem Try.own : ownKnob Try.prog.godebug = none := by kernel_rfl
theorem Try.laidOut : laidOutB Try.prog = true := by kernel_rfl
theorem f32_lt {x : Nat} (h : (Lit.float .f32 x).wf = true) : x < 4294967296 := by simpa [Lit.wf] using h
theorem f64_lt {x : Nat} (h : (Lit.float .f64 x).wf = true) : x < 18446744073709551616 := by simpa [Lit.wf] using h
theorem i64_in {x : Int} (h : (Lit.int .i64 x).wf = true) : -9223372036854775808 ≤ x ∧ x ≤ 9223372036854775807 := by
  have h1 : IntKind.i64.min = -9223372036854775808 := by decide
  have h2 : IntKind.i64.max = 9223372036854775807 := by decide
  simp only [Lit.wf, Bool.and_eq_true, decide_eq_true_eq, h1, h2] at h
  exact h

set_option maxRecDepth 100000 in
theorem fnExactSameTree_lifted (os : Os) (started : os.Started) (H : Type) (enc : TypeId × Value → H) :
    ReturnsInHanded {} Try.checked os 5 .any (Rows.fnExactSameTreeSpec.pre6 enc Try.prog Try.f5 [] false) (Rows.fnExactSameTreeSpec.post enc Try.prog Try.f5 false true false false) := by
  refine Frame.law_lifted (tb := 4) Try.own started (by kernel_rfl) Try.func5
    (ChangeSpec.witness6 (enc := enc) (C := Try.checked) false ⟨#[], #[.agg #[.slice none 0 0, .slice none 0 0], .agg #[.slice none 0 0, .slice none 0 0]], []⟩ 8 (by kernel_rfl) (by kernel_rfl) (by kernel_rfl) (by kernel_rfl))
    Try.laidOut (by kernel_rfl) rfl (by kernel_rfl) Try.underlying4 (fun ds hd => ?_) ?_
  · rw [Try.params5] at hd
    match ds, hd with
    | [_, _], _ => exact ⟨rfl, rfl, rfl⟩
  intro W base args ds p hval0 hA0 hlt hsz0
  have hval : ∀ (j : Nat) t v, Try.f5.params[j]? = some t → args[j]? = some v → Value.okWide Try.prog W .any base t v := hval0
  have hA : DataW.TrodAll enc Try.prog W 0 (fun _ => true) true Try.f5.params.toList args.toList ds p := hA0
  have hsz : (DataW.weightsEach Try.prog Try.f5.params.toList ds).all (· ≤ reachBytes) = true := hsz0
  rw [Try.params5] at hA hval hsz
  clear hval0 hA0 hsz0
  obtain ⟨v0, v1, d0, d1, p0, p1, rfl, rfl, rfl, h0, h1⟩ := trodAll_two hA
  obtain ⟨r0, g0, k0⟩ := open_tree (hval 0 29 v0 rfl rfl) h0
  obtain ⟨r1, g1, k1⟩ := open_tree (hval 1 29 v1 rfl rfl) h1
  exact fnExactSameTree_all v0 v1 r0 r1 W g0 g1 k0 k1

theorem fnExactSameTree_holds : Rows.FnExactSameTreeSaid :=
  OpenClaim.holds_of_wide 5 Try.f5 rfl rfl rfl rfl rfl rfl rfl ⟨rfl, rfl, rfl, rfl, rfl⟩ rfl rfl rfl rfl rfl (by kernel_rfl) Try.func5 (by kernel_rfl)
    (of_decide_eq_true (by kernel_rfl)) (by unfold Func.isWrapper; first | (rw [if_pos (by decide +kernel)]; kernel_rfl) | (rw [if_neg (by decide +kernel)]; exact ⟨rfl, rfl⟩))
    (fun os started H enc _ => fnExactSameTree_lifted os started H enc)
end Go.Proofs.Ytmkbjkjgemipcaa
