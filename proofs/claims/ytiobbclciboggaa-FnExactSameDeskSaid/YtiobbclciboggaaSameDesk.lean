/- SameDesk answers as its model, for all arguments; it writes into no argument. -/
import Derived.Test.YtiobbclciboggaaDkQ
import Derived.Test.YtiobbclciboggaaIl
import Derived.Deep.RegionWith
import Derived.Deep.DeepCutAuto
import Derived.Test.YtiobbclciboggaaFrame
import Derived.Outline
namespace Go.Proofs.Ytiobbclciboggaa
open Go.ChangeShapes Go.WideShapes Go.ChangeAt Go.RowKit Go.ChangeMaps

set_option maxRecDepth 100000 in
set_option maxHeartbeats 8000000 in
theorem fnExactSameDesk_main (v0 v1 : Value) (A : Dk) (B : Dk) (w : World) (hv0 : DkV w v0 A) (hv1 : DkV w v1 B) (o0 : OKDk A) (o1 : OKDk B) (hm : (A.sz : Int) + (B.sz : Int) ≤ (1048576 : Int)) :
    Calls Try.prog 13 #[v0, v1] w (Says true w) := by
  have V0 := Lib.hid hv0
  obtain ⟨s01, s02, s03, s04, s05, s06, rfl, -, -, -, -, -, -⟩ := hv0
  have V1 := Lib.hid hv1
  obtain ⟨s11, s12, s13, s14, s15, s16, rfl, -, -, -, -, -, -⟩ := hv1
  have F0_1 := Lib.hid (Box7.mk' w (.int .i64 A.rows.vars) (s01) (s02) (s03) (s04) (s05) (s06) 64)
  have F0_2 := Lib.hid (show Box7 _ (w.heap.size + 1) (.int .i64 B.rows.vars) (s11) (s12) (s13) (s14) (s15) (s16) from (by have h := Box7.mk' (w.alloc (.cells #[.int .i64 A.rows.vars, s01, s02, s03, s04, s05, s06] 64)) (.int .i64 B.rows.vars) (s11) (s12) (s13) (s14) (s15) (s16) 64; simpa using h : Box7 ((w.alloc (.cells #[.int .i64 A.rows.vars, s01, s02, s03, s04, s05, s06] 64)).alloc (.cells #[.int .i64 B.rows.vars, s11, s12, s13, s14, s15, s16] 64)) (w.heap.size + 1) (.int .i64 B.rows.vars) (s11) (s12) (s13) (s14) (s15) (s16)))
  have hs0 := o0.size
  have hs1 := o1.size
  have ht0 : decide (1048576 - (A.sz : Int) < 0) = false := by simp; omega
  have ht1 : decide (1048576 - (A.sz : Int) - (B.sz : Int) < 0) = false := by simp; omega
  have hmm := hm
  go_enter Try.func13, Try.ntmps13
  go_wp2_with fail
  go_at_call 50; refine (szDesk_yes _ A _ _ (V0.out.below ((Below.refl w.heap.size w).trans (((below_alloc w _).alloc (by simp) _).mono (Below.refl w.heap.size w).size)) (Nat.le_refl _)) (by omega) (by omega)).mono ?_; rintro e w1 ⟨rfl, b⟩
  have bz := ((below_alloc w _).alloc (by simp) _).trans (b.mono ((below_alloc w _).alloc (by simp) _).size)
  have F1_1 := Lib.hid (F0_1.out.keep ((below_alloc _ _).trans (b.mono (by simp))) F0_1.out.lt)
  have lb1 : w.heap.size < w1.heap.size := F1_1.out.lt
  have F1_2 := Lib.hid (F0_2.out.keep b F0_2.out.lt)
  have lb2 : w.heap.size + 1 < w1.heap.size := F1_2.out.lt
  have z1 : w.heap.size ≤ w1.heap.size := bz.size
  have H1 := Lib.hid ((Below.refl w.heap.size w).trans (bz.mono (Below.refl w.heap.size w).size))
  clear b bz F0_1 F0_2
  obtain ⟨c1_0, c1_1, c1_2, c1_3, c1_4, c1_5, c1_6⟩ := F1_1.out
  have l1 := F1_1.out.lt
  obtain ⟨c2_0, c2_1, c2_2, c2_3, c2_4, c2_5, c2_6⟩ := F1_2.out
  have l2 := F1_2.out.lt
  go_wp2_with fail
  clear c1_0 c1_1 c1_2 c1_3 c1_4 c1_5 c1_6 l1 c2_0 c2_1 c2_2 c2_3 c2_4 c2_5 c2_6 l2
  go_at_call 50; refine (szDesk_yes _ B _ _ (V1.out.below H1.out (Nat.le_refl _)) (by omega) (by omega)).mono ?_; rintro e w2 ⟨rfl, b⟩
  have bz := b
  have F2_1 := Lib.hid (F1_1.out.keep bz F1_1.out.lt)
  have F2_2 := Lib.hid (F1_2.out.keep bz F1_2.out.lt)
  have z2 : w1.heap.size ≤ w2.heap.size := bz.size
  have H2 := Lib.hid (H1.out.trans (bz.mono H1.out.size))
  clear b bz F1_1 F1_2 H1
  obtain ⟨c1_0, c1_1, c1_2, c1_3, c1_4, c1_5, c1_6⟩ := F2_1.out
  have l1 := F2_1.out.lt
  obtain ⟨c2_0, c2_1, c2_2, c2_3, c2_4, c2_5, c2_6⟩ := F2_2.out
  have l2 := F2_2.out.lt
  go_upto_region 8 with fail
  clear c1_0 c1_1 c1_2 c1_3 c1_4 c1_5 c1_6 l1 c2_0 c2_1 c2_2 c2_3 c2_4 c2_5 c2_6 l2
  go_cut [6] (fun s wx => s = .bool (sameDk A B) ∧ Hid ((Below w.heap.size w wx) ∧ (w2.heap.size ≤ wx.heap.size) ∧ (Box7 wx w.heap.size (.int .i64 A.rows.vars) (s01) (s02) (s03) (s04) (s05) (s06)) ∧ (Box7 wx (w.heap.size + 1) (.int .i64 B.rows.vars) (s11) (s12) (s13) (s14) (s15) (s16))))
  case first =>
    obtain ⟨c1_0, c1_1, c1_2, c1_3, c1_4, c1_5, c1_6⟩ := F2_1.out
    have l1 := F2_1.out.lt
    obtain ⟨c2_0, c2_1, c2_2, c2_3, c2_4, c2_5, c2_6⟩ := F2_2.out
    have l2 := F2_2.out.lt
    have D0 := Lib.hid (show Below w.heap.size w w2.drew from below_drewN H2.out 1)
    go_region_with (first | (go_at_call 52; (with_reducible refine (toDesk_any _ A _ (V0.out.below D0.out (Nat.le_refl _)) (by omega)).mono ?_); rintro e wa1 ⟨q0v, rfl, i, b⟩; have bz := (below_drewN (Below.refl w2.heap.size w2) 1).trans b; have A1 := Lib.hid (H2.out.trans (bz.mono H2.out.size)); have zz1 := bz.size; have Y1_1 := Lib.hid (F2_1.out.keep bz F2_1.out.lt); obtain ⟨e1_1_0, e1_1_1, e1_1_2, e1_1_3, e1_1_4, e1_1_5, e1_1_6⟩ := Y1_1.out; have m1_1 := Y1_1.out.lt; have Y1_2 := Lib.hid (F2_2.out.keep bz F2_2.out.lt); obtain ⟨e1_2_0, e1_2_1, e1_2_2, e1_2_3, e1_2_4, e1_2_5, e1_2_6⟩ := Y1_2.out; have m1_2 := Y1_2.out.lt; have Q0_1 := Lib.hid i.dkv; clear i b bz) | (go_at_call 52; (with_reducible refine (toDesk_any _ B _ (V1.out.below A1.out (Nat.le_refl _)) (by omega)).mono ?_); rintro e wa2 ⟨q1v, rfl, i, b⟩; have bz := b; have A2 := Lib.hid (A1.out.trans (bz.mono A1.out.size)); have zz2 := bz.size; have Y2_1 := Lib.hid (Y1_1.out.keep bz Y1_1.out.lt); obtain ⟨e2_1_0, e2_1_1, e2_1_2, e2_1_3, e2_1_4, e2_1_5, e2_1_6⟩ := Y2_1.out; have m2_1 := Y2_1.out.lt; have Y2_2 := Lib.hid (Y1_2.out.keep bz Y1_2.out.lt); obtain ⟨e2_2_0, e2_2_1, e2_2_2, e2_2_3, e2_2_4, e2_2_5, e2_2_6⟩ := Y2_2.out; have m2_2 := Y2_2.out.lt; have Q0_2 := Lib.hid (Q0_1.out.below bz (Nat.le_refl _)); have Q1_2 := Lib.hid i.dkv; clear i b bz) | (go_at_call 51; refine (specSameDesk_any _ A _ B _ Q0_2.out Q1_2.out o0 o1).mono ?_; rintro e wz ⟨rfl, b⟩; have H2 := Lib.hid (A2.out.trans (b.mono A2.out.size)); have zy := b.size; have U1 := Lib.hid (Y2_1.out.keep b Y2_1.out.lt); have U2 := Lib.hid (Y2_2.out.keep b Y2_2.out.lt); clear b))
    all_goals
      go_wp2_with fail
      go_meet
      exact ⟨rfl, Lib.hid ⟨H2.out, Nat.le_trans (Nat.le_trans zz1 zz2) zy, U1.out, U2.out⟩⟩
  case rest =>
    obtain ⟨w3, rfl⟩ : ∃ x : World, x = wc := ⟨_, rfl⟩
    obtain ⟨rfl, hcc⟩ := hcut
    obtain ⟨hH, z3, f1, f2⟩ := hcc.out
    have H3 := Lib.hid hH
    have F3_1 := Lib.hid f1
    have F3_2 := Lib.hid f2
    clear hcc hH f1 F2_1 f2 F2_2 H2
    obtain ⟨c1_0, c1_1, c1_2, c1_3, c1_4, c1_5, c1_6⟩ := F3_1.out
    have l1 := F3_1.out.lt
    obtain ⟨c2_0, c2_1, c2_2, c2_3, c2_4, c2_5, c2_6⟩ := F3_2.out
    have l2 := F3_2.out.lt
    go_wp2_with fail
    clear c1_0 c1_1 c1_2 c1_3 c1_4 c1_5 c1_6 l1 c2_0 c2_1 c2_2 c2_3 c2_4 c2_5 c2_6 l2
    go_at_call 52; refine (toDesk_any _ A _ (V0.out.below H3.out (Nat.le_refl _)) (by omega)).mono ?_; rintro e w4 ⟨x0v, rfl, i, b⟩
    obtain ⟨x0c1, x0ck1, x0c2, x0ck2, x0c3, x0ck3, x0c4, x0ck4, x0c5, x0ck5, x0c6, x0ck6, rfl⟩ := i.split
    have F4_3 := Lib.hid (DkD.wide (lo' := w3.heap.size) i (Below.refl w3.heap.size w3).size)
    clear i
    have bz := b
    have F4_1 := Lib.hid (F3_1.out.keep bz F3_1.out.lt)
    have F4_2 := Lib.hid (F3_2.out.keep bz F3_2.out.lt)
    have z4 : w3.heap.size ≤ w4.heap.size := bz.size
    have H4 := Lib.hid (H3.out.trans (bz.mono H3.out.size))
    clear b bz F3_1 F3_2 H3
    have F4_4 := Lib.hid (Box7.mk' w4 (.int .i64 A.rows.vars) (.slice x0c1 A.rows.N.length x0ck1) (.slice x0c2 A.rows.B.length x0ck2) (.slice x0c3 A.rows.G.length x0ck3) (.slice x0c4 A.sizes.length x0ck4) (.slice x0c5 A.jobs.length x0ck5) (.slice x0c6 A.ways.length x0ck6) 56)
    obtain ⟨c1_0, c1_1, c1_2, c1_3, c1_4, c1_5, c1_6⟩ := F4_1.out
    have l1 := F4_1.out.lt
    obtain ⟨c2_0, c2_1, c2_2, c2_3, c2_4, c2_5, c2_6⟩ := F4_2.out
    have l2 := F4_2.out.lt
    go_wp2_with fail
    clear c1_0 c1_1 c1_2 c1_3 c1_4 c1_5 c1_6 l1 c2_0 c2_1 c2_2 c2_3 c2_4 c2_5 c2_6 l2
    go_at_call 52; refine (toDesk_any _ B _ (V1.out.below (H4.out.trans ((below_alloc w4 _).mono H4.out.size)) (Nat.le_refl _)) (by omega)).mono ?_; rintro e w5 ⟨x1v, rfl, i, b⟩
    obtain ⟨x1c1, x1ck1, x1c2, x1ck2, x1c3, x1ck3, x1c4, x1ck4, x1c5, x1ck5, x1c6, x1ck6, rfl⟩ := i.split
    have F5_5 := Lib.hid (DkD.wide (lo' := (w4.heap.size + 1)) i (by simp))
    clear i
    have bz := (below_alloc w4 _).trans (b.mono (below_alloc w4 _).size)
    have F5_1 := Lib.hid (F4_1.out.keep bz F4_1.out.lt)
    have F5_2 := Lib.hid (F4_2.out.keep bz F4_2.out.lt)
    have F5_3 := Lib.hid (F4_3.out.below bz (Nat.le_refl _))
    have F5_4 := Lib.hid (F4_4.out.keep b F4_4.out.lt)
    have lb4 : w4.heap.size < w5.heap.size := F5_4.out.lt
    have z5 : w4.heap.size ≤ w5.heap.size := bz.size
    have H5 := Lib.hid (H4.out.trans (bz.mono H4.out.size))
    clear b bz F4_1 F4_2 F4_3 F4_4 H4
    have F5_6 := Lib.hid (Box7.mk' w5 (.int .i64 B.rows.vars) (.slice x1c1 B.rows.N.length x1ck1) (.slice x1c2 B.rows.B.length x1ck2) (.slice x1c3 B.rows.G.length x1ck3) (.slice x1c4 B.sizes.length x1ck4) (.slice x1c5 B.jobs.length x1ck5) (.slice x1c6 B.ways.length x1ck6) 56)
    obtain ⟨c1_0, c1_1, c1_2, c1_3, c1_4, c1_5, c1_6⟩ := F5_1.out
    have l1 := F5_1.out.lt
    obtain ⟨c2_0, c2_1, c2_2, c2_3, c2_4, c2_5, c2_6⟩ := F5_2.out
    have l2 := F5_2.out.lt
    obtain ⟨c4_0, c4_1, c4_2, c4_3, c4_4, c4_5, c4_6⟩ := F5_4.out
    have l4 := F5_4.out.lt
    go_wp2_with fail
    clear c1_0 c1_1 c1_2 c1_3 c1_4 c1_5 c1_6 l1 c2_0 c2_1 c2_2 c2_3 c2_4 c2_5 c2_6 l2 c4_0 c4_1 c4_2 c4_3 c4_4 c4_5 c4_6 l4
    go_at_call 53; refine (implSameDesk_any _ A _ B _ (F5_3.out.below (below_alloc w5 _) (Nat.le_refl _)).dkv (F5_5.out.below (below_alloc w5 _) (Nat.le_refl _)).dkv o0 o1).mono ?_; rintro e w6 ⟨rfl, b⟩
    have bz := (below_alloc w5 _).trans (b.mono (below_alloc w5 _).size)
    have F6_1 := Lib.hid (F5_1.out.keep bz F5_1.out.lt)
    have F6_2 := Lib.hid (F5_2.out.keep bz F5_2.out.lt)
    have F6_3 := Lib.hid (F5_3.out.below bz (Nat.le_refl _))
    have F6_4 := Lib.hid (F5_4.out.keep bz F5_4.out.lt)
    have F6_5 := Lib.hid (F5_5.out.below bz (Nat.le_refl _))
    have F6_6 := Lib.hid (F5_6.out.keep b F5_6.out.lt)
    have lb6 : w5.heap.size < w6.heap.size := F6_6.out.lt
    have z6 : w5.heap.size ≤ w6.heap.size := bz.size
    have H6 := Lib.hid (H5.out.trans (bz.mono H5.out.size))
    clear b bz F5_1 F5_2 F5_3 F5_4 F5_5 F5_6 H5
    obtain ⟨c1_0, c1_1, c1_2, c1_3, c1_4, c1_5, c1_6⟩ := F6_1.out
    have l1 := F6_1.out.lt
    obtain ⟨c2_0, c2_1, c2_2, c2_3, c2_4, c2_5, c2_6⟩ := F6_2.out
    have l2 := F6_2.out.lt
    obtain ⟨c4_0, c4_1, c4_2, c4_3, c4_4, c4_5, c4_6⟩ := F6_4.out
    have l4 := F6_4.out.lt
    obtain ⟨c6_0, c6_1, c6_2, c6_3, c6_4, c6_5, c6_6⟩ := F6_6.out
    have l6 := F6_6.out.lt
    go_upto_region 14 with fail
    clear c1_0 c1_1 c1_2 c1_3 c1_4 c1_5 c1_6 l1 c2_0 c2_1 c2_2 c2_3 c2_4 c2_5 c2_6 l2 c4_0 c4_1 c4_2 c4_3 c4_4 c4_5 c4_6 l4 c6_0 c6_1 c6_2 c6_3 c6_4 c6_5 c6_6 l6
    go_cut [39] (fun s wx => s = .bool false ∧ Hid ((Below w.heap.size w wx) ∧ (w6.heap.size ≤ wx.heap.size) ∧ (Box7 wx w.heap.size (.int .i64 A.rows.vars) (s01) (s02) (s03) (s04) (s05) (s06)) ∧ (Box7 wx (w.heap.size + 1) (.int .i64 B.rows.vars) (s11) (s12) (s13) (s14) (s15) (s16)) ∧ (DkD (w4.heap.size + 1) w5.heap.size wx ((.agg #[.int .i64 B.rows.vars, .slice x1c1 B.rows.N.length x1ck1, .slice x1c2 B.rows.B.length x1ck2, .slice x1c3 B.rows.G.length x1ck3, .slice x1c4 B.sizes.length x1ck4, .slice x1c5 B.jobs.length x1ck5, .slice x1c6 B.ways.length x1ck6])) B) ∧ (Box7 wx w5.heap.size (.int .i64 B.rows.vars) (.slice x1c1 B.rows.N.length x1ck1) (.slice x1c2 B.rows.B.length x1ck2) (.slice x1c3 B.rows.G.length x1ck3) (.slice x1c4 B.sizes.length x1ck4) (.slice x1c5 B.jobs.length x1ck5) (.slice x1c6 B.ways.length x1ck6))))
    case first =>
      obtain ⟨c1_0, c1_1, c1_2, c1_3, c1_4, c1_5, c1_6⟩ := F6_1.out
      have l1 := F6_1.out.lt
      obtain ⟨c2_0, c2_1, c2_2, c2_3, c2_4, c2_5, c2_6⟩ := F6_2.out
      have l2 := F6_2.out.lt
      obtain ⟨c4_0, c4_1, c4_2, c4_3, c4_4, c4_5, c4_6⟩ := F6_4.out
      have l4 := F6_4.out.lt
      obtain ⟨c6_0, c6_1, c6_2, c6_3, c6_4, c6_5, c6_6⟩ := F6_6.out
      have l6 := F6_6.out.lt
      go_region_with (first | (go_at_call 52; refine (toDesk_any _ A _ (V0.out.below (show Below w.heap.size w w6.drew from below_drewN H6.out 1) (Nat.le_refl _)) (by omega)).mono ?_; rintro e wy ⟨tv, rfl, i, b⟩; have bz := (below_drewN (Below.refl w6.heap.size w6) 1).trans b; have HH := Lib.hid (H6.out.trans (bz.mono H6.out.size)); have zz := bz.size; have Y1 := Lib.hid (F6_1.out.keep bz F6_1.out.lt); obtain ⟨e1_0, e1_1, e1_2, e1_3, e1_4, e1_5, e1_6⟩ := Y1.out; have m1 := Y1.out.lt; have Y2 := Lib.hid (F6_2.out.keep bz F6_2.out.lt); obtain ⟨e2_0, e2_1, e2_2, e2_3, e2_4, e2_5, e2_6⟩ := Y2.out; have m2 := Y2.out.lt; have Y3 := Lib.hid (F6_3.out.below bz (Nat.le_refl _)); have Y4 := Lib.hid (F6_4.out.keep bz F6_4.out.lt); obtain ⟨e4_0, e4_1, e4_2, e4_3, e4_4, e4_5, e4_6⟩ := Y4.out; have m4 := Y4.out.lt; have Y5 := Lib.hid (F6_5.out.below bz (Nat.le_refl _)); have Y6 := Lib.hid (F6_6.out.keep bz F6_6.out.lt); obtain ⟨e6_0, e6_1, e6_2, e6_3, e6_4, e6_5, e6_6⟩ := Y6.out; have m6 := Y6.out.lt; have TT := Lib.hid i.dkv; clear i b bz) | (go_at_call 47; refine (eqDesk_any _ _ A _ (by omega) Y3.out.dkv TT.out).mono ?_; rintro e wz ⟨rfl, b⟩; have H2 := Lib.hid (HH.out.trans (b.mono HH.out.size)); have zy := b.size; have U1 := Lib.hid (Y1.out.keep b Y1.out.lt); have U2 := Lib.hid (Y2.out.keep b Y2.out.lt); have U5 := Lib.hid (Y5.out.below b (Nat.le_refl _)); have U6 := Lib.hid (Y6.out.keep b Y6.out.lt); clear b))
      all_goals
        go_wp2_with fail
        go_meet
        exact ⟨rfl, Lib.hid ⟨H2.out, Nat.le_trans zz zy, U1.out, U2.out, U5.out, U6.out⟩⟩
    case rest =>
      obtain ⟨w7, rfl⟩ : ∃ x : World, x = wc := ⟨_, rfl⟩
      obtain ⟨rfl, hcc⟩ := hcut
      obtain ⟨hH, z7, f1, f2, f5, f6⟩ := hcc.out
      have H7 := Lib.hid hH
      have F7_1 := Lib.hid f1
      have F7_2 := Lib.hid f2
      have F7_5 := Lib.hid f5
      have F7_6 := Lib.hid f6
      clear hcc hH f1 F6_1 f2 F6_2 f5 F6_5 f6 F6_6 F6_3 F6_4 H6
      obtain ⟨c1_0, c1_1, c1_2, c1_3, c1_4, c1_5, c1_6⟩ := F7_1.out
      have l1 := F7_1.out.lt
      obtain ⟨c2_0, c2_1, c2_2, c2_3, c2_4, c2_5, c2_6⟩ := F7_2.out
      have l2 := F7_2.out.lt
      obtain ⟨c6_0, c6_1, c6_2, c6_3, c6_4, c6_5, c6_6⟩ := F7_6.out
      have l6 := F7_6.out.lt
      go_upto_region 16 with fail
      clear c1_0 c1_1 c1_2 c1_3 c1_4 c1_5 c1_6 l1 c2_0 c2_1 c2_2 c2_3 c2_4 c2_5 c2_6 l2 c6_0 c6_1 c6_2 c6_3 c6_4 c6_5 c6_6 l6
      go_cut [44] (fun s wx => s = .bool false ∧ Hid ((Below w.heap.size w wx) ∧ (w7.heap.size ≤ wx.heap.size) ∧ (Box7 wx w.heap.size (.int .i64 A.rows.vars) (s01) (s02) (s03) (s04) (s05) (s06)) ∧ (Box7 wx (w.heap.size + 1) (.int .i64 B.rows.vars) (s11) (s12) (s13) (s14) (s15) (s16))))
      case first =>
        obtain ⟨c1_0, c1_1, c1_2, c1_3, c1_4, c1_5, c1_6⟩ := F7_1.out
        have l1 := F7_1.out.lt
        obtain ⟨c2_0, c2_1, c2_2, c2_3, c2_4, c2_5, c2_6⟩ := F7_2.out
        have l2 := F7_2.out.lt
        obtain ⟨c6_0, c6_1, c6_2, c6_3, c6_4, c6_5, c6_6⟩ := F7_6.out
        have l6 := F7_6.out.lt
        go_region_with (first | (go_at_call 52; refine (toDesk_any _ B _ (V1.out.below (show Below w.heap.size w w7.drew from below_drewN H7.out 1) (Nat.le_refl _)) (by omega)).mono ?_; rintro e wy ⟨tv, rfl, i, b⟩; have bz := (below_drewN (Below.refl w7.heap.size w7) 1).trans b; have HH := Lib.hid (H7.out.trans (bz.mono H7.out.size)); have zz := bz.size; have Y1 := Lib.hid (F7_1.out.keep bz F7_1.out.lt); obtain ⟨e1_0, e1_1, e1_2, e1_3, e1_4, e1_5, e1_6⟩ := Y1.out; have m1 := Y1.out.lt; have Y2 := Lib.hid (F7_2.out.keep bz F7_2.out.lt); obtain ⟨e2_0, e2_1, e2_2, e2_3, e2_4, e2_5, e2_6⟩ := Y2.out; have m2 := Y2.out.lt; have Y5 := Lib.hid (F7_5.out.below bz (Nat.le_refl _)); have Y6 := Lib.hid (F7_6.out.keep bz F7_6.out.lt); obtain ⟨e6_0, e6_1, e6_2, e6_3, e6_4, e6_5, e6_6⟩ := Y6.out; have m6 := Y6.out.lt; have TT := Lib.hid i.dkv; clear i b bz) | (go_at_call 47; refine (eqDesk_any _ _ B _ (by omega) Y5.out.dkv TT.out).mono ?_; rintro e wz ⟨rfl, b⟩; have H2 := Lib.hid (HH.out.trans (b.mono HH.out.size)); have zy := b.size; have U1 := Lib.hid (Y1.out.keep b Y1.out.lt); have U2 := Lib.hid (Y2.out.keep b Y2.out.lt); clear b))
        all_goals
          go_wp2_with fail
          go_meet
          exact ⟨rfl, Lib.hid ⟨H2.out, Nat.le_trans zz zy, U1.out, U2.out⟩⟩
      case rest =>
        obtain ⟨w8, rfl⟩ : ∃ x : World, x = wc := ⟨_, rfl⟩
        obtain ⟨rfl, hcc⟩ := hcut
        obtain ⟨hH, z8, f1, f2⟩ := hcc.out
        have H8 := Lib.hid hH
        have F8_1 := Lib.hid f1
        have F8_2 := Lib.hid f2
        clear hcc hH f1 F7_1 f2 F7_2 F7_5 F7_6 H7
        obtain ⟨c1_0, c1_1, c1_2, c1_3, c1_4, c1_5, c1_6⟩ := F8_1.out
        have l1 := F8_1.out.lt
        obtain ⟨c2_0, c2_1, c2_2, c2_3, c2_4, c2_5, c2_6⟩ := F8_2.out
        have l2 := F8_2.out.lt
        go_wp2_with fail
        clear c1_0 c1_1 c1_2 c1_3 c1_4 c1_5 c1_6 l1 c2_0 c2_1 c2_2 c2_3 c2_4 c2_5 c2_6 l2
        go_ret
        exact says rfl H8.out
set_option maxRecDepth 100000 in
set_option maxHeartbeats 8000000 in
theorem fnExactSameDesk_size0 (v0 v1 : Value) (A : Dk) (B : Dk) (w : World) (hv0 : DkV w v0 A) (hv1 : DkV w v1 B) (hb : 1048576 < (A.sz : Int)) (fx : FitDk A) :
    Calls Try.prog 13 #[v0, v1] w (Says true w) := by
  have V0 := Lib.hid hv0
  obtain ⟨s01, s02, s03, s04, s05, s06, rfl, -, -, -, -, -, -⟩ := hv0
  have V1 := Lib.hid hv1
  obtain ⟨s11, s12, s13, s14, s15, s16, rfl, -, -, -, -, -, -⟩ := hv1
  have F0_1 := Lib.hid (Box7.mk' w (.int .i64 A.rows.vars) (s01) (s02) (s03) (s04) (s05) (s06) 64)
  have F0_2 := Lib.hid (show Box7 _ (w.heap.size + 1) (.int .i64 B.rows.vars) (s11) (s12) (s13) (s14) (s15) (s16) from (by have h := Box7.mk' (w.alloc (.cells #[.int .i64 A.rows.vars, s01, s02, s03, s04, s05, s06] 64)) (.int .i64 B.rows.vars) (s11) (s12) (s13) (s14) (s15) (s16) 64; simpa using h : Box7 ((w.alloc (.cells #[.int .i64 A.rows.vars, s01, s02, s03, s04, s05, s06] 64)).alloc (.cells #[.int .i64 B.rows.vars, s11, s12, s13, s14, s15, s16] 64)) (w.heap.size + 1) (.int .i64 B.rows.vars) (s11) (s12) (s13) (s14) (s15) (s16)))
  have hz : ∀ n : Nat, (0 : Int) ≤ n := fun n => Int.natCast_nonneg n
  go_enter Try.func13, Try.ntmps13
  go_wp2_with fail
  go_at_call 50; refine (szDesk_no _ A _ _ (V0.out.below ((Below.refl w.heap.size w).trans (((below_alloc w _).alloc (by simp) _).mono (Below.refl w.heap.size w).size)) (Nat.le_refl _)) hb (by omega) (by omega) fx.1.1 fx.1.2.1 fx.1.2.2.1 fx.2.1.1 fx.2.2.1.1 fx.2.2.2.1).mono ?_; rintro e w1 ⟨rfl, b⟩
  have bz := ((below_alloc w _).alloc (by simp) _).trans (b.mono ((below_alloc w _).alloc (by simp) _).size)
  have F1_1 := Lib.hid (F0_1.out.keep ((below_alloc _ _).trans (b.mono (by simp))) F0_1.out.lt)
  have lb1 : w.heap.size < w1.heap.size := F1_1.out.lt
  have F1_2 := Lib.hid (F0_2.out.keep b F0_2.out.lt)
  have lb2 : w.heap.size + 1 < w1.heap.size := F1_2.out.lt
  have z1 : w.heap.size ≤ w1.heap.size := bz.size
  have H1 := Lib.hid ((Below.refl w.heap.size w).trans (bz.mono (Below.refl w.heap.size w).size))
  clear b bz F0_1 F0_2
  obtain ⟨c1_0, c1_1, c1_2, c1_3, c1_4, c1_5, c1_6⟩ := F1_1.out
  have l1 := F1_1.out.lt
  obtain ⟨c2_0, c2_1, c2_2, c2_3, c2_4, c2_5, c2_6⟩ := F1_2.out
  have l2 := F1_2.out.lt
  go_wp2_with fail
  clear c1_0 c1_1 c1_2 c1_3 c1_4 c1_5 c1_6 l1 c2_0 c2_1 c2_2 c2_3 c2_4 c2_5 c2_6 l2
  go_ret
  exact says rfl H1.out

set_option maxRecDepth 100000 in
set_option maxHeartbeats 8000000 in
theorem fnExactSameDesk_size1 (v0 v1 : Value) (A : Dk) (B : Dk) (w : World) (hv0 : DkV w v0 A) (hv1 : DkV w v1 B) (hm : (A.sz : Int) ≤ (1048576 : Int)) (hb : 1048576 - (A.sz : Int) < (B.sz : Int)) (fx : FitDk B) :
    Calls Try.prog 13 #[v0, v1] w (Says true w) := by
  have V0 := Lib.hid hv0
  obtain ⟨s01, s02, s03, s04, s05, s06, rfl, -, -, -, -, -, -⟩ := hv0
  have V1 := Lib.hid hv1
  obtain ⟨s11, s12, s13, s14, s15, s16, rfl, -, -, -, -, -, -⟩ := hv1
  have F0_1 := Lib.hid (Box7.mk' w (.int .i64 A.rows.vars) (s01) (s02) (s03) (s04) (s05) (s06) 64)
  have F0_2 := Lib.hid (show Box7 _ (w.heap.size + 1) (.int .i64 B.rows.vars) (s11) (s12) (s13) (s14) (s15) (s16) from (by have h := Box7.mk' (w.alloc (.cells #[.int .i64 A.rows.vars, s01, s02, s03, s04, s05, s06] 64)) (.int .i64 B.rows.vars) (s11) (s12) (s13) (s14) (s15) (s16) 64; simpa using h : Box7 ((w.alloc (.cells #[.int .i64 A.rows.vars, s01, s02, s03, s04, s05, s06] 64)).alloc (.cells #[.int .i64 B.rows.vars, s11, s12, s13, s14, s15, s16] 64)) (w.heap.size + 1) (.int .i64 B.rows.vars) (s11) (s12) (s13) (s14) (s15) (s16)))
  have hz : ∀ n : Nat, (0 : Int) ≤ n := fun n => Int.natCast_nonneg n
  have ht_1 : decide (1048576 - (A.sz : Int) < 0) = false := by simp; omega
  go_enter Try.func13, Try.ntmps13
  go_wp2_with fail
  go_at_call 50; refine (szDesk_yes _ A _ _ (V0.out.below ((Below.refl w.heap.size w).trans (((below_alloc w _).alloc (by simp) _).mono (Below.refl w.heap.size w).size)) (Nat.le_refl _)) (by omega) (by omega)).mono ?_; rintro e w1 ⟨rfl, b⟩
  have bz := ((below_alloc w _).alloc (by simp) _).trans (b.mono ((below_alloc w _).alloc (by simp) _).size)
  have F1_1 := Lib.hid (F0_1.out.keep ((below_alloc _ _).trans (b.mono (by simp))) F0_1.out.lt)
  have lb1 : w.heap.size < w1.heap.size := F1_1.out.lt
  have F1_2 := Lib.hid (F0_2.out.keep b F0_2.out.lt)
  have lb2 : w.heap.size + 1 < w1.heap.size := F1_2.out.lt
  have z1 : w.heap.size ≤ w1.heap.size := bz.size
  have H1 := Lib.hid ((Below.refl w.heap.size w).trans (bz.mono (Below.refl w.heap.size w).size))
  clear b bz F0_1 F0_2
  obtain ⟨c1_0, c1_1, c1_2, c1_3, c1_4, c1_5, c1_6⟩ := F1_1.out
  have l1 := F1_1.out.lt
  obtain ⟨c2_0, c2_1, c2_2, c2_3, c2_4, c2_5, c2_6⟩ := F1_2.out
  have l2 := F1_2.out.lt
  go_wp2_with fail
  clear c1_0 c1_1 c1_2 c1_3 c1_4 c1_5 c1_6 l1 c2_0 c2_1 c2_2 c2_3 c2_4 c2_5 c2_6 l2
  go_at_call 50; refine (szDesk_no _ B _ _ (V1.out.below H1.out (Nat.le_refl _)) hb (by omega) (by omega) fx.1.1 fx.1.2.1 fx.1.2.2.1 fx.2.1.1 fx.2.2.1.1 fx.2.2.2.1).mono ?_; rintro e w2 ⟨rfl, b⟩
  have bz := b
  have F2_1 := Lib.hid (F1_1.out.keep bz F1_1.out.lt)
  have F2_2 := Lib.hid (F1_2.out.keep bz F1_2.out.lt)
  have z2 : w1.heap.size ≤ w2.heap.size := bz.size
  have H2 := Lib.hid (H1.out.trans (bz.mono H1.out.size))
  clear b bz F1_1 F1_2 H1
  obtain ⟨c1_0, c1_1, c1_2, c1_3, c1_4, c1_5, c1_6⟩ := F2_1.out
  have l1 := F2_1.out.lt
  obtain ⟨c2_0, c2_1, c2_2, c2_3, c2_4, c2_5, c2_6⟩ := F2_2.out
  have l2 := F2_2.out.lt
  go_wp2_with fail
  clear c1_0 c1_1 c1_2 c1_3 c1_4 c1_5 c1_6 l1 c2_0 c2_1 c2_2 c2_3 c2_4 c2_5 c2_6 l2
  go_ret
  exact says rfl H2.out

set_option maxRecDepth 100000 in
set_option maxHeartbeats 8000000 in
theorem fnExactSameDesk_all (v0 v1 : Value) (A : Dk) (B : Dk) (w : World) (hv0 : DkV w v0 A) (hv1 : DkV w v1 B) (f0 : FitDk A) (f1 : FitDk B) :
    Calls Try.prog 13 #[v0, v1] w (Says true w) := by
  by_cases hb0 : 1048576 < (A.sz : Int)
  · exact fnExactSameDesk_size0 v0 v1 A B w hv0 hv1  hb0 f0
  by_cases hb1 : 1048576 - (A.sz : Int) < (B.sz : Int)
  · exact fnExactSameDesk_size1 v0 v1 A B w hv0 hv1  (by omega) hb1 f1
  exact fnExactSameDesk_main v0 v1 A B w hv0 hv1 ⟨by omega, f0⟩ ⟨by omega, f1⟩ (by omega)

theorem Try.own : ownKnob Try.prog.godebug = none := by kernel_rfl
theorem Try.laidOut : laidOutB Try.prog = true := by kernel_rfl
theorem f32_lt {x : Nat} (h : (Lit.float .f32 x).wf = true) : x < 4294967296 := by simpa [Lit.wf] using h
theorem f64_lt {x : Nat} (h : (Lit.float .f64 x).wf = true) : x < 18446744073709551616 := by simpa [Lit.wf] using h
theorem i64_in {x : Int} (h : (Lit.int .i64 x).wf = true) : -9223372036854775808 ≤ x ∧ x ≤ 9223372036854775807 := by
  have h1 : IntKind.i64.min = -9223372036854775808 := by decide
  have h2 : IntKind.i64.max = 9223372036854775807 := by decide
  simp only [Lit.wf, Bool.and_eq_true, decide_eq_true_eq, h1, h2] at h
  exact h

set_option maxRecDepth 100000 in
theorem fnExactSameDesk_lifted (os : Os) (started : os.Started) (H : Type) (enc : TypeId × Value → H) :
    ReturnsInHanded {} Try.checked os 13 .any (Rows.fnExactSameDeskSpec.pre6 enc Try.prog Try.f13 [] false) (Rows.fnExactSameDeskSpec.post enc Try.prog Try.f13 false true false false) := by
  refine Frame.law_lifted (tb := 4) Try.own started (by kernel_rfl) Try.func13
    (ChangeSpec.witness6 (enc := enc) (C := Try.checked) false ⟨#[], #[.agg #[.int .i64 0, .slice none 0 0, .slice none 0 0, .slice none 0 0, .slice none 0 0, .slice none 0 0, .slice none 0 0], .agg #[.int .i64 0, .slice none 0 0, .slice none 0 0, .slice none 0 0, .slice none 0 0, .slice none 0 0, .slice none 0 0]], []⟩ 8 (by kernel_rfl) (by kernel_rfl) (by kernel_rfl) (by kernel_rfl))
    Try.laidOut (by kernel_rfl) rfl (by kernel_rfl) Try.underlying4 (fun ds hd => ?_) ?_
  · rw [Try.params13] at hd
    match ds, hd with
    | [_, _], _ => exact ⟨rfl, rfl, rfl⟩
  intro W base args ds p hval0 hA0 hlt hsz0
  have hval : ∀ (j : Nat) t v, Try.f13.params[j]? = some t → args[j]? = some v → Value.okWide Try.prog W .any base t v := hval0
  have hA : DataW.TrodAll enc Try.prog W 0 (fun _ => true) true Try.f13.params.toList args.toList ds p := hA0
  have hsz : (DataW.weightsEach Try.prog Try.f13.params.toList ds).all (· ≤ reachBytes) = true := hsz0
  rw [Try.params13] at hA hval hsz
  clear hval0 hA0 hsz0
  obtain ⟨v0, v1, d0, d1, p0, p1, rfl, rfl, rfl, h0, h1⟩ := trodAll_two hA
  obtain ⟨r0, g0, k0⟩ := open_desk (hval 0 64 v0 rfl rfl) h0
  obtain ⟨r1, g1, k1⟩ := open_desk (hval 1 64 v1 rfl rfl) h1
  exact fnExactSameDesk_all v0 v1 r0 r1 W g0 g1 k0 k1

theorem fnExactSameDesk_holds : Rows.FnExactSameDeskSaid :=
  OpenClaim.holds_of_wide 13 Try.f13 rfl rfl rfl rfl rfl rfl rfl ⟨rfl, rfl, rfl, rfl, rfl⟩ rfl rfl rfl rfl rfl (by kernel_rfl) Try.func13 (by kernel_rfl)
    (of_decide_eq_true (by kernel_rfl)) (by unfold Func.isWrapper; first | (rw [if_pos (by decide +kernel)]; kernel_rfl) | (rw [if_neg (by decide +kernel)]; exact ⟨rfl, rfl⟩))
    (fun os started H enc _ => fnExactSameDesk_lifted os started H enc)
end Go.Proofs.Ytiobbclciboggaa
