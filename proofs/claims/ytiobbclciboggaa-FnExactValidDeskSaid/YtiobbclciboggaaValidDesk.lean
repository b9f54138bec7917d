/- ValidDesk answers as its model, for all arguments; it writes into no argument. -/
import Derived.Test.YtiobbclciboggaaDkV
import Derived.Test.YtiobbclciboggaaIl
import Derived.Deep.RegionWith
import Derived.Deep.DeepCutAuto
import Derived.Test.YtiobbclciboggaaFrame
import Derived.Outline
namespace Go.Proofs.Ytiobbclciboggaa
open Go.ChangeShapes Go.WideShapes Go.ChangeAt Go.RowKit Go.ChangeMaps

set_option maxRecDepth 100000 in
set_option maxHeartbeats 8000000 in
theorem fnExactValidDesk_main (v0 : Value) (D : Dk) (w : World) (hv0 : DkV w v0 D) (o0 : OKDk D) (hm : (D.sz : Int) ≤ (1048576 : Int)) :
    Calls Try.prog 14 #[v0] w (Says true w) := by
  have V0 := Lib.hid hv0
  obtain ⟨s01, s02, s03, s04, s05, s06, rfl, -, -, -, -, -, -⟩ := hv0
  have F0_1 := Lib.hid (Box7.mk' w (.int .i64 D.rows.vars) (s01) (s02) (s03) (s04) (s05) (s06) 64)
  have hs0 := o0.size
  have ht0 : decide (1048576 - (D.sz : Int) < 0) = false := by simp; omega
  have hmm := hm
  go_enter Try.func14, Try.ntmps14
  go_wp2_with fail
  go_at_call 50; refine (szDesk_yes _ D _ _ (V0.out.below ((Below.refl w.heap.size w).trans ((below_alloc w _).mono (Below.refl w.heap.size w).size)) (Nat.le_refl _)) (by omega) (by omega)).mono ?_; rintro e w1 ⟨rfl, b⟩
  have bz := (below_alloc w _).trans (b.mono (below_alloc w _).size)
  have F1_1 := Lib.hid (F0_1.out.keep b F0_1.out.lt)
  have lb1 : w.heap.size < w1.heap.size := F1_1.out.lt
  have z1 : w.heap.size ≤ w1.heap.size := bz.size
  have H1 := Lib.hid ((Below.refl w.heap.size w).trans (bz.mono (Below.refl w.heap.size w).size))
  clear b bz F0_1
  obtain ⟨c1_0, c1_1, c1_2, c1_3, c1_4, c1_5, c1_6⟩ := F1_1.out
  have l1 := F1_1.out.lt
  go_wp2_with fail
  clear c1_0 c1_1 c1_2 c1_3 c1_4 c1_5 c1_6 l1
  go_at_call 52; refine (toDesk_any _ D _ (V0.out.below H1.out (Nat.le_refl _)) (by omega)).mono ?_; rintro e w2 ⟨q0v, rfl, i, b⟩
  have F2_2 := Lib.hid (DkD.wide (lo' := w1.heap.size) i (Below.refl w1.heap.size w1).size)
  clear i
  have bz := b
  have F2_1 := Lib.hid (F1_1.out.keep bz F1_1.out.lt)
  have z2 : w1.heap.size ≤ w2.heap.size := bz.size
  have H2 := Lib.hid (H1.out.trans (bz.mono H1.out.size))
  clear b bz F1_1 H1
  obtain ⟨c1_0, c1_1, c1_2, c1_3, c1_4, c1_5, c1_6⟩ := F2_1.out
  have l1 := F2_1.out.lt
  go_wp2_with fail
  clear c1_0 c1_1 c1_2 c1_3 c1_4 c1_5 c1_6 l1
  go_at_call 54; refine (specValidDesk_any _ D _ F2_2.out.dkv o0).mono ?_; rintro e w3 ⟨rfl, b⟩
  have bz := b
  have F3_1 := Lib.hid (F2_1.out.keep bz F2_1.out.lt)
  have z3 : w2.heap.size ≤ w3.heap.size := bz.size
  have H3 := Lib.hid (H2.out.trans (bz.mono H2.out.size))
  clear b bz F2_1 F2_2 H2
  obtain ⟨c1_0, c1_1, c1_2, c1_3, c1_4, c1_5, c1_6⟩ := F3_1.out
  have l1 := F3_1.out.lt
  go_wp2_with fail
  clear c1_0 c1_1 c1_2 c1_3 c1_4 c1_5 c1_6 l1
  go_at_call 52; refine (toDesk_any _ D _ (V0.out.below H3.out (Nat.le_refl _)) (by omega)).mono ?_; rintro e w4 ⟨x0v, rfl, i, b⟩
  obtain ⟨x0c1, x0ck1, x0c2, x0ck2, x0c3, x0ck3, x0c4, x0ck4, x0c5, x0ck5, x0c6, x0ck6, rfl⟩ := i.split
  have F4_3 := Lib.hid (DkD.wide (lo' := w3.heap.size) i (Below.refl w3.heap.size w3).size)
  clear i
  have bz := b
  have F4_1 := Lib.hid (F3_1.out.keep bz F3_1.out.lt)
  have z4 : w3.heap.size ≤ w4.heap.size := bz.size
  have H4 := Lib.hid (H3.out.trans (bz.mono H3.out.size))
  clear b bz F3_1 H3
  have F4_4 := Lib.hid (Box7.mk' w4 (.int .i64 D.rows.vars) (.slice x0c1 D.rows.N.length x0ck1) (.slice x0c2 D.rows.B.length x0ck2) (.slice x0c3 D.rows.G.length x0ck3) (.slice x0c4 D.sizes.length x0ck4) (.slice x0c5 D.jobs.length x0ck5) (.slice x0c6 D.ways.length x0ck6) 56)
  obtain ⟨c1_0, c1_1, c1_2, c1_3, c1_4, c1_5, c1_6⟩ := F4_1.out
  have l1 := F4_1.out.lt
  go_wp2_with fail
  clear c1_0 c1_1 c1_2 c1_3 c1_4 c1_5 c1_6 l1
  go_at_call 55; refine (implValidDesk_any _ D _ (F4_3.out.below (below_alloc w4 _) (Nat.le_refl _)).dkv o0).mono ?_; rintro e w5 ⟨rfl, b⟩
  have bz := (below_alloc w4 _).trans (b.mono (below_alloc w4 _).size)
  have F5_1 := Lib.hid (F4_1.out.keep bz F4_1.out.lt)
  have F5_3 := Lib.hid (F4_3.out.below bz (Nat.le_refl _))
  have F5_4 := Lib.hid (F4_4.out.keep b F4_4.out.lt)
  have lb4 : w4.heap.size < w5.heap.size := F5_4.out.lt
  have z5 : w4.heap.size ≤ w5.heap.size := bz.size
  have H5 := Lib.hid (H4.out.trans (bz.mono H4.out.size))
  clear b bz F4_1 F4_3 F4_4 H4
  obtain ⟨c1_0, c1_1, c1_2, c1_3, c1_4, c1_5, c1_6⟩ := F5_1.out
  have l1 := F5_1.out.lt
  obtain ⟨c4_0, c4_1, c4_2, c4_3, c4_4, c4_5, c4_6⟩ := F5_4.out
  have l4 := F5_4.out.lt
  go_upto_region 10 with fail
  clear c1_0 c1_1 c1_2 c1_3 c1_4 c1_5 c1_6 l1 c4_0 c4_1 c4_2 c4_3 c4_4 c4_5 c4_6 l4
  go_cut [26] (fun s wx => s = .bool false ∧ Hid ((Below w.heap.size w wx) ∧ (w5.heap.size ≤ wx.heap.size) ∧ (Box7 wx w.heap.size (.int .i64 D.rows.vars) (s01) (s02) (s03) (s04) (s05) (s06))))
  case first =>
    obtain ⟨c1_0, c1_1, c1_2, c1_3, c1_4, c1_5, c1_6⟩ := F5_1.out
    have l1 := F5_1.out.lt
    obtain ⟨c4_0, c4_1, c4_2, c4_3, c4_4, c4_5, c4_6⟩ := F5_4.out
    have l4 := F5_4.out.lt
    go_region_with (first | (go_at_call 52; refine (toDesk_any _ D _ (V0.out.below (show Below w.heap.size w w5.drew from below_drewN H5.out 1) (Nat.le_refl _)) (by omega)).mono ?_; rintro e wy ⟨tv, rfl, i, b⟩; have bz := (below_drewN (Below.refl w5.heap.size w5) 1).trans b; have HH := Lib.hid (H5.out.trans (bz.mono H5.out.size)); have zz := bz.size; have Y1 := Lib.hid (F5_1.out.keep bz F5_1.out.lt); obtain ⟨e1_0, e1_1, e1_2, e1_3, e1_4, e1_5, e1_6⟩ := Y1.out; have m1 := Y1.out.lt; have Y3 := Lib.hid (F5_3.out.below bz (Nat.le_refl _)); have Y4 := Lib.hid (F5_4.out.keep bz F5_4.out.lt); obtain ⟨e4_0, e4_1, e4_2, e4_3, e4_4, e4_5, e4_6⟩ := Y4.out; have m4 := Y4.out.lt; have TT := Lib.hid i.dkv; clear i b bz) | (go_at_call 47; refine (eqDesk_any _ _ D _ (by omega) Y3.out.dkv TT.out).mono ?_; rintro e wz ⟨rfl, b⟩; have H2 := Lib.hid (HH.out.trans (b.mono HH.out.size)); have zy := b.size; have U1 := Lib.hid (Y1.out.keep b Y1.out.lt); clear b))
    all_goals
      go_wp2_with fail
      go_meet
      exact ⟨rfl, Lib.hid ⟨H2.out, Nat.le_trans zz zy, U1.out⟩⟩
  case rest =>
    obtain ⟨w6, rfl⟩ : ∃ x : World, x = wc := ⟨_, rfl⟩
    obtain ⟨rfl, hcc⟩ := hcut
    obtain ⟨hH, z6, f1⟩ := hcc.out
    have H6 := Lib.hid hH
    have F6_1 := Lib.hid f1
    clear hcc hH f1 F5_1 F5_3 F5_4 H5
    obtain ⟨c1_0, c1_1, c1_2, c1_3, c1_4, c1_5, c1_6⟩ := F6_1.out
    have l1 := F6_1.out.lt
    go_wp2_with fail
    clear c1_0 c1_1 c1_2 c1_3 c1_4 c1_5 c1_6 l1
    go_ret
    exact says rfl H6.out
set_option maxRecDepth 100000 in
set_option maxHeartbeats 8000000 in
theorem fnExactValidDesk_size0 (v0 : Value) (D : Dk) (w : World) (hv0 : DkV w v0 D) (hb : 1048576 < (D.sz : Int)) (fx : FitDk D) :
    Calls Try.prog 14 #[v0] w (Says true w) := by
  have V0 := Lib.hid hv0
  obtain ⟨s01, s02, s03, s04, s05, s06, rfl, -, -, -, -, -, -⟩ := hv0
  have F0_1 := Lib.hid (Box7.mk' w (.int .i64 D.rows.vars) (s01) (s02) (s03) (s04) (s05) (s06) 64)
  have hz : ∀ n : Nat, (0 : Int) ≤ n := fun n => Int.natCast_nonneg n
  go_enter Try.func14, Try.ntmps14
  go_wp2_with fail
  go_at_call 50; refine (szDesk_no _ D _ _ (V0.out.below ((Below.refl w.heap.size w).trans ((below_alloc w _).mono (Below.refl w.heap.size w).size)) (Nat.le_refl _)) hb (by omega) (by omega) fx.1.1 fx.1.2.1 fx.1.2.2.1 fx.2.1.1 fx.2.2.1.1 fx.2.2.2.1).mono ?_; rintro e w1 ⟨rfl, b⟩
  have bz := (below_alloc w _).trans (b.mono (below_alloc w _).size)
  have F1_1 := Lib.hid (F0_1.out.keep b F0_1.out.lt)
  have lb1 : w.heap.size < w1.heap.size := F1_1.out.lt
  have z1 : w.heap.size ≤ w1.heap.size := bz.size
  have H1 := Lib.hid ((Below.refl w.heap.size w).trans (bz.mono (Below.refl w.heap.size w).size))
  clear b bz F0_1
  obtain ⟨c1_0, c1_1, c1_2, c1_3, c1_4, c1_5, c1_6⟩ := F1_1.out
  have l1 := F1_1.out.lt
  go_wp2_with fail
  clear c1_0 c1_1 c1_2 c1_3 c1_4 c1_5 c1_6 l1
  go_ret
  exact says rfl H1.out

set_option maxRecDepth 100000 in
set_option maxHeartbeats 8000000 in
theorem fnExactValidDesk_all (v0 : Value) (D : Dk) (w : World) (hv0 : DkV w v0 D) (f0 : FitDk D) :
    Calls Try.prog 14 #[v0] w (Says true w) := by
  by_cases hb0 : 1048576 < (D.sz : Int)
  · exact fnExactValidDesk_size0 v0 D w hv0  hb0 f0
  exact fnExactValidDesk_main v0 D w hv0 ⟨by omega, f0⟩ (by omega)

theorem Try.own : ownKnob Try.prog.godebug = none := by kernel_rfl
theorem Try.laidOut : laidOutB Try.prog = true := by kernel_rfl
theorem f32_lt {x : Nat} (h : (Lit.float .f32 x).wf = true) : x < 4294967296 := by simpa [Lit.wf] using h
theorem f64_lt {x : Nat} (h : (Lit.float .f64 x).wf = true) : x < 18446744073709551616 := by simpa [Lit.wf] using h
theorem i64_in {x : Int} (h : (Lit.int .i64 x).wf = true) : -9223372036854775808 ≤ x ∧ x ≤ 9223372036854775807 := by
  have h1 : IntKind.i64.min = -9223372036854775808 := by decide
  have h2 : IntKind.i64.max = 9223372036854775807 := by decide
  simp only [Lit.wf, Bool.and_eq_true, decide_eq_true_eq, h1, h2] at h
  exact h

set_option maxRecDepth 100000 in
theorem fnExactValidDesk_lifted (os : Os) (started : os.Started) (H : Type) (enc : TypeId × Value → H) :
    ReturnsInHanded {} Try.checked os 14 .any (Rows.fnExactValidDeskSpec.pre6 enc Try.prog Try.f14 [] false) (Rows.fnExactValidDeskSpec.post enc Try.prog Try.f14 false true false false) := by
  refine Frame.law_lifted (tb := 4) Try.own started (by kernel_rfl) Try.func14
    (ChangeSpec.witness6 (enc := enc) (C := Try.checked) false ⟨#[], #[.agg #[.int .i64 0, .slice none 0 0, .slice none 0 0, .slice none 0 0, .slice none 0 0, .slice none 0 0, .slice none 0 0]], []⟩ 8 (by kernel_rfl) (by kernel_rfl) (by kernel_rfl) (by kernel_rfl))
    Try.laidOut (by kernel_rfl) rfl (by kernel_rfl) Try.underlying4 (fun ds hd => ?_) ?_
  · rw [Try.params14] at hd
    match ds, hd with
    | [_], _ => exact ⟨rfl, rfl, rfl⟩
  intro W base args ds p hval0 hA0 hlt hsz0
  have hval : ∀ (j : Nat) t v, Try.f14.params[j]? = some t → args[j]? = some v → Value.okWide Try.prog W .any base t v := hval0
  have hA : DataW.TrodAll enc Try.prog W 0 (fun _ => true) true Try.f14.params.toList args.toList ds p := hA0
  have hsz : (DataW.weightsEach Try.prog Try.f14.params.toList ds).all (· ≤ reachBytes) = true := hsz0
  rw [Try.params14] at hA hval hsz
  clear hval0 hA0 hsz0
  obtain ⟨v0, d0, rfl, rfl, h0⟩ := trodAll_one hA
  obtain ⟨r0, g0, k0⟩ := open_desk (hval 0 64 v0 rfl rfl) h0
  exact fnExactValidDesk_all v0 r0 W g0 k0

theorem fnExactValidDesk_holds : Rows.FnExactValidDeskSaid :=
  OpenClaim.holds_of_wide 14 Try.f14 rfl rfl rfl rfl rfl rfl rfl ⟨rfl, rfl, rfl, rfl, rfl⟩ rfl rfl rfl rfl rfl (by kernel_rfl) Try.func14 (by kernel_rfl)
    (of_decide_eq_true (by kernel_rfl)) (by unfold Func.isWrapper; first | (rw [if_pos (by decide +kernel)]; kernel_rfl) | (rw [if_neg (by decide +kernel)]; exact ⟨rfl, rfl⟩))
    (fun os started H enc _ => fnExactValidDesk_lifted os started H enc)
end Go.Proofs.Ytiobbclciboggaa
