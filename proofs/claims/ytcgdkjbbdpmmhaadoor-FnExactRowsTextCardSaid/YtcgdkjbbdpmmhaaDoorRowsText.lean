/- RowsText answers as its model, for all arguments; it writes into no argument. -/
import Derived.Test.YtcgdkjbbdpmmhaaDoorRxL
import Derived.Test.YtcgdkjbbdpmmhaaDoorIl
import Derived.Deep.RegionWith
import Derived.Deep.DeepCutAuto
import Derived.Test.YtcgdkjbbdpmmhaaDoorFrame
import Derived.Outline
import Derived.Test.YtcgdkjbbdpmmhaaDoorFrameP
import Derived.SevenTiedAt
namespace Go.Proofs.YtcgdkjbbdpmmhaaDoor
open Go.ChangeShapes Go.WideShapes Go.ChangeAt Go.RowKit Go.ChangeMaps

set_option maxRecDepth 100000 in
set_option maxHeartbeats 8000000 in
theorem fnExactRowsText_main (v0 : Value) (R : Rw) (w : World) (hv0 : RV w v0 R) (o0 : OKR R) (hm : (R.size : Int) ≤ (1048576 : Int)) (hT : RtTab w) :
    Calls Tryd.prog 5 #[v0] w (Says true w) := by
  have V0 := Lib.hid hv0
  obtain ⟨s01, s02, s03, rfl, -, -, -⟩ := hv0
  have F0_1 := Lib.hid (Box4.mk' w (.int .i64 R.vars) (s01) (s02) (s03) 35)
  have HTB := Lib.hid hT
  have hs0 := o0.size
  have ht0 : decide (1048576 - (R.size : Int) < 0) = false := by simp; omega
  have hmm := hm
  go_enter Tryd.func5, Tryd.ntmps5
  go_wp2_with fail
  go_at_call 18; refine (szRows_yes _ R _ _ (V0.out.below ((Below.refl w.heap.size w).trans ((below_alloc w _).mono (Below.refl w.heap.size w).size)) (Nat.le_refl _)) (by omega) (by omega)).mono ?_; rintro e w1 ⟨rfl, b⟩
  have bz := (below_alloc w _).trans (b.mono (below_alloc w _).size)
  have F1_1 := Lib.hid (F0_1.out.keep b F0_1.out.lt)
  have lb1 : w.heap.size < w1.heap.size := F1_1.out.lt
  have z1 : w.heap.size ≤ w1.heap.size := bz.size
  have H1 := Lib.hid ((Below.refl w.heap.size w).trans (bz.mono (Below.refl w.heap.size w).size))
  clear b bz F0_1
  obtain ⟨c1_0, c1_1, c1_2, c1_3⟩ := F1_1.out
  have l1 := F1_1.out.lt
  go_wp2_with fail
  clear c1_0 c1_1 c1_2 c1_3 l1
  go_at_call 20; refine (toRows_any _ R _ (V0.out.below H1.out (Nat.le_refl _)) (by omega)).mono ?_; rintro e w2 ⟨q0v, rfl, i, b⟩
  have F2_2 := Lib.hid (RD.wide (lo' := w1.heap.size) i (Below.refl w1.heap.size w1).size)
  clear i
  have bz := b
  have F2_1 := Lib.hid (F1_1.out.keep bz F1_1.out.lt)
  have z2 : w1.heap.size ≤ w2.heap.size := bz.size
  have H2 := Lib.hid (H1.out.trans (bz.mono H1.out.size))
  clear b bz F1_1 H1
  obtain ⟨c1_0, c1_1, c1_2, c1_3⟩ := F2_1.out
  have l1 := F2_1.out.lt
  go_wp2_with fail
  clear c1_0 c1_1 c1_2 c1_3 l1
  go_at_call 19; refine (specRowsText_any _ R _ F2_2.out.rv o0).mono ?_; rintro e w3 ⟨rfl, b⟩
  have bz := b
  have F3_1 := Lib.hid (F2_1.out.keep bz F2_1.out.lt)
  have z3 : w2.heap.size ≤ w3.heap.size := bz.size
  have H3 := Lib.hid (H2.out.trans (bz.mono H2.out.size))
  clear b bz F2_1 F2_2 H2
  obtain ⟨c1_0, c1_1, c1_2, c1_3⟩ := F3_1.out
  have l1 := F3_1.out.lt
  go_wp2_with fail
  clear c1_0 c1_1 c1_2 c1_3 l1
  go_at_call 20; refine (toRows_any _ R _ (V0.out.below H3.out (Nat.le_refl _)) (by omega)).mono ?_; rintro e w4 ⟨x0v, rfl, i, b⟩
  obtain ⟨x0c1, x0ck1, x0c2, x0ck2, x0c3, x0ck3, rfl⟩ := i.split
  have F4_3 := Lib.hid (RD.wide (lo' := w3.heap.size) i (Below.refl w3.heap.size w3).size)
  clear i
  have bz := b
  have F4_1 := Lib.hid (F3_1.out.keep bz F3_1.out.lt)
  have z4 : w3.heap.size ≤ w4.heap.size := bz.size
  have H4 := Lib.hid (H3.out.trans (bz.mono H3.out.size))
  clear b bz F3_1 H3
  have F4_4 := Lib.hid (Box4.mk' w4 (.int .i64 R.vars) (.slice x0c1 R.N.length x0ck1) (.slice x0c2 R.B.length x0ck2) (.slice x0c3 R.G.length x0ck3) 38)
  obtain ⟨c1_0, c1_1, c1_2, c1_3⟩ := F4_1.out
  have l1 := F4_1.out.lt
  go_wp2_with fail
  clear c1_0 c1_1 c1_2 c1_3 l1
  go_at_call 21; refine (implRowsText_any _ R _ (F4_3.out.below (below_alloc w4 _) (Nat.le_refl _)).rv o0 (HTB.out.below' (H4.out.trans ((below_alloc w4 _).mono H4.out.size)))).mono ?_; rintro e w5 ⟨rfl, b⟩
  have bz := (below_alloc w4 _).trans (b.mono (below_alloc w4 _).size)
  have F5_1 := Lib.hid (F4_1.out.keep bz F4_1.out.lt)
  have F5_3 := Lib.hid (F4_3.out.below bz (Nat.le_refl _))
  have F5_4 := Lib.hid (F4_4.out.keep b F4_4.out.lt)
  have lb4 : w4.heap.size < w5.heap.size := F5_4.out.lt
  have z5 : w4.heap.size ≤ w5.heap.size := bz.size
  have H5 := Lib.hid (H4.out.trans (bz.mono H4.out.size))
  clear b bz F4_1 F4_3 F4_4 H4
  obtain ⟨c1_0, c1_1, c1_2, c1_3⟩ := F5_1.out
  have l1 := F5_1.out.lt
  obtain ⟨c4_0, c4_1, c4_2, c4_3⟩ := F5_4.out
  have l4 := F5_4.out.lt
  go_upto_region 10 with fail
  clear c1_0 c1_1 c1_2 c1_3 l1 c4_0 c4_1 c4_2 c4_3 l4
  go_cut [39] (fun s wx => s = .bool false ∧ Hid ((Below w.heap.size w wx) ∧ (w5.heap.size ≤ wx.heap.size) ∧ (Box4 wx w.heap.size (.int .i64 R.vars) (s01) (s02) (s03))))
  case first =>
    obtain ⟨c1_0, c1_1, c1_2, c1_3⟩ := F5_1.out
    have l1 := F5_1.out.lt
    obtain ⟨c4_0, c4_1, c4_2, c4_3⟩ := F5_4.out
    have l4 := F5_4.out.lt
    go_region_with (first | (go_at_call 20; refine (toRows_any _ R _ (V0.out.below (show Below w.heap.size w w5.drew from below_drewN H5.out 1) (Nat.le_refl _)) (by omega)).mono ?_; rintro e wy ⟨tv, rfl, i, b⟩; have bz := (below_drewN (Below.refl w5.heap.size w5) 1).trans b; have HH := Lib.hid (H5.out.trans (bz.mono H5.out.size)); have zz := bz.size; have Y1 := Lib.hid (F5_1.out.keep bz F5_1.out.lt); obtain ⟨e1_0, e1_1, e1_2, e1_3⟩ := Y1.out; have m1 := Y1.out.lt; have Y3 := Lib.hid (F5_3.out.below bz (Nat.le_refl _)); have Y4 := Lib.hid (F5_4.out.keep bz F5_4.out.lt); obtain ⟨e4_0, e4_1, e4_2, e4_3⟩ := Y4.out; have m4 := Y4.out.lt; have TT := Lib.hid i.rv; clear i b bz) | (go_at_call 22; refine (eqRows_any _ _ R _ (by omega) Y3.out.rv TT.out).mono ?_; rintro e wz ⟨rfl, b⟩; have H2 := Lib.hid (HH.out.trans (b.mono HH.out.size)); have zy := b.size; have U1 := Lib.hid (Y1.out.keep b Y1.out.lt); clear b))
    all_goals
      go_wp2_with fail
      go_meet
      exact ⟨rfl, Lib.hid ⟨H2.out, Nat.le_trans zz zy, U1.out⟩⟩
  case rest =>
    obtain ⟨w6, rfl⟩ : ∃ x : World, x = wc := ⟨_, rfl⟩
    obtain ⟨rfl, hcc⟩ := hcut
    obtain ⟨hH, z6, f1⟩ := hcc.out
    have H6 := Lib.hid hH
    have F6_1 := Lib.hid f1
    clear hcc hH f1 F5_1 F5_3 F5_4 H5
    obtain ⟨c1_0, c1_1, c1_2, c1_3⟩ := F6_1.out
    have l1 := F6_1.out.lt
    go_wp2_with fail
    clear c1_0 c1_1 c1_2 c1_3 l1
    go_ret
    exact says rfl H6.out
set_option maxRecDepth 100000 in
set_option maxHeartbeats 8000000 in
theorem fnExactRowsText_size0 (v0 : Value) (R : Rw) (w : World) (hv0 : RV w v0 R) (hb : 1048576 < (R.size : Int)) (fx : FitR R) :
    Calls Tryd.prog 5 #[v0] w (Says true w) := by
  have V0 := Lib.hid hv0
  obtain ⟨s01, s02, s03, rfl, -, -, -⟩ := hv0
  have F0_1 := Lib.hid (Box4.mk' w (.int .i64 R.vars) (s01) (s02) (s03) 35)
  have hz : ∀ n : Nat, (0 : Int) ≤ n := fun n => Int.natCast_nonneg n
  go_enter Tryd.func5, Tryd.ntmps5
  go_wp2_with fail
  go_at_call 18; refine (szRows_no _ R _ _ (V0.out.below ((Below.refl w.heap.size w).trans ((below_alloc w _).mono (Below.refl w.heap.size w).size)) (Nat.le_refl _)) hb (by omega) (by omega) fx.1 fx.2.1 fx.2.2.1).mono ?_; rintro e w1 ⟨rfl, b⟩
  have bz := (below_alloc w _).trans (b.mono (below_alloc w _).size)
  have F1_1 := Lib.hid (F0_1.out.keep b F0_1.out.lt)
  have lb1 : w.heap.size < w1.heap.size := F1_1.out.lt
  have z1 : w.heap.size ≤ w1.heap.size := bz.size
  have H1 := Lib.hid ((Below.refl w.heap.size w).trans (bz.mono (Below.refl w.heap.size w).size))
  clear b bz F0_1
  obtain ⟨c1_0, c1_1, c1_2, c1_3⟩ := F1_1.out
  have l1 := F1_1.out.lt
  go_wp2_with fail
  clear c1_0 c1_1 c1_2 c1_3 l1
  go_ret
  exact says rfl H1.out

set_option maxRecDepth 100000 in
set_option maxHeartbeats 8000000 in
theorem fnExactRowsText_all (v0 : Value) (R : Rw) (w : World) (hv0 : RV w v0 R) (f0 : FitR R) (hT : RtTab w) :
    Calls Tryd.prog 5 #[v0] w (Says true w) := by
  by_cases hb0 : 1048576 < (R.size : Int)
  · exact fnExactRowsText_size0 v0 R w hv0  hb0 f0
  exact fnExactRowsText_main v0 R w hv0 ⟨by omega, f0⟩ (by omega) hT

theorem Tryd.own : ownKnob Tryd.prog.godebug = none := by kernel_rfl
theorem Tryd.laidOut : laidOutB Tryd.prog = true := by kernel_rfl
theorem f32_lt {x : Nat} (h : (Lit.float .f32 x).wf = true) : x < 4294967296 := by simpa [Lit.wf] using h
theorem f64_lt {x : Nat} (h : (Lit.float .f64 x).wf = true) : x < 18446744073709551616 := by simpa [Lit.wf] using h
theorem i64_in {x : Int} (h : (Lit.int .i64 x).wf = true) : -9223372036854775808 ≤ x ∧ x ≤ 9223372036854775807 := by
  have h1 : IntKind.i64.min = -9223372036854775808 := by decide
  have h2 : IntKind.i64.max = 9223372036854775807 := by decide
  simp only [Lit.wf, Bool.and_eq_true, decide_eq_true_eq, h1, h2] at h
  exact h

set_option maxRecDepth 100000 in
theorem fnExactRowsText_lifted (os : Os) (started : os.Started) (H : Type) (enc : TypeId × Value → H) :
    ReturnsInHanded {} Tryd.checked os 5 .any (fun w args => (Rows.fnExactRowsTextSpec.pre enc Tryd.prog Tryd.f5 [] false w args ∧ laidMetH Tryd.prog laid3 w) ∧ sizedMet enc Tryd.prog Tryd.f5 (OpenSpec.ofChange Rows.fnExactRowsTextSpec) false w args) (Rows.fnExactRowsTextSpec.post enc Tryd.prog Tryd.f5 false true false false) := by
  refine Frame.law_lifted_laid (X := fun w => laidMetH Tryd.prog laid3 w) (tb := 4) (fun _ _ hh h => h.of_heap hh) Tryd.own started (by kernel_rfl) Tryd.func5
    (ChangeSpec.witness_shaped (enc := enc) (C := Tryd.checked) (os := os) (X := fun w _ => laidMetH Tryd.prog laid3 w) false (World.doorLaid Tryd.prog 400 os) #[.agg #[.int .i64 0, .slice none 0 0, .slice none 0 0, .slice none 0 0]] 8 rfl (World.shaped_of_RefB (by kernel_rfl) (by kernel_rfl)) (by kernel_rfl) (by kernel_rfl) (by kernel_rfl) (door3_met os _))
    Tryd.laidOut (by kernel_rfl) rfl (by kernel_rfl) Tryd.underlying4 (fun ds hd => ?_) ?_
  · rw [Tryd.params5] at hd
    match ds, hd with
    | [_], _ => exact ⟨rfl, rfl, rfl⟩
  intro W base args ds p hval0 hA0 hlt hsz0 hX0
  have hT := rt_of_laid hX0
  have hval : ∀ (j : Nat) t v, Tryd.f5.params[j]? = some t → args[j]? = some v → Value.okWide Tryd.prog W .any base t v := hval0
  have hA : DataW.TrodAll enc Tryd.prog W 0 (fun _ => true) true Tryd.f5.params.toList args.toList ds p := hA0
  have hsz : (DataW.weightsEach Tryd.prog Tryd.f5.params.toList ds).all (· ≤ reachBytes) = true := hsz0
  rw [Tryd.params5] at hA hval hsz
  clear hval0 hA0 hsz0 hX0
  obtain ⟨v0, d0, rfl, rfl, h0⟩ := trodAll_one hA
  obtain ⟨r0, g0, k0⟩ := open_rows (hval 0 35 v0 rfl rfl) h0
  exact fnExactRowsText_all v0 r0 W g0 k0 hT

theorem fnExactRowsText_row : Rows.FnExactRowsTextSaid :=
  OpenClaim.holds_of_wide 5 Tryd.f5 rfl rfl rfl rfl rfl rfl rfl ⟨rfl, rfl, rfl, rfl, rfl⟩ rfl rfl rfl rfl rfl (by kernel_rfl) Tryd.func5 (by kernel_rfl)
    (of_decide_eq_true (by kernel_rfl)) (by unfold Func.isWrapper; first | (rw [if_pos (by decide +kernel)]; kernel_rfl) | (rw [if_neg (by decide +kernel)]; exact ⟨rfl, rfl⟩))
    (fun os started H enc _ => fnExactRowsText_lifted os started H enc)

theorem fnExactRowsText_holds : Rows.FnExactRowsTextCardSaid :=
  Claim7.holds_tied_plain_at .later [] [.data, .data, .data] true (true, "01f751b03d7642e61d3fb86521ec869908c8625bfd53d49dd3003436e10a58bb") true
    fnExactRowsText_row (fun _ h => by cases h) (by kernel_rfl) (fun _ h => by cases h) fnExactRowsText_row_tie rfl ⟨rfl, rfl⟩ (by kernel_rfl) rfl
    (fun f fn hf hfn => by
      obtain rfl : f = 5 := Option.some.inj ((show Tryd.prog.funcNamed "loop.example/g01346/laws.FnExactRowsText" = some 5 by kernel_rfl).symm.trans hf) |>.symm
      obtain rfl : fn = Tryd.f5 := (Option.some.inj (Tryd.func5.symm.trans hfn)).symm
      exact ⟨by kernel_rfl, fun j t ht => by
        rw [Tryd.params5] at ht
        have hm : t ∈ [35] := by simpa using Array.mem_of_getElem? ht
        have hall : ([35].all fun u => !Tryd.prog.wantsStandIn u) = true := by kernel_rfl
        exact (show Tryd.prog.wantsStandIn t = false by simpa using List.all_eq_true.1 hall t hm)⟩)
    (by kernel_rfl)
end Go.Proofs.YtcgdkjbbdpmmhaaDoor
