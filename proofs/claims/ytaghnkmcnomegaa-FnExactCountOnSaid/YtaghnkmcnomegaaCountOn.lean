/- CountOn answers as its model, for all arguments; it writes into no argument. -/
import Derived.Test.YtaghnkmcnomegaaCoS
import Derived.Test.YtaghnkmcnomegaaIl
import Derived.Deep.RegionWith
import Derived.Deep.DeepCutAuto
import Derived.Test.YtaghnkmcnomegaaFrame
import Derived.Outline
namespace Go.Proofs.Ytaghnkmcnomegaa
open Go.ChangeShapes Go.WideShapes Go.ChangeAt Go.RowKit Go.ChangeMaps

set_option maxRecDepth 100000 in
set_option maxHeartbeats 8000000 in
theorem fnExactCountOn_main (v0 v1 : Value) (F : Fm) (T : List Int) (w : World) (hv0 : FmV w v0 F) (hv1 : IL w v1 T) (o0 : OKFm F) (o1 : OKI T) (hm : ((szL F.cs) : Int) ≤ (1048576 : Int)) :
    Calls Try.prog 6 #[v0, v1] w (Says true w) := by
  have V0 := Lib.hid hv0
  obtain ⟨s01, rfl, -⟩ := hv0
  have V1 := Lib.hid hv1
  obtain ⟨a1, cap1, rfl⟩ := hv1.long
  clear hv1
  have F0_1 := Lib.hid (Box2.mk' w (.int .i64 F.letters) (s01) 40)
  have hs0 := o0.size
  have hmt0 : totAt F.cs F.cs.length ≤ szL F.cs := Nat.le_add_left _ _
  have hl1 : ¬ 1048576 < T.length := by have := o1.size; omega
  have hs1 := o1.size
  have ht0 : decide (1048576 - ((szL F.cs) : Int) < 0) = false := by simp; omega
  have hmm := hm
  go_enter Try.func6, Try.ntmps6
  go_wp2_with fail
  go_at_call 22; refine (szForm_yes _ F _ _ (V0.out.below ((Below.refl w.heap.size w).trans ((below_alloc w _).mono (Below.refl w.heap.size w).size)) (Nat.le_refl _)) (by omega) (by omega)).mono ?_; rintro e w1 ⟨rfl, b⟩
  have bz := (below_alloc w _).trans (b.mono (below_alloc w _).size)
  have F1_1 := Lib.hid (F0_1.out.keep b F0_1.out.lt)
  have lb1 : w.heap.size < w1.heap.size := F1_1.out.lt
  have z1 : w.heap.size ≤ w1.heap.size := bz.size
  have H1 := Lib.hid ((Below.refl w.heap.size w).trans (bz.mono (Below.refl w.heap.size w).size))
  clear b bz F0_1
  obtain ⟨c1_0, c1_1⟩ := F1_1.out
  have l1 := F1_1.out.lt
  go_wp2_with fail
  clear c1_0 c1_1 l1
  go_at_call 24; refine (toForm_any _ F _ (V0.out.below H1.out (Nat.le_refl _)) (by omega)).mono ?_; rintro e w2 ⟨q0v, rfl, i, b⟩
  have F2_2 := Lib.hid (FmD.wide (lo' := w1.heap.size) i (Below.refl w1.heap.size w1).size)
  clear i
  have bz := b
  have F2_1 := Lib.hid (F1_1.out.keep bz F1_1.out.lt)
  have z2 : w1.heap.size ≤ w2.heap.size := bz.size
  have H2 := Lib.hid (H1.out.trans (bz.mono H1.out.size))
  clear b bz F1_1 H1
  obtain ⟨c1_0, c1_1⟩ := F2_1.out
  have l1 := F2_1.out.lt
  go_wp2_with fail
  clear c1_0 c1_1 l1
  go_at_call 27; refine (toI64_si _ T _ (V1.out.below H2.out (Nat.le_refl _)) (by omega)).mono ?_; rintro e w3 ⟨q1v, rfl, i, b⟩
  have F3_3 := Lib.hid (II.wide' (lo' := w2.heap.size) i (Below.refl w2.heap.size w2).size)
  clear i
  have bz := b
  have F3_1 := Lib.hid (F2_1.out.keep bz F2_1.out.lt)
  have F3_2 := Lib.hid (F2_2.out.below bz (Nat.le_refl _))
  have z3 : w2.heap.size ≤ w3.heap.size := bz.size
  have H3 := Lib.hid (H2.out.trans (bz.mono H2.out.size))
  clear b bz F2_1 F2_2 H2
  obtain ⟨c1_0, c1_1⟩ := F3_1.out
  have l1 := F3_1.out.lt
  go_wp2_with fail
  clear c1_0 c1_1 l1
  go_at_call 26; refine (specCountOn_any _ F _ T _ F3_2.out.fv F3_3.out.il o0 o1).mono ?_; rintro e w4 ⟨rfl, b⟩
  have bz := b
  have F4_1 := Lib.hid (F3_1.out.keep bz F3_1.out.lt)
  have z4 : w3.heap.size ≤ w4.heap.size := bz.size
  have H4 := Lib.hid (H3.out.trans (bz.mono H3.out.size))
  clear b bz F3_1 F3_2 F3_3 H3
  obtain ⟨c1_0, c1_1⟩ := F4_1.out
  have l1 := F4_1.out.lt
  go_wp2_with fail
  clear c1_0 c1_1 l1
  go_at_call 24; refine (toForm_any _ F _ (V0.out.below H4.out (Nat.le_refl _)) (by omega)).mono ?_; rintro e w5 ⟨x0v, rfl, i, b⟩
  obtain ⟨x0c1, x0ck1, rfl⟩ := i.split
  have F5_4 := Lib.hid (FmD.wide (lo' := w4.heap.size) i (Below.refl w4.heap.size w4).size)
  clear i
  have bz := b
  have F5_1 := Lib.hid (F4_1.out.keep bz F4_1.out.lt)
  have z5 : w4.heap.size ≤ w5.heap.size := bz.size
  have H5 := Lib.hid (H4.out.trans (bz.mono H4.out.size))
  clear b bz F4_1 H4
  have F5_5 := Lib.hid (Box2.mk' w5 (.int .i64 F.letters) (.slice x0c1 F.cs.length x0ck1) 34)
  obtain ⟨c1_0, c1_1⟩ := F5_1.out
  have l1 := F5_1.out.lt
  go_wp2_with fail
  clear c1_0 c1_1 l1
  go_at_call 27; refine (toI64_si _ T _ (V1.out.below (H5.out.trans ((below_alloc w5 _).mono H5.out.size)) (Nat.le_refl _)) (by omega)).mono ?_; rintro e w6 ⟨x1v, rfl, i, b⟩
  obtain ⟨x1a, x1c, rfl⟩ := II.len' i
  have F6_6 := Lib.hid (II.wide' (lo' := (w5.heap.size + 1)) i (by simp))
  clear i
  have bz := (below_alloc w5 _).trans (b.mono (below_alloc w5 _).size)
  have F6_1 := Lib.hid (F5_1.out.keep bz F5_1.out.lt)
  have F6_4 := Lib.hid (F5_4.out.below bz (Nat.le_refl _))
  have F6_5 := Lib.hid (F5_5.out.keep b F5_5.out.lt)
  have lb5 : w5.heap.size < w6.heap.size := F6_5.out.lt
  have z6 : w5.heap.size ≤ w6.heap.size := bz.size
  have H6 := Lib.hid (H5.out.trans (bz.mono H5.out.size))
  clear b bz F5_1 F5_4 F5_5 H5
  obtain ⟨c1_0, c1_1⟩ := F6_1.out
  have l1 := F6_1.out.lt
  obtain ⟨c5_0, c5_1⟩ := F6_5.out
  have l5 := F6_5.out.lt
  go_wp2_with fail
  clear c1_0 c1_1 l1 c5_0 c5_1 l5
  go_at_call 28; refine (implCountOn_any _ F _ T _ F6_4.out.fv F6_6.out.il o0 o1).mono ?_; rintro e w7 ⟨rfl, b⟩
  have bz := b
  have F7_1 := Lib.hid (F6_1.out.keep bz F6_1.out.lt)
  have F7_4 := Lib.hid (F6_4.out.below bz (Nat.le_refl _))
  have F7_5 := Lib.hid (F6_5.out.keep bz F6_5.out.lt)
  have F7_6 := Lib.hid (F6_6.out.below' bz (Nat.le_refl _))
  have z7 : w6.heap.size ≤ w7.heap.size := bz.size
  have H7 := Lib.hid (H6.out.trans (bz.mono H6.out.size))
  clear b bz F6_1 F6_4 F6_5 F6_6 H6
  obtain ⟨c1_0, c1_1⟩ := F7_1.out
  have l1 := F7_1.out.lt
  obtain ⟨c5_0, c5_1⟩ := F7_5.out
  have l5 := F7_5.out.lt
  go_upto_region 13 with fail
  clear c1_0 c1_1 l1 c5_0 c5_1 l5
  go_cut [50] (fun s wx => s = .bool false ∧ Hid ((Below w.heap.size w wx) ∧ (w7.heap.size ≤ wx.heap.size) ∧ (Box2 wx w.heap.size (.int .i64 F.letters) (s01)) ∧ (II (w5.heap.size + 1) w6.heap.size wx ((.slice x1a T.length x1c)) T)))
  case first =>
    obtain ⟨c1_0, c1_1⟩ := F7_1.out
    have l1 := F7_1.out.lt
    obtain ⟨c5_0, c5_1⟩ := F7_5.out
    have l5 := F7_5.out.lt
    go_region_with (first | (go_at_call 24; refine (toForm_any _ F _ (V0.out.below (show Below w.heap.size w w7.drew from below_drewN H7.out 1) (Nat.le_refl _)) (by omega)).mono ?_; rintro e wy ⟨tv, rfl, i, b⟩; have bz := (below_drewN (Below.refl w7.heap.size w7) 1).trans b; have HH := Lib.hid (H7.out.trans (bz.mono H7.out.size)); have zz := bz.size; have Y1 := Lib.hid (F7_1.out.keep bz F7_1.out.lt); obtain ⟨e1_0, e1_1⟩ := Y1.out; have m1 := Y1.out.lt; have Y4 := Lib.hid (F7_4.out.below bz (Nat.le_refl _)); have Y5 := Lib.hid (F7_5.out.keep bz F7_5.out.lt); obtain ⟨e5_0, e5_1⟩ := Y5.out; have m5 := Y5.out.lt; have Y6 := Lib.hid (F7_6.out.below' bz (Nat.le_refl _)); have TT := Lib.hid i.fv; clear i b bz) | (go_at_call 19; refine (eqForm_any _ _ F _ (by omega) Y4.out.fv TT.out).mono ?_; rintro e wz ⟨rfl, b⟩; have H2 := Lib.hid (HH.out.trans (b.mono HH.out.size)); have zy := b.size; have U1 := Lib.hid (Y1.out.keep b Y1.out.lt); have U6 := Lib.hid (Y6.out.below' b (Nat.le_refl _)); clear b))
    all_goals
      go_wp2_with fail
      go_meet
      exact ⟨rfl, Lib.hid ⟨H2.out, Nat.le_trans zz zy, U1.out, U6.out⟩⟩
  case rest =>
    obtain ⟨w8, rfl⟩ : ∃ x : World, x = wc := ⟨_, rfl⟩
    obtain ⟨rfl, hcc⟩ := hcut
    obtain ⟨hH, z8, f1, f6⟩ := hcc.out
    have H8 := Lib.hid hH
    have F8_1 := Lib.hid f1
    have F8_6 := Lib.hid f6
    clear hcc hH f1 F7_1 f6 F7_6 F7_4 F7_5 H7
    obtain ⟨c1_0, c1_1⟩ := F8_1.out
    have l1 := F8_1.out.lt
    go_wp2_with fail
    clear c1_0 c1_1 l1
    go_at_call 27; refine (toI64_si _ T _ (V1.out.below H8.out (Nat.le_refl _)) (by omega)).mono ?_; rintro e w9 ⟨tv, rfl, i, b⟩
    have F9_7 := Lib.hid (II.wide' (lo' := w8.heap.size) i (Below.refl w8.heap.size w8).size)
    clear i
    have bz := b
    have F9_1 := Lib.hid (F8_1.out.keep bz F8_1.out.lt)
    have F9_6 := Lib.hid (F8_6.out.below' bz (Nat.le_refl _))
    have z9 : w8.heap.size ≤ w9.heap.size := bz.size
    have H9 := Lib.hid (H8.out.trans (bz.mono H8.out.size))
    clear b bz F8_1 F8_6 H8
    obtain ⟨c1_0, c1_1⟩ := F9_1.out
    have l1 := F9_1.out.lt
    go_wp2_with fail
    clear c1_0 c1_1 l1
    go_at_call 29; refine (eqI64_says _ _ T _ (by omega) F9_6.out.il F9_7.out.il).mono ?_; rintro e w10 ⟨rfl, b⟩
    have bz := b
    have F10_1 := Lib.hid (F9_1.out.keep bz F9_1.out.lt)
    have z10 : w9.heap.size ≤ w10.heap.size := bz.size
    have H10 := Lib.hid (H9.out.trans (bz.mono H9.out.size))
    clear b bz F9_1 F9_6 F9_7 H9
    obtain ⟨c1_0, c1_1⟩ := F10_1.out
    have l1 := F10_1.out.lt
    go_wp2_with fail
    clear c1_0 c1_1 l1
    go_ret
    exact says rfl H10.out
set_option maxRecDepth 100000 in
set_option maxHeartbeats 8000000 in
theorem fnExactCountOn_long1 (v0 v1 : Value) (F : Fm) (T : List Int) (w : World) (hv0 : FmV w v0 F) (hv1 : IL w v1 T) (hb : 1048576 < T.length) (hx : T.length ≤ maxLen) :
    Calls Try.prog 6 #[v0, v1] w (Says true w) := by
  unfold maxLen at hx
  have V0 := Lib.hid hv0
  obtain ⟨s01, rfl, -⟩ := hv0
  have V1 := Lib.hid hv1
  obtain ⟨a1, cap1, rfl⟩ := hv1.long
  clear hv1
  have F0_1 := Lib.hid (Box2.mk' w (.int .i64 F.letters) (s01) 40)
  go_enter Try.func6, Try.ntmps6
  go_wp2_with fail
  go_ret
  exact says rfl (below_alloc w _)

set_option maxRecDepth 100000 in
set_option maxHeartbeats 8000000 in
theorem fnExactCountOn_size0 (v0 v1 : Value) (F : Fm) (T : List Int) (w : World) (hv0 : FmV w v0 F) (hv1 : IL w v1 T) (hl1 : ¬ 1048576 < T.length) (hb : 1048576 < ((szL F.cs) : Int)) (fx : FitFm F) :
    Calls Try.prog 6 #[v0, v1] w (Says true w) := by
  have V0 := Lib.hid hv0
  obtain ⟨s01, rfl, -⟩ := hv0
  have V1 := Lib.hid hv1
  obtain ⟨a1, cap1, rfl⟩ := hv1.long
  clear hv1
  have F0_1 := Lib.hid (Box2.mk' w (.int .i64 F.letters) (s01) 40)
  have hz : ∀ n : Nat, (0 : Int) ≤ n := fun n => Int.natCast_nonneg n
  go_enter Try.func6, Try.ntmps6
  go_wp2_with fail
  go_at_call 22; refine (szForm_no _ F _ _ (V0.out.below ((Below.refl w.heap.size w).trans ((below_alloc w _).mono (Below.refl w.heap.size w).size)) (Nat.le_refl _)) hb (by omega) (by omega) fx).mono ?_; rintro e w1 ⟨rfl, b⟩
  have bz := (below_alloc w _).trans (b.mono (below_alloc w _).size)
  have F1_1 := Lib.hid (F0_1.out.keep b F0_1.out.lt)
  have lb1 : w.heap.size < w1.heap.size := F1_1.out.lt
  have z1 : w.heap.size ≤ w1.heap.size := bz.size
  have H1 := Lib.hid ((Below.refl w.heap.size w).trans (bz.mono (Below.refl w.heap.size w).size))
  clear b bz F0_1
  obtain ⟨c1_0, c1_1⟩ := F1_1.out
  have l1 := F1_1.out.lt
  go_wp2_with fail
  clear c1_0 c1_1 l1
  go_ret
  exact says rfl H1.out

set_option maxRecDepth 100000 in
set_option maxHeartbeats 8000000 in
theorem fnExactCountOn_all (v0 v1 : Value) (F : Fm) (T : List Int) (w : World) (hv0 : FmV w v0 F) (hv1 : IL w v1 T) (f0 : FitFm F) (f1 : FitI T) :
    Calls Try.prog 6 #[v0, v1] w (Says true w) := by
  by_cases hl1 : 1048576 < T.length
  · exact fnExactCountOn_long1 v0 v1 F T w hv0 hv1  hl1 f1.1
  by_cases hb0 : 1048576 < ((szL F.cs) : Int)
  · exact fnExactCountOn_size0 v0 v1 F T w hv0 hv1 hl1 hb0 f0
  exact fnExactCountOn_main v0 v1 F T w hv0 hv1 ⟨by omega, f0⟩ ⟨by omega, f1⟩ (by omega)

theorem Try.own : ownKnob Try.prog.godebug = none := by kernel_rfl
theorem Try.laidOut : laidOutB Try.prog = true := by kernel_rfl
theorem f32_lt {x : Nat} (h : (Lit.float .f32 x).wf = true) : x < 4294967296 := by simpa [Lit.wf] using h
theorem f64_lt {x : Nat} (h : (Lit.float .f64 x).wf = true) : x < 18446744073709551616 := by simpa [Lit.wf] using h
theorem i64_in {x : Int} (h : (Lit.int .i64 x).wf = true) : -9223372036854775808 ≤ x ∧ x ≤ 9223372036854775807 := by
  have h1 : IntKind.i64.min = -9223372036854775808 := by decide
  have h2 : IntKind.i64.max = 9223372036854775807 := by decide
  simp only [Lit.wf, Bool.and_eq_true, decide_eq_true_eq, h1, h2] at h
  exact h

set_option maxRecDepth 100000 in
theorem fnExactCountOn_lifted (os : Os) (started : os.Started) (H : Type) (enc : TypeId × Value → H) :
    ReturnsInHanded {} Try.checked os 6 .any (Rows.fnExactCountOnSpec.pre6 enc Try.prog Try.f6 [] false) (Rows.fnExactCountOnSpec.post enc Try.prog Try.f6 false true false false) := by
  refine Frame.law_lifted (tb := 4) Try.own started (by kernel_rfl) Try.func6
    (ChangeSpec.witness6 (enc := enc) (C := Try.checked) false ⟨#[], #[.agg #[.int .i64 0, .slice none 0 0], .slice none 0 0], []⟩ 8 (by kernel_rfl) (by kernel_rfl) (by kernel_rfl) (by kernel_rfl))
    Try.laidOut (by kernel_rfl) rfl (by kernel_rfl) Try.underlying4 (fun ds hd => ?_) ?_
  · rw [Try.params6] at hd
    match ds, hd with
    | [_, _], _ => exact ⟨rfl, rfl, rfl⟩
  intro W base args ds p hval0 hA0 hlt hsz0
  have hval : ∀ (j : Nat) t v, Try.f6.params[j]? = some t → args[j]? = some v → Value.okWide Try.prog W .any base t v := hval0
  have hA : DataW.TrodAll enc Try.prog W 0 (fun _ => true) true Try.f6.params.toList args.toList ds p := hA0
  have hsz : (DataW.weightsEach Try.prog Try.f6.params.toList ds).all (· ≤ reachBytes) = true := hsz0
  rw [Try.params6] at hA hval hsz
  clear hval0 hA0 hsz0
  obtain ⟨v0, v1, d0, d1, p0, p1, rfl, rfl, rfl, h0, h1⟩ := trodAll_two hA
  obtain ⟨r0, g0, k0⟩ := open_form (hval 0 40 v0 rfl rfl) h0
  obtain ⟨r1, g1, k1⟩ := open_i64s (hval 1 45 v1 rfl rfl) h1
  exact fnExactCountOn_all v0 v1 r0 r1 W g0 g1 k0 k1

theorem fnExactCountOn_holds : Rows.FnExactCountOnSaid :=
  OpenClaim.holds_of_wide 6 Try.f6 rfl rfl rfl rfl rfl rfl rfl ⟨rfl, rfl, rfl, rfl, rfl⟩ rfl rfl rfl rfl rfl (by kernel_rfl) Try.func6 (by kernel_rfl)
    (of_decide_eq_true (by kernel_rfl)) (by unfold Func.isWrapper; first | (rw [if_pos (by decide +kernel)]; kernel_rfl) | (rw [if_neg (by decide +kernel)]; exact ⟨rfl, rfl⟩))
    (fun os started H enc _ => fnExactCountOn_lifted os started H enc)
end Go.Proofs.Ytaghnkmcnomegaa
