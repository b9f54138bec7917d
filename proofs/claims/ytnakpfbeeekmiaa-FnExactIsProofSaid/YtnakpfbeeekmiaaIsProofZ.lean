/- IsProof answers as its model, for all arguments; it writes into no argument. -/
import Derived.Test.YtnakpfbeeekmiaaIsProofB
import Derived.Test.YtnakpfbeeekmiaaIsProofF
import Derived.Test.YtnakpfbeeekmiaaIsProofD
import Derived.Test.YtnakpfbeeekmiaaIsProofA
import Derived.Deep.RegionWith
import Derived.Deep.DeepCutAuto
import Derived.Outline
namespace Go.Proofs.Ytnakpfbeeekmiaa
open Go.ChangeShapes Go.WideShapes Go.ChangeAt Go.RowKit Go.ChangeMaps

set_option maxRecDepth 100000 in
set_option maxHeartbeats 8000000 in
theorem fnExactIsProof_main (v0 v1 : Value) (F : Fm) (P : List (List Int)) (w : World) (hv0 : FmV w v0 F) (hv1 : LV w v1 P) (o0 : OKFm F) (o1 : OKL P) (hm : ((szL F.cs) : Int) + ((szL P) : Int) ≤ (1048576 : Int)) :
    Calls Try.prog 4 #[v0, v1] w (Says true w) := by
  have V0 := Lib.hid hv0
  obtain ⟨s01, rfl, -⟩ := hv0
  have V1 := Lib.hid hv1
  obtain ⟨a1, cap1, rfl⟩ := hv1.long
  clear hv1
  have F0_1 := Lib.hid (Box2.mk' w (.int .i64 F.letters) (s01) 24)
  have hs0 := o0.size
  have hmt0 : totAt F.cs F.cs.length ≤ szL F.cs := Nat.le_add_left _ _
  have hs1 := o1.size
  have hmt1 : totAt P P.length ≤ szL P := Nat.le_add_left _ _
  have ht0 : decide (1048576 - ((szL F.cs) : Int) < 0) = false := by simp; omega
  have ht1 : decide (1048576 - ((szL F.cs) : Int) - ((szL P) : Int) < 0) = false := by simp; omega
  have hmm := hm
  go_enter Try.func4, Try.ntmps4
  go_wp2_with fail
  go_at_call 13; refine (szForm_yes _ F _ _ (V0.out.below ((Below.refl w.heap.size w).trans ((below_alloc w _).mono (Below.refl w.heap.size w).size)) (Nat.le_refl _)) (by omega) (by omega)).mono ?_; rintro e w1 ⟨rfl, b⟩
  have bz := (below_alloc w _).trans (b.mono (below_alloc w _).size)
  have F1_1 := Lib.hid (F0_1.out.keep b F0_1.out.lt)
  have lb1 : w.heap.size < w1.heap.size := F1_1.out.lt
  have z1 : w.heap.size ≤ w1.heap.size := bz.size
  have H1 := Lib.hid ((Below.refl w.heap.size w).trans (bz.mono (Below.refl w.heap.size w).size))
  clear b bz F0_1
  obtain ⟨c1_0, c1_1⟩ := F1_1.out
  have l1 := F1_1.out.lt
  go_wp2_with fail
  clear c1_0 c1_1 l1
  go_at_call 23; refine (szSS_yes2 _ P _ _ (V1.out.below H1.out (Nat.le_refl _)) (by omega) (by omega)).mono ?_; rintro e w2 ⟨rfl, b⟩
  have bz := b
  have F2_1 := Lib.hid (F1_1.out.keep bz F1_1.out.lt)
  have z2 : w1.heap.size ≤ w2.heap.size := bz.size
  have H2 := Lib.hid (H1.out.trans (bz.mono H1.out.size))
  clear b bz F1_1 H1
  obtain ⟨c1_0, c1_1⟩ := F2_1.out
  have l1 := F2_1.out.lt
  go_wp2_with fail
  clear c1_0 c1_1 l1
  go_at_call 15; refine (toForm_any _ F _ (V0.out.below H2.out (Nat.le_refl _)) (by omega)).mono ?_; rintro e w3 ⟨q0v, rfl, i, b⟩
  have F3_2 := Lib.hid (FmD.wide (lo' := w2.heap.size) i (Below.refl w2.heap.size w2).size)
  clear i
  have bz := b
  have F3_1 := Lib.hid (F2_1.out.keep bz F2_1.out.lt)
  have z3 : w2.heap.size ≤ w3.heap.size := bz.size
  have H3 := Lib.hid (H2.out.trans (bz.mono H2.out.size))
  clear b bz F2_1 H2
  obtain ⟨c1_0, c1_1⟩ := F3_1.out
  have l1 := F3_1.out.lt
  go_wp2_with fail
  clear c1_0 c1_1 l1
  go_at_call 25; refine (toSS_any _ P _ (V1.out.below H3.out (Nat.le_refl _)) (by omega)).mono ?_; rintro e w4 ⟨q1v, rfl, i, b⟩
  have F4_3 := Lib.hid (LD.wide' (lo' := w3.heap.size) i (Below.refl w3.heap.size w3).size)
  clear i
  have bz := b
  have F4_1 := Lib.hid (F3_1.out.keep bz F3_1.out.lt)
  have F4_2 := Lib.hid (F3_2.out.below bz (Nat.le_refl _))
  have z4 : w3.heap.size ≤ w4.heap.size := bz.size
  have H4 := Lib.hid (H3.out.trans (bz.mono H3.out.size))
  clear b bz F3_1 F3_2 H3
  obtain ⟨c1_0, c1_1⟩ := F4_1.out
  have l1 := F4_1.out.lt
  go_wp2_with fail
  clear c1_0 c1_1 l1
  go_at_call 24; refine (specIsProof_any _ F _ P _ F4_2.out.fv F4_3.out.lv o0 o1).mono ?_; rintro e w5 ⟨rfl, b⟩
  have bz := b
  have F5_1 := Lib.hid (F4_1.out.keep bz F4_1.out.lt)
  have z5 : w4.heap.size ≤ w5.heap.size := bz.size
  have H5 := Lib.hid (H4.out.trans (bz.mono H4.out.size))
  clear b bz F4_1 F4_2 F4_3 H4
  obtain ⟨c1_0, c1_1⟩ := F5_1.out
  have l1 := F5_1.out.lt
  go_wp2_with fail
  clear c1_0 c1_1 l1
  go_at_call 15; refine (toForm_any _ F _ (V0.out.below H5.out (Nat.le_refl _)) (by omega)).mono ?_; rintro e w6 ⟨x0v, rfl, i, b⟩
  obtain ⟨x0c1, x0ck1, rfl⟩ := i.split
  have F6_4 := Lib.hid (FmD.wide (lo' := w5.heap.size) i (Below.refl w5.heap.size w5).size)
  clear i
  have bz := b
  have F6_1 := Lib.hid (F5_1.out.keep bz F5_1.out.lt)
  have z6 : w5.heap.size ≤ w6.heap.size := bz.size
  have H6 := Lib.hid (H5.out.trans (bz.mono H5.out.size))
  clear b bz F5_1 H5
  have F6_5 := Lib.hid (Box2.mk' w6 (.int .i64 F.letters) (.slice x0c1 F.cs.length x0ck1) 29)
  obtain ⟨c1_0, c1_1⟩ := F6_1.out
  have l1 := F6_1.out.lt
  go_wp2_with fail
  clear c1_0 c1_1 l1
  go_at_call 25; refine (toSS_any _ P _ (V1.out.below (H6.out.trans ((below_alloc w6 _).mono H6.out.size)) (Nat.le_refl _)) (by omega)).mono ?_; rintro e w7 ⟨x1v, rfl, i, b⟩
  obtain ⟨x1a, x1c, rfl⟩ := LD.len' i
  have F7_6 := Lib.hid (LD.wide' (lo' := (w6.heap.size + 1)) i (by simp))
  clear i
  have bz := (below_alloc w6 _).trans (b.mono (below_alloc w6 _).size)
  have F7_1 := Lib.hid (F6_1.out.keep bz F6_1.out.lt)
  have F7_4 := Lib.hid (F6_4.out.below bz (Nat.le_refl _))
  have F7_5 := Lib.hid (F6_5.out.keep b F6_5.out.lt)
  have lb5 : w6.heap.size < w7.heap.size := F7_5.out.lt
  have z7 : w6.heap.size ≤ w7.heap.size := bz.size
  have H7 := Lib.hid (H6.out.trans (bz.mono H6.out.size))
  clear b bz F6_1 F6_4 F6_5 H6
  obtain ⟨c1_0, c1_1⟩ := F7_1.out
  have l1 := F7_1.out.lt
  obtain ⟨c5_0, c5_1⟩ := F7_5.out
  have l5 := F7_5.out.lt
  go_wp2_with fail
  clear c1_0 c1_1 l1 c5_0 c5_1 l5
  go_at_call 26; refine (implIsProof_any _ F _ P _ F7_4.out.fv F7_6.out.lv o0 o1).mono ?_; rintro e w8 ⟨rfl, b⟩
  have bz := b
  have F8_1 := Lib.hid (F7_1.out.keep bz F7_1.out.lt)
  have F8_4 := Lib.hid (F7_4.out.below bz (Nat.le_refl _))
  have F8_5 := Lib.hid (F7_5.out.keep bz F7_5.out.lt)
  have F8_6 := Lib.hid (F7_6.out.below' bz (Nat.le_refl _))
  have z8 : w7.heap.size ≤ w8.heap.size := bz.size
  have H8 := Lib.hid (H7.out.trans (bz.mono H7.out.size))
  clear b bz F7_1 F7_4 F7_5 F7_6 H7
  obtain ⟨c1_0, c1_1⟩ := F8_1.out
  have l1 := F8_1.out.lt
  obtain ⟨c5_0, c5_1⟩ := F8_5.out
  have l5 := F8_5.out.lt
  go_upto_region 14 with fail
  clear c1_0 c1_1 l1 c5_0 c5_1 l5
  go_cut [39] (fun s wx => s = .bool false ∧ Hid ((Below w.heap.size w wx) ∧ (w8.heap.size ≤ wx.heap.size) ∧ (Box2 wx w.heap.size (.int .i64 F.letters) (s01)) ∧ (LD (w6.heap.size + 1) w7.heap.size wx ((.slice x1a P.length x1c)) P)))
  case first =>
    obtain ⟨c1_0, c1_1⟩ := F8_1.out
    have l1 := F8_1.out.lt
    obtain ⟨c5_0, c5_1⟩ := F8_5.out
    have l5 := F8_5.out.lt
    go_region_with (first | (go_at_call 15; refine (toForm_any _ F _ (V0.out.below (show Below w.heap.size w w8.drew from below_drewN H8.out 1) (Nat.le_refl _)) (by omega)).mono ?_; rintro e wy ⟨tv, rfl, i, b⟩; have bz := (below_drewN (Below.refl w8.heap.size w8) 1).trans b; have HH := Lib.hid (H8.out.trans (bz.mono H8.out.size)); have zz := bz.size; have Y1 := Lib.hid (F8_1.out.keep bz F8_1.out.lt); obtain ⟨e1_0, e1_1⟩ := Y1.out; have m1 := Y1.out.lt; have Y4 := Lib.hid (F8_4.out.below bz (Nat.le_refl _)); have Y5 := Lib.hid (F8_5.out.keep bz F8_5.out.lt); obtain ⟨e5_0, e5_1⟩ := Y5.out; have m5 := Y5.out.lt; have Y6 := Lib.hid (F8_6.out.below' bz (Nat.le_refl _)); have TT := Lib.hid i.fv; clear i b bz) | (go_at_call 19; refine (eqForm_any _ _ F _ (by omega) Y4.out.fv TT.out).mono ?_; rintro e wz ⟨rfl, b⟩; have H2 := Lib.hid (HH.out.trans (b.mono HH.out.size)); have zy := b.size; have U1 := Lib.hid (Y1.out.keep b Y1.out.lt); have U6 := Lib.hid (Y6.out.below' b (Nat.le_refl _)); clear b))
    all_goals
      go_wp2_with fail
      go_meet
      exact ⟨rfl, Lib.hid ⟨H2.out, Nat.le_trans zz zy, U1.out, U6.out⟩⟩
  case rest =>
    obtain ⟨w9, rfl⟩ : ∃ x : World, x = wc := ⟨_, rfl⟩
    obtain ⟨rfl, hcc⟩ := hcut
    obtain ⟨hH, z9, f1, f6⟩ := hcc.out
    have H9 := Lib.hid hH
    have F9_1 := Lib.hid f1
    have F9_6 := Lib.hid f6
    clear hcc hH f1 F8_1 f6 F8_6 F8_4 F8_5 H8
    obtain ⟨c1_0, c1_1⟩ := F9_1.out
    have l1 := F9_1.out.lt
    go_wp2_with fail
    clear c1_0 c1_1 l1
    go_at_call 25; refine (toSS_any _ P _ (V1.out.below H9.out (Nat.le_refl _)) (by omega)).mono ?_; rintro e w10 ⟨tv, rfl, i, b⟩
    have F10_7 := Lib.hid (LD.wide' (lo' := w9.heap.size) i (Below.refl w9.heap.size w9).size)
    clear i
    have bz := b
    have F10_1 := Lib.hid (F9_1.out.keep bz F9_1.out.lt)
    have F10_6 := Lib.hid (F9_6.out.below' bz (Nat.le_refl _))
    have z10 : w9.heap.size ≤ w10.heap.size := bz.size
    have H10 := Lib.hid (H9.out.trans (bz.mono H9.out.size))
    clear b bz F9_1 F9_6 H9
    obtain ⟨c1_0, c1_1⟩ := F10_1.out
    have l1 := F10_1.out.lt
    go_wp2_with fail
    clear c1_0 c1_1 l1
    go_at_call 27; refine (eqSS_any _ _ P _ (by omega) F10_6.out.lv F10_7.out.lv).mono ?_; rintro e w11 ⟨rfl, b⟩
    have bz := b
    have F11_1 := Lib.hid (F10_1.out.keep bz F10_1.out.lt)
    have z11 : w10.heap.size ≤ w11.heap.size := bz.size
    have H11 := Lib.hid (H10.out.trans (bz.mono H10.out.size))
    clear b bz F10_1 F10_6 F10_7 H10
    obtain ⟨c1_0, c1_1⟩ := F11_1.out
    have l1 := F11_1.out.lt
    go_wp2_with fail
    clear c1_0 c1_1 l1
    go_ret
    exact says rfl H11.out
set_option maxRecDepth 100000 in
set_option maxHeartbeats 8000000 in
theorem fnExactIsProof_size0 (v0 v1 : Value) (F : Fm) (P : List (List Int)) (w : World) (hv0 : FmV w v0 F) (hv1 : LV w v1 P) (hb : 1048576 < ((szL F.cs) : Int)) (fx : FitFm F) :
    Calls Try.prog 4 #[v0, v1] w (Says true w) := by
  have V0 := Lib.hid hv0
  obtain ⟨s01, rfl, -⟩ := hv0
  have V1 := Lib.hid hv1
  obtain ⟨a1, cap1, rfl⟩ := hv1.long
  clear hv1
  have F0_1 := Lib.hid (Box2.mk' w (.int .i64 F.letters) (s01) 24)
  have hz : ∀ n : Nat, (0 : Int) ≤ n := fun n => Int.natCast_nonneg n
  go_enter Try.func4, Try.ntmps4
  go_wp2_with fail
  go_at_call 13; refine (szForm_no _ F _ _ (V0.out.below ((Below.refl w.heap.size w).trans ((below_alloc w _).mono (Below.refl w.heap.size w).size)) (Nat.le_refl _)) hb (by omega) (by omega) fx).mono ?_; rintro e w1 ⟨rfl, b⟩
  have bz := (below_alloc w _).trans (b.mono (below_alloc w _).size)
  have F1_1 := Lib.hid (F0_1.out.keep b F0_1.out.lt)
  have lb1 : w.heap.size < w1.heap.size := F1_1.out.lt
  have z1 : w.heap.size ≤ w1.heap.size := bz.size
  have H1 := Lib.hid ((Below.refl w.heap.size w).trans (bz.mono (Below.refl w.heap.size w).size))
  clear b bz F0_1
  obtain ⟨c1_0, c1_1⟩ := F1_1.out
  have l1 := F1_1.out.lt
  go_wp2_with fail
  clear c1_0 c1_1 l1
  go_ret
  exact says rfl H1.out

set_option maxRecDepth 100000 in
set_option maxHeartbeats 8000000 in
theorem fnExactIsProof_size1 (v0 v1 : Value) (F : Fm) (P : List (List Int)) (w : World) (hv0 : FmV w v0 F) (hv1 : LV w v1 P) (hm : ((szL F.cs) : Int) ≤ (1048576 : Int)) (hb : 1048576 - ((szL F.cs) : Int) < ((szL P) : Int)) (fx : FitL P) :
    Calls Try.prog 4 #[v0, v1] w (Says true w) := by
  have V0 := Lib.hid hv0
  obtain ⟨s01, rfl, -⟩ := hv0
  have V1 := Lib.hid hv1
  obtain ⟨a1, cap1, rfl⟩ := hv1.long
  clear hv1
  have F0_1 := Lib.hid (Box2.mk' w (.int .i64 F.letters) (s01) 24)
  have hz : ∀ n : Nat, (0 : Int) ≤ n := fun n => Int.natCast_nonneg n
  have ht_1 : decide (1048576 - ((szL F.cs) : Int) < 0) = false := by simp; omega
  go_enter Try.func4, Try.ntmps4
  go_wp2_with fail
  go_at_call 13; refine (szForm_yes _ F _ _ (V0.out.below ((Below.refl w.heap.size w).trans ((below_alloc w _).mono (Below.refl w.heap.size w).size)) (Nat.le_refl _)) (by omega) (by omega)).mono ?_; rintro e w1 ⟨rfl, b⟩
  have bz := (below_alloc w _).trans (b.mono (below_alloc w _).size)
  have F1_1 := Lib.hid (F0_1.out.keep b F0_1.out.lt)
  have lb1 : w.heap.size < w1.heap.size := F1_1.out.lt
  have z1 : w.heap.size ≤ w1.heap.size := bz.size
  have H1 := Lib.hid ((Below.refl w.heap.size w).trans (bz.mono (Below.refl w.heap.size w).size))
  clear b bz F0_1
  obtain ⟨c1_0, c1_1⟩ := F1_1.out
  have l1 := F1_1.out.lt
  go_wp2_with fail
  clear c1_0 c1_1 l1
  go_at_call 23; refine (szSS_no2 _ P _ _ (V1.out.below H1.out (Nat.le_refl _)) hb (by omega) (by omega) fx).mono ?_; rintro e w2 ⟨rfl, b⟩
  have bz := b
  have F2_1 := Lib.hid (F1_1.out.keep bz F1_1.out.lt)
  have z2 : w1.heap.size ≤ w2.heap.size := bz.size
  have H2 := Lib.hid (H1.out.trans (bz.mono H1.out.size))
  clear b bz F1_1 H1
  obtain ⟨c1_0, c1_1⟩ := F2_1.out
  have l1 := F2_1.out.lt
  go_wp2_with fail
  clear c1_0 c1_1 l1
  go_ret
  exact says rfl H2.out

set_option maxRecDepth 100000 in
set_option maxHeartbeats 8000000 in
theorem fnExactIsProof_all (v0 v1 : Value) (F : Fm) (P : List (List Int)) (w : World) (hv0 : FmV w v0 F) (hv1 : LV w v1 P) (f0 : FitFm F) (f1 : FitL P) :
    Calls Try.prog 4 #[v0, v1] w (Says true w) := by
  by_cases hb0 : 1048576 < ((szL F.cs) : Int)
  · exact fnExactIsProof_size0 v0 v1 F P w hv0 hv1  hb0 f0
  by_cases hb1 : 1048576 - ((szL F.cs) : Int) < ((szL P) : Int)
  · exact fnExactIsProof_size1 v0 v1 F P w hv0 hv1  (by omega) hb1 f1
  exact fnExactIsProof_main v0 v1 F P w hv0 hv1 ⟨by omega, f0⟩ ⟨by omega, f1⟩ (by omega)

theorem Try.own : ownKnob Try.prog.godebug = none := by kernel_rfl
theorem Try.laidOut : laidOutB Try.prog = true := by kernel_rfl
theorem f32_lt {x : Nat} (h : (Lit.float .f32 x).wf = true) : x < 4294967296 := by simpa [Lit.wf] using h
theorem f64_lt {x : Nat} (h : (Lit.float .f64 x).wf = true) : x < 18446744073709551616 := by simpa [Lit.wf] using h
theorem i64_in {x : Int} (h : (Lit.int .i64 x).wf = true) : -9223372036854775808 ≤ x ∧ x ≤ 9223372036854775807 := by
  have h1 : IntKind.i64.min = -9223372036854775808 := by decide
  have h2 : IntKind.i64.max = 9223372036854775807 := by decide
  simp only [Lit.wf, Bool.and_eq_true, decide_eq_true_eq, h1, h2] at h
  exact h

set_option maxRecDepth 100000 in
theorem fnExactIsProof_lifted (os : Os) (started : os.Started) (H : Type) (enc : TypeId × Value → H) :
    ReturnsInHanded {} Try.checked os 4 .any (Rows.fnExactIsProofSpec.pre6 enc Try.prog Try.f4 [] false) (Rows.fnExactIsProofSpec.post enc Try.prog Try.f4 false true false false) := by
  refine Frame.law_lifted (tb := 4) Try.own started (by kernel_rfl) Try.func4
    (ChangeSpec.witness6 (enc := enc) (C := Try.checked) false ⟨#[], #[.agg #[.int .i64 0, .slice none 0 0], .slice none 0 0], []⟩ 8 (by kernel_rfl) (by kernel_rfl) (by kernel_rfl) (by kernel_rfl))
    Try.laidOut (by kernel_rfl) rfl (by kernel_rfl) Try.underlying4 (fun ds hd => ?_) ?_
  · rw [Try.params4] at hd
    match ds, hd with
    | [_, _], _ => exact ⟨rfl, rfl, rfl⟩
  intro W base args ds p hval0 hA0 hlt hsz0
  have hval : ∀ (j : Nat) t v, Try.f4.params[j]? = some t → args[j]? = some v → Value.okWide Try.prog W .any base t v := hval0
  have hA : DataW.TrodAll enc Try.prog W 0 (fun _ => true) true Try.f4.params.toList args.toList ds p := hA0
  have hsz : (DataW.weightsEach Try.prog Try.f4.params.toList ds).all (· ≤ reachBytes) = true := hsz0
  rw [Try.params4] at hA hval hsz
  clear hval0 hA0 hsz0
  obtain ⟨v0, v1, d0, d1, p0, p1, rfl, rfl, rfl, h0, h1⟩ := trodAll_two hA
  obtain ⟨r0, g0, k0⟩ := open_form (hval 0 24 v0 rfl rfl) h0
  obtain ⟨r1, g1, k1⟩ := open_lvs (hval 1 22 v1 rfl rfl) h1
  exact fnExactIsProof_all v0 v1 r0 r1 W g0 g1 k0 k1

theorem fnExactIsProof_holds : Rows.FnExactIsProofSaid :=
  OpenClaim.holds_of_wide 4 Try.f4 rfl rfl rfl rfl rfl rfl rfl ⟨rfl, rfl, rfl, rfl, rfl⟩ rfl rfl rfl rfl rfl (by kernel_rfl) Try.func4 (by kernel_rfl)
    (of_decide_eq_true (by kernel_rfl)) (by unfold Func.isWrapper; first | (rw [if_pos (by decide +kernel)]; kernel_rfl) | (rw [if_neg (by decide +kernel)]; exact ⟨rfl, rfl⟩))
    (fun os started H enc _ => fnExactIsProof_lifted os started H enc)
end Go.Proofs.Ytnakpfbeeekmiaa
