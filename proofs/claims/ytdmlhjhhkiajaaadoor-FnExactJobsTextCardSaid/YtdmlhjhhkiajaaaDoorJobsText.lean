/- JobsText answers as its model, for all arguments; it writes into no argument. -/
import Derived.Test.YtdmlhjhhkiajaaaDoorJtS
import Derived.Test.YtdmlhjhhkiajaaaDoorIl
import Derived.Deep.RegionWith
import Derived.Deep.DeepCutAuto
import Derived.Test.YtdmlhjhhkiajaaaDoorFrame
import Derived.Outline
import Derived.Test.YtdmlhjhhkiajaaaDoorFrameP
import Derived.SevenTiedAt
namespace Go.Proofs.YtdmlhjhhkiajaaaDoor
open Go.ChangeShapes Go.WideShapes Go.ChangeAt Go.RowKit Go.ChangeMaps

set_option maxRecDepth 100000 in
set_option maxHeartbeats 8000000 in
theorem fnExactJobsText_main (v0 : Value) (Z : List Ac) (w : World) (hv0 : AV w v0 Z) (o0 : OKA Z) (hm : (Z.length : Int) ≤ (1048576 : Int)) (hT : PowTab w) :
    Calls Tryd.prog 10 #[v0] w (Says true w) := by
  have V0 := Lib.hid hv0
  obtain ⟨a0, cap0, rfl⟩ := hv0.long
  clear hv0
  have HTB := Lib.hid hT
  have hs0 := o0.size
  have ht0 : decide (1048576 - (Z.length : Int) < 0) = false := by simp; omega
  have hmm := hm
  go_enter Tryd.func10, Tryd.ntmps10
  go_wp2_with fail
  go_at_call 38; refine (szA_yes _ Z _ _ (V0.out.below (Below.refl w.heap.size w) (Nat.le_refl _)) (by omega) (by omega)).mono ?_; rintro e w1 ⟨rfl, b⟩
  have bz := b
  have z1 : w.heap.size ≤ w1.heap.size := bz.size
  have H1 := Lib.hid ((Below.refl w.heap.size w).trans (bz.mono (Below.refl w.heap.size w).size))
  clear b bz
  go_wp2_with fail
  go_at_call 40; refine (toJobS_any _ Z _ (V0.out.below H1.out (Nat.le_refl _)) (by omega)).mono ?_; rintro e w2 ⟨q0v, rfl, i, b⟩
  have F2_1 := Lib.hid (AI.wide' (lo' := w1.heap.size) i (Below.refl w1.heap.size w1).size)
  clear i
  have bz := b
  have z2 : w1.heap.size ≤ w2.heap.size := bz.size
  have H2 := Lib.hid (H1.out.trans (bz.mono H1.out.size))
  clear b bz H1
  go_wp2_with fail
  go_at_call 39; refine (specJobsText_any _ Z _ F2_1.out.av o0).mono ?_; rintro e w3 ⟨rfl, b⟩
  have bz := b
  have z3 : w2.heap.size ≤ w3.heap.size := bz.size
  have H3 := Lib.hid (H2.out.trans (bz.mono H2.out.size))
  clear b bz F2_1 H2
  go_wp2_with fail
  go_at_call 40; refine (toJobS_any _ Z _ (V0.out.below H3.out (Nat.le_refl _)) (by omega)).mono ?_; rintro e w4 ⟨x0v, rfl, i, b⟩
  obtain ⟨x0a, x0c, rfl⟩ := AI.len' i
  have F4_2 := Lib.hid (AI.wide' (lo' := w3.heap.size) i (Below.refl w3.heap.size w3).size)
  clear i
  have bz := b
  have z4 : w3.heap.size ≤ w4.heap.size := bz.size
  have H4 := Lib.hid (H3.out.trans (bz.mono H3.out.size))
  clear b bz H3
  go_wp2_with fail
  go_at_call 41; refine (implJobsText_any _ Z _ F4_2.out.av o0 (HTB.out.below' H4.out)).mono ?_; rintro e w5 ⟨rfl, b⟩
  have bz := b
  have F5_2 := Lib.hid (F4_2.out.below' bz (Nat.le_refl _))
  have z5 : w4.heap.size ≤ w5.heap.size := bz.size
  have H5 := Lib.hid (H4.out.trans (bz.mono H4.out.size))
  clear b bz F4_2 H4
  go_wp2_with fail
  go_at_call 40; refine (toJobS_any _ Z _ (V0.out.below H5.out (Nat.le_refl _)) (by omega)).mono ?_; rintro e w6 ⟨tv, rfl, i, b⟩
  have F6_3 := Lib.hid (AI.wide' (lo' := w5.heap.size) i (Below.refl w5.heap.size w5).size)
  clear i
  have bz := b
  have F6_2 := Lib.hid (F5_2.out.below' bz (Nat.le_refl _))
  have z6 : w5.heap.size ≤ w6.heap.size := bz.size
  have H6 := Lib.hid (H5.out.trans (bz.mono H5.out.size))
  clear b bz F5_2 H5
  go_wp2_with fail
  go_at_call 42; refine (eqJobS_any _ _ Z _ (by omega) F6_2.out.av F6_3.out.av).mono ?_; rintro e w7 ⟨rfl, b⟩
  have bz := b
  have z7 : w6.heap.size ≤ w7.heap.size := bz.size
  have H7 := Lib.hid (H6.out.trans (bz.mono H6.out.size))
  clear b bz F6_2 F6_3 H6
  go_wp2_with fail
  go_ret
  exact says rfl H7.out
set_option maxRecDepth 100000 in
set_option maxHeartbeats 8000000 in
theorem fnExactJobsText_size0 (v0 : Value) (Z : List Ac) (w : World) (hv0 : AV w v0 Z) (hb : 1048576 < (Z.length : Int)) (fx : FitA Z) :
    Calls Tryd.prog 10 #[v0] w (Says true w) := by
  have V0 := Lib.hid hv0
  obtain ⟨a0, cap0, rfl⟩ := hv0.long
  clear hv0
  have hz : ∀ n : Nat, (0 : Int) ≤ n := fun n => Int.natCast_nonneg n
  go_enter Tryd.func10, Tryd.ntmps10
  go_wp2_with fail
  go_at_call 38; refine (szA_no _ Z _ _ (V0.out.below (Below.refl w.heap.size w) (Nat.le_refl _)) hb (by omega) (by omega) fx.1).mono ?_; rintro e w1 ⟨rfl, b⟩
  have bz := b
  have z1 : w.heap.size ≤ w1.heap.size := bz.size
  have H1 := Lib.hid ((Below.refl w.heap.size w).trans (bz.mono (Below.refl w.heap.size w).size))
  clear b bz
  go_wp2_with fail
  go_ret
  exact says rfl H1.out

set_option maxRecDepth 100000 in
set_option maxHeartbeats 8000000 in
theorem fnExactJobsText_all (v0 : Value) (Z : List Ac) (w : World) (hv0 : AV w v0 Z) (f0 : FitA Z) (hT : PowTab w) :
    Calls Tryd.prog 10 #[v0] w (Says true w) := by
  by_cases hb0 : 1048576 < (Z.length : Int)
  · exact fnExactJobsText_size0 v0 Z w hv0  hb0 f0
  exact fnExactJobsText_main v0 Z w hv0 ⟨by omega, f0⟩ (by omega) hT

theorem Tryd.own : ownKnob Tryd.prog.godebug = none := by kernel_rfl
theorem Tryd.laidOut : laidOutB Tryd.prog = true := by kernel_rfl
theorem f32_lt {x : Nat} (h : (Lit.float .f32 x).wf = true) : x < 4294967296 := by simpa [Lit.wf] using h
theorem f64_lt {x : Nat} (h : (Lit.float .f64 x).wf = true) : x < 18446744073709551616 := by simpa [Lit.wf] using h
theorem i64_in {x : Int} (h : (Lit.int .i64 x).wf = true) : -9223372036854775808 ≤ x ∧ x ≤ 9223372036854775807 := by
  have h1 : IntKind.i64.min = -9223372036854775808 := by decide
  have h2 : IntKind.i64.max = 9223372036854775807 := by decide
  simp only [Lit.wf, Bool.and_eq_true, decide_eq_true_eq, h1, h2] at h
  exact h

set_option maxRecDepth 100000 in
theorem fnExactJobsText_lifted (os : Os) (started : os.Started) (H : Type) (enc : TypeId × Value → H) :
    ReturnsInHanded {} Tryd.checked os 10 .any (fun w args => (Rows.fnExactJobsTextSpec.pre enc Tryd.prog Tryd.f10 [] false w args ∧ laidMetH Tryd.prog laid3 w) ∧ sizedMet enc Tryd.prog Tryd.f10 (OpenSpec.ofChange Rows.fnExactJobsTextSpec) false w args) (Rows.fnExactJobsTextSpec.post enc Tryd.prog Tryd.f10 false true false false) := by
  refine Frame.law_lifted_laid (X := fun w => laidMetH Tryd.prog laid3 w) (tb := 4) (fun _ _ hh h => h.of_heap hh) Tryd.own started (by kernel_rfl) Tryd.func10
    (ChangeSpec.witness_shaped (enc := enc) (C := Tryd.checked) (os := os) (X := fun w _ => laidMetH Tryd.prog laid3 w) false (World.doorLaid Tryd.prog 400 os) #[.slice none 0 0] 8 rfl (World.shaped_of_RefB (by kernel_rfl) (by kernel_rfl)) (by kernel_rfl) (by kernel_rfl) (by kernel_rfl) (door3_met os _))
    Tryd.laidOut (by kernel_rfl) rfl (by kernel_rfl) Tryd.underlying4 (fun ds hd => ?_) ?_
  · rw [Tryd.params10] at hd
    match ds, hd with
    | [_], _ => exact ⟨rfl, rfl, rfl⟩
  intro W base args ds p hval0 hA0 hlt hsz0 hX0
  have hT := pow_of_laid hX0
  have hval : ∀ (j : Nat) t v, Tryd.f10.params[j]? = some t → args[j]? = some v → Value.okWide Tryd.prog W .any base t v := hval0
  have hA : DataW.TrodAll enc Tryd.prog W 0 (fun _ => true) true Tryd.f10.params.toList args.toList ds p := hA0
  have hsz : (DataW.weightsEach Tryd.prog Tryd.f10.params.toList ds).all (· ≤ reachBytes) = true := hsz0
  rw [Tryd.params10] at hA hval hsz
  clear hval0 hA0 hsz0 hX0
  obtain ⟨v0, d0, rfl, rfl, h0⟩ := trodAll_one hA
  obtain ⟨r0, g0, k0⟩ := open_jobs (hval 0 46 v0 rfl rfl) h0
  exact fnExactJobsText_all v0 r0 W g0 k0 hT

theorem fnExactJobsText_row : Rows.FnExactJobsTextSaid :=
  OpenClaim.holds_of_wide 10 Tryd.f10 rfl rfl rfl rfl rfl rfl rfl ⟨rfl, rfl, rfl, rfl, rfl⟩ rfl rfl rfl rfl rfl (by kernel_rfl) Tryd.func10 (by kernel_rfl)
    (of_decide_eq_true (by kernel_rfl)) (by unfold Func.isWrapper; first | (rw [if_pos (by decide +kernel)]; kernel_rfl) | (rw [if_neg (by decide +kernel)]; exact ⟨rfl, rfl⟩))
    (fun os started H enc _ => fnExactJobsText_lifted os started H enc)

theorem fnExactJobsText_holds : Rows.FnExactJobsTextCardSaid :=
  Claim7.holds_tied_plain_at .later [] [.data, .data, .data] true (true, "a7042d68b7d6fbc96a9f4878f37911cd5ef00bd7eb00a4527619955f7364cb3c") true
    fnExactJobsText_row (fun _ h => by cases h) (by kernel_rfl) (fun _ h => by cases h) fnExactJobsText_row_tie rfl ⟨rfl, rfl⟩ (by kernel_rfl) rfl
    (fun f fn hf hfn => by
      obtain rfl : f = 10 := Option.some.inj ((show Tryd.prog.funcNamed "loop.example/g01346/laws.FnExactJobsText" = some 10 by kernel_rfl).symm.trans hf) |>.symm
      obtain rfl : fn = Tryd.f10 := (Option.some.inj (Tryd.func10.symm.trans hfn)).symm
      exact ⟨by kernel_rfl, fun j t ht => by
        rw [Tryd.params10] at ht
        have hm : t ∈ [46] := by simpa using Array.mem_of_getElem? ht
        have hall : ([46].all fun u => !Tryd.prog.wantsStandIn u) = true := by kernel_rfl
        exact (show Tryd.prog.wantsStandIn t = false by simpa using List.all_eq_true.1 hall t hm)⟩)
    (by kernel_rfl)
end Go.Proofs.YtdmlhjhhkiajaaaDoor
