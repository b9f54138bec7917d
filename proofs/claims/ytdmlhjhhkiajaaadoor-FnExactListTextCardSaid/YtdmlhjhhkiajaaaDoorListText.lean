/- ListText answers as its model, for all arguments; it writes into no argument. -/
import Derived.Test.YtdmlhjhhkiajaaaDoorLtS
import Derived.Test.YtdmlhjhhkiajaaaDoorIl
import Derived.Deep.RegionWith
import Derived.Deep.DeepCutAuto
import Derived.Test.YtdmlhjhhkiajaaaDoorFrame
import Derived.Outline
import Derived.Test.YtdmlhjhhkiajaaaDoorFrameP
import Derived.SevenTiedAt
namespace Go.Proofs.YtdmlhjhhkiajaaaDoor
open Go.ChangeShapes Go.WideShapes Go.ChangeAt Go.RowKit Go.ChangeMaps

set_option maxRecDepth 100000 in
set_option maxHeartbeats 8000000 in
theorem fnExactListText_main (v0 : Value) (A : List Int) (w : World) (hv0 : IL w v0 A) (o0 : OKI A) (hT : PowTab w) :
    Calls Tryd.prog 5 #[v0] w (Says true w) := by
  have V0 := Lib.hid hv0
  obtain ⟨a0, cap0, rfl⟩ := hv0.long
  clear hv0
  have HTB := Lib.hid hT
  have hl0 : ¬ 1048576 < A.length := by have := o0.size; omega
  have hs0 := o0.size
  skip
  go_enter Tryd.func5, Tryd.ntmps5
  go_wp2_with fail
  go_at_call 20; refine (toI64_si _ A _ (V0.out.below (Below.refl w.heap.size w) (Nat.le_refl _)) (by omega)).mono ?_; rintro e w1 ⟨q0v, rfl, i, b⟩
  have F1_1 := Lib.hid (II.wide' (lo' := w.heap.size) i (Below.refl w.heap.size w).size)
  clear i
  have bz := b
  have z1 : w.heap.size ≤ w1.heap.size := bz.size
  have H1 := Lib.hid ((Below.refl w.heap.size w).trans (bz.mono (Below.refl w.heap.size w).size))
  clear b bz
  go_wp2_with fail
  go_at_call 19; refine (specListText_any _ A _ F1_1.out.il o0).mono ?_; rintro e w2 ⟨rfl, b⟩
  have bz := b
  have z2 : w1.heap.size ≤ w2.heap.size := bz.size
  have H2 := Lib.hid (H1.out.trans (bz.mono H1.out.size))
  clear b bz F1_1 H1
  go_wp2_with fail
  go_at_call 20; refine (toI64_si _ A _ (V0.out.below H2.out (Nat.le_refl _)) (by omega)).mono ?_; rintro e w3 ⟨x0v, rfl, i, b⟩
  obtain ⟨x0a, x0c, rfl⟩ := II.len' i
  have F3_2 := Lib.hid (II.wide' (lo' := w2.heap.size) i (Below.refl w2.heap.size w2).size)
  clear i
  have bz := b
  have z3 : w2.heap.size ≤ w3.heap.size := bz.size
  have H3 := Lib.hid (H2.out.trans (bz.mono H2.out.size))
  clear b bz H2
  go_wp2_with fail
  go_at_call 21; refine (implListText_any _ A _ F3_2.out.il o0 (HTB.out.below' H3.out)).mono ?_; rintro e w4 ⟨rfl, b⟩
  have bz := b
  have F4_2 := Lib.hid (F3_2.out.below' bz (Nat.le_refl _))
  have z4 : w3.heap.size ≤ w4.heap.size := bz.size
  have H4 := Lib.hid (H3.out.trans (bz.mono H3.out.size))
  clear b bz F3_2 H3
  go_wp2_with fail
  go_at_call 20; refine (toI64_si _ A _ (V0.out.below H4.out (Nat.le_refl _)) (by omega)).mono ?_; rintro e w5 ⟨tv, rfl, i, b⟩
  have F5_3 := Lib.hid (II.wide' (lo' := w4.heap.size) i (Below.refl w4.heap.size w4).size)
  clear i
  have bz := b
  have F5_2 := Lib.hid (F4_2.out.below' bz (Nat.le_refl _))
  have z5 : w4.heap.size ≤ w5.heap.size := bz.size
  have H5 := Lib.hid (H4.out.trans (bz.mono H4.out.size))
  clear b bz F4_2 H4
  go_wp2_with fail
  go_at_call 22; refine (eqI64_says _ _ A _ (by omega) F5_2.out.il F5_3.out.il).mono ?_; rintro e w6 ⟨rfl, b⟩
  have bz := b
  have z6 : w5.heap.size ≤ w6.heap.size := bz.size
  have H6 := Lib.hid (H5.out.trans (bz.mono H5.out.size))
  clear b bz F5_2 F5_3 H5
  go_wp2_with fail
  go_ret
  exact says rfl H6.out
set_option maxRecDepth 100000 in
set_option maxHeartbeats 8000000 in
theorem fnExactListText_long0 (v0 : Value) (A : List Int) (w : World) (hv0 : IL w v0 A) (hb : 1048576 < A.length) (hx : A.length ≤ maxLen) :
    Calls Tryd.prog 5 #[v0] w (Says true w) := by
  unfold maxLen at hx
  have V0 := Lib.hid hv0
  obtain ⟨a0, cap0, rfl⟩ := hv0.long
  clear hv0
  go_enter Tryd.func5, Tryd.ntmps5
  go_wp2_with fail
  go_ret
  exact says rfl (Below.refl w.heap.size w)

set_option maxRecDepth 100000 in
set_option maxHeartbeats 8000000 in
theorem fnExactListText_all (v0 : Value) (A : List Int) (w : World) (hv0 : IL w v0 A) (f0 : FitI A) (hT : PowTab w) :
    Calls Tryd.prog 5 #[v0] w (Says true w) := by
  by_cases hl0 : 1048576 < A.length
  · exact fnExactListText_long0 v0 A w hv0  hl0 f0.1
  exact fnExactListText_main v0 A w hv0 ⟨by omega, f0⟩ hT

theorem Tryd.own : ownKnob Tryd.prog.godebug = none := by kernel_rfl
theorem Tryd.laidOut : laidOutB Tryd.prog = true := by kernel_rfl
theorem f32_lt {x : Nat} (h : (Lit.float .f32 x).wf = true) : x < 4294967296 := by simpa [Lit.wf] using h
theorem f64_lt {x : Nat} (h : (Lit.float .f64 x).wf = true) : x < 18446744073709551616 := by simpa [Lit.wf] using h
theorem i64_in {x : Int} (h : (Lit.int .i64 x).wf = true) : -9223372036854775808 ≤ x ∧ x ≤ 9223372036854775807 := by
  have h1 : IntKind.i64.min = -9223372036854775808 := by decide
  have h2 : IntKind.i64.max = 9223372036854775807 := by decide
  simp only [Lit.wf, Bool.and_eq_true, decide_eq_true_eq, h1, h2] at h
  exact h

set_option maxRecDepth 100000 in
theorem fnExactListText_lifted (os : Os) (started : os.Started) (H : Type) (enc : TypeId × Value → H) :
    ReturnsInHanded {} Tryd.checked os 5 .any (fun w args => (Rows.fnExactListTextSpec.pre enc Tryd.prog Tryd.f5 [] false w args ∧ laidMetH Tryd.prog laid3 w) ∧ sizedMet enc Tryd.prog Tryd.f5 (OpenSpec.ofChange Rows.fnExactListTextSpec) false w args) (Rows.fnExactListTextSpec.post enc Tryd.prog Tryd.f5 false true false false) := by
  refine Frame.law_lifted_laid (X := fun w => laidMetH Tryd.prog laid3 w) (tb := 4) (fun _ _ hh h => h.of_heap hh) Tryd.own started (by kernel_rfl) Tryd.func5
    (ChangeSpec.witness_shaped (enc := enc) (C := Tryd.checked) (os := os) (X := fun w _ => laidMetH Tryd.prog laid3 w) false (World.doorLaid Tryd.prog 400 os) #[.slice none 0 0] 8 rfl (World.shaped_of_RefB (by kernel_rfl) (by kernel_rfl)) (by kernel_rfl) (by kernel_rfl) (by kernel_rfl) (door3_met os _))
    Tryd.laidOut (by kernel_rfl) rfl (by kernel_rfl) Tryd.underlying4 (fun ds hd => ?_) ?_
  · rw [Tryd.params5] at hd
    match ds, hd with
    | [_], _ => exact ⟨rfl, rfl, rfl⟩
  intro W base args ds p hval0 hA0 hlt hsz0 hX0
  have hT := pow_of_laid hX0
  have hval : ∀ (j : Nat) t v, Tryd.f5.params[j]? = some t → args[j]? = some v → Value.okWide Tryd.prog W .any base t v := hval0
  have hA : DataW.TrodAll enc Tryd.prog W 0 (fun _ => true) true Tryd.f5.params.toList args.toList ds p := hA0
  have hsz : (DataW.weightsEach Tryd.prog Tryd.f5.params.toList ds).all (· ≤ reachBytes) = true := hsz0
  rw [Tryd.params5] at hA hval hsz
  clear hval0 hA0 hsz0 hX0
  obtain ⟨v0, d0, rfl, rfl, h0⟩ := trodAll_one hA
  obtain ⟨r0, g0, k0⟩ := open_i64s (hval 0 27 v0 rfl rfl) h0
  exact fnExactListText_all v0 r0 W g0 k0 hT

theorem fnExactListText_row : Rows.FnExactListTextSaid :=
  OpenClaim.holds_of_wide 5 Tryd.f5 rfl rfl rfl rfl rfl rfl rfl ⟨rfl, rfl, rfl, rfl, rfl⟩ rfl rfl rfl rfl rfl (by kernel_rfl) Tryd.func5 (by kernel_rfl)
    (of_decide_eq_true (by kernel_rfl)) (by unfold Func.isWrapper; first | (rw [if_pos (by decide +kernel)]; kernel_rfl) | (rw [if_neg (by decide +kernel)]; exact ⟨rfl, rfl⟩))
    (fun os started H enc _ => fnExactListText_lifted os started H enc)

theorem fnExactListText_holds : Rows.FnExactListTextCardSaid :=
  Claim7.holds_tied_plain_at .later [] [.data, .data, .data] true (true, "a7042d68b7d6fbc96a9f4878f37911cd5ef00bd7eb00a4527619955f7364cb3c") true
    fnExactListText_row (fun _ h => by cases h) (by kernel_rfl) (fun _ h => by cases h) fnExactListText_row_tie rfl ⟨rfl, rfl⟩ (by kernel_rfl) rfl
    (fun f fn hf hfn => by
      obtain rfl : f = 5 := Option.some.inj ((show Tryd.prog.funcNamed "loop.example/g01346/laws.FnExactListText" = some 5 by kernel_rfl).symm.trans hf) |>.symm
      obtain rfl : fn = Tryd.f5 := (Option.some.inj (Tryd.func5.symm.trans hfn)).symm
      exact ⟨by kernel_rfl, fun j t ht => by
        rw [Tryd.params5] at ht
        have hm : t ∈ [27] := by simpa using Array.mem_of_getElem? ht
        have hall : ([27].all fun u => !Tryd.prog.wantsStandIn u) = true := by kernel_rfl
        exact (show Tryd.prog.wantsStandIn t = false by simpa using List.all_eq_true.1 hall t hm)⟩)
    (by kernel_rfl)
end Go.Proofs.YtdmlhjhhkiajaaaDoor
