/- ReadList answers as its model, for all texts; its answer owns its memory. -/
import Derived.Test.YtcgdkjbbdpmmhaaDoorRlI
import Derived.Test.YtcgdkjbbdpmmhaaDoorRlM
import Derived.Test.YtcgdkjbbdpmmhaaDoorFrameT
import Derived.SevenTiedAt
namespace Go.Proofs.YtcgdkjbbdpmmhaaDoor
open Go.ChangeShapes Go.WideShapes Go.ChangeAt Go.RowKit Go.ChangeMaps

set_option maxRecDepth 100000 in
set_option maxHeartbeats 4000000 in
theorem fnExactReadList_walk (s : ByteArray) (w : World) (hT : ErrTab w) :
    Calls Tryd.prog 7 #[.string s] w (Says true w) := by
  have HT := Lib.hid hT
  clear hT
  by_cases hl : s.size ≤ 1048576
  · have SP := Lib.hid (fun W => specReadList_any s W hl)
    have IM := Lib.hid (fun W hp => implReadList_any s W hl hp)
    have hn := rlL_len s
    have d0 : decide ((s.size : Int) > 1048576) = false := by simp; omega
    generalize rlL s = Z at *
    generalize rlB s = t at *
    have EQ := Lib.hid (fun u1 u2 W h1 h2 => eqI64_says u1 u2 Z W (by omega) h1 h2)
    have MK := Lib.hid (fun lo hi u W h => markI64_any lo hi u Z 1 W h (by omega) (by omega) (by omega))
    have HD := Lib.hid (fun u W h => heldI64_says u 1 Z.length W h (by omega) (by omega) (by omega))
    obtain ⟨n, hN⟩ : ∃ n : Int, 1 + ((Z.length : Nat) : Int) = n := ⟨_, rfl⟩
    unfold MarkedI at MK
    rw [hN] at MK HD
    have d1 : decide (n < 0) = false := by simp; omega
    clear hN hn
    cases t
    all_goals
      go_enter Tryd.func7, Tryd.ntmps7
      go_wp2_with fail
      go_at_call 27; refine (SP.out _).mono ?_; rintro e w1 ⟨u1, rfl, i1, b1⟩
      obtain ⟨a1, c1, rfl⟩ := II.len' i1
      have I1 := Lib.hid i1
      have B1 := Lib.hid b1
      clear i1 b1
      go_wp2_with fail
      go_at_call 28; refine (IM.out _ (HT.out.below' B1.out)).mono ?_; rintro e w2 ⟨u2, rfl, i2, b2⟩
      obtain ⟨a2, c2, rfl⟩ := II.len' i2
      have I2 := Lib.hid i2
      have J1 := Lib.hid (II.below' I1.out b2 (Nat.le_refl _))
      have Z2 := Lib.hid b2.size
      have B2 := Lib.hid (B1.out.trans (b2.mono B1.out.size))
      clear i2 b2 I1
      go_wp2_with fail
      go_at_call 29; refine (EQ.out _ _ _ (II.il I2.out) (II.il J1.out)).mono ?_; rintro e w3 ⟨rfl, b3⟩
      have I3 := Lib.hid (II.below' I2.out b3 (Nat.le_refl _))
      have K1 := Lib.hid (II.below' J1.out b3 (Nat.le_refl _))
      have B3 := Lib.hid (B2.out.trans (b3.mono B2.out.size))
      have Z3 := Lib.hid (Nat.le_trans Z2.out b3.size)
      clear b3 I2 J1
      go_wp2_with fail
      go_at_call 30; refine (MK.out _ _ _ _ I3.out).mono ?_; rintro e w4 ⟨rfl, i4, t4⟩
      have I4 := Lib.hid i4
      have L1 := Lib.hid (II.kept' K1.out t4 (Or.inl (Nat.le_refl _)))
      have B4 := Lib.hid (B3.out.trans ((t4.below Z3.out).mono B1.out.size))
      clear i4 t4 I3 K1
      go_wp2_with fail
      go_at_call 31; refine (HD.out _ _ (II.il I4.out)).mono ?_; rintro e w5 ⟨rfl, b5⟩
      have I5 := Lib.hid (II.below' I4.out b5 (Nat.le_refl _))
      have L2 := Lib.hid (II.below' L1.out b5 (Nat.le_refl _))
      have B5 := Lib.hid (B4.out.trans (b5.mono B4.out.size))
      clear b5 I4 L1
      go_wp2_with fail
      go_at_call 28; refine (IM.out _ (HT.out.below' B5.out)).mono ?_; rintro e w6 ⟨u6, rfl, i6, b6⟩
      obtain ⟨a6, c6, rfl⟩ := II.len' i6
      have I6 := Lib.hid (II.below' I5.out b6 (Nat.le_refl _))
      have J6 := Lib.hid (II.il i6)
      have L6 := Lib.hid (II.below' L2.out b6 (Nat.le_refl _))
      have B6 := Lib.hid (B5.out.trans (b6.mono B5.out.size))
      clear i6 b6 I5 L2
      go_wp2_with fail
      go_at_call 29; refine (EQ.out _ _ _ J6.out (II.il L6.out)).mono ?_; rintro e w7 ⟨rfl, b7⟩
      have I7 := Lib.hid (II.below' I6.out b7 (Nat.le_refl _))
      have B7 := Lib.hid (B6.out.trans (b7.mono B6.out.size))
      clear b7 I6 J6 L6
      go_wp2_with fail
      go_at_call 31; refine (HD.out _ _ (II.il I7.out)).mono ?_; rintro e w8 ⟨rfl, b8⟩
      have B8 := Lib.hid (B7.out.trans (b8.mono B7.out.size))
      clear b8 I7
      go_wp2_with fail
      go_ret
      exact ⟨rfl, B8.out⟩
  · have d1 : decide ((s.size : Int) > 1048576) = true := by simp; omega
    go_enter Tryd.func7, Tryd.ntmps7
    go_wp2_with fail
    go_ret
    exact ⟨rfl, Below.refl _ _⟩
theorem Tryd.own : ownKnob Tryd.prog.godebug = none := by kernel_rfl
theorem Tryd.laidOut : laidOutB Tryd.prog = true := by kernel_rfl
theorem f32_lt {x : Nat} (h : (Lit.float .f32 x).wf = true) : x < 4294967296 := by simpa [Lit.wf] using h
theorem f64_lt {x : Nat} (h : (Lit.float .f64 x).wf = true) : x < 18446744073709551616 := by simpa [Lit.wf] using h
theorem i64_in {x : Int} (h : (Lit.int .i64 x).wf = true) : -9223372036854775808 ≤ x ∧ x ≤ 9223372036854775807 := by
  have h1 : IntKind.i64.min = -9223372036854775808 := by decide
  have h2 : IntKind.i64.max = 9223372036854775807 := by decide
  simp only [Lit.wf, Bool.and_eq_true, decide_eq_true_eq, h1, h2] at h
  exact h

set_option maxRecDepth 100000 in
theorem fnExactReadList_lifted (os : Os) (started : os.Started) (H : Type) (enc : TypeId × Value → H) :
    ReturnsInHanded {} Tryd.checked os 7 .any (fun w args => (Rows.fnExactReadListSpec.pre enc Tryd.prog Tryd.f7 [] false w args ∧ laidMetH Tryd.prog laidT w) ∧ sizedMet enc Tryd.prog Tryd.f7 (OpenSpec.ofChange Rows.fnExactReadListSpec) false w args) (Rows.fnExactReadListSpec.post enc Tryd.prog Tryd.f7 false true false false) := by
  refine Frame.law_lifted_shaped (X := fun w => laidMetH Tryd.prog laidT w) (tb := 4) (fun _ _ hh h => h.of_heap hh) Tryd.own started (by kernel_rfl) Tryd.func7
    (ChangeSpec.witness_shaped (enc := enc) (C := Tryd.checked) (os := os) (X := fun w _ => laidMetH Tryd.prog laidT w) false (World.laidAll Tryd.prog os laidT) #[.string ByteArray.empty] 8 (World.laidAll_os _ _ _) (World.shaped_of_ZipB (by kernel_rfl) (by kernel_rfl)) (by kernel_rfl) (by kernel_rfl) (by kernel_rfl) (laidT_met os _))
    Tryd.laidOut (by kernel_rfl) rfl (by kernel_rfl) Tryd.underlying4 (fun ds hd => ?_) ?_
  · rw [Tryd.params7] at hd
    match ds, hd with
    | [_], _ => exact ⟨rfl, rfl, rfl⟩
  intro W base args ds p hval0 hA0 hlt hsz0 hX0 _
  have hT := tab_of_laidT hX0
  have hval : ∀ (j : Nat) t v, Tryd.f7.params[j]? = some t → args[j]? = some v → Value.okWide Tryd.prog W .any base t v := hval0
  have hA : DataW.TrodAll enc Tryd.prog W 0 (fun _ => true) true Tryd.f7.params.toList args.toList ds p := hA0
  have hsz : (DataW.weightsEach Tryd.prog Tryd.f7.params.toList ds).all (· ≤ reachBytes) = true := hsz0
  rw [Tryd.params7] at hA hval hsz
  clear hval0 hA0 hsz0 hX0
  obtain ⟨v0, d0, rfl, rfl, h0⟩ := trodAll_one hA
  obtain ⟨a0, rfl, rfl, rfl, b0⟩ := open_string Tryd.underlying9 (hval 0 9 v0 rfl rfl) h0
  exact fnExactReadList_walk a0 W hT

theorem fnExactReadList_row : Rows.FnExactReadListSaid :=
  OpenClaim.holds_of_wide 7 Tryd.f7 rfl rfl rfl rfl rfl rfl rfl ⟨rfl, rfl, rfl, rfl, rfl⟩ rfl rfl rfl rfl rfl (by kernel_rfl) Tryd.func7 (by kernel_rfl)
    (of_decide_eq_true (by kernel_rfl)) (by unfold Func.isWrapper; first | (rw [if_pos (by decide +kernel)]; kernel_rfl) | (rw [if_neg (by decide +kernel)]; exact ⟨rfl, rfl⟩))
    (fun os started H enc _ => fnExactReadList_lifted os started H enc)

theorem fnExactReadList_holds : Rows.FnExactReadListCardSaid :=
  Claim7.holds_tied_plain_at .later [] [.data, .data, .data, .data, .sentinel, .sentinel, .pinned] true (true, "01f751b03d7642e61d3fb86521ec869908c8625bfd53d49dd3003436e10a58bb") true
    fnExactReadList_row (fun _ h => by cases h) (by kernel_rfl) (fun _ h => by cases h) fnExactReadList_row_tie rfl ⟨rfl, rfl⟩ (by kernel_rfl) rfl
    (fun f fn hf hfn => by
      obtain rfl : f = 7 := Option.some.inj ((show Tryd.prog.funcNamed "loop.example/g01346/laws.FnExactReadList" = some 7 by kernel_rfl).symm.trans hf) |>.symm
      obtain rfl : fn = Tryd.f7 := (Option.some.inj (Tryd.func7.symm.trans hfn)).symm
      exact ⟨by kernel_rfl, fun j t ht => by
        rw [Tryd.params7] at ht
        have hm : t ∈ [9] := by simpa using Array.mem_of_getElem? ht
        have hall : ([9].all fun u => !Tryd.prog.wantsStandIn u) = true := by kernel_rfl
        exact (show Tryd.prog.wantsStandIn t = false by simpa using List.all_eq_true.1 hall t hm)⟩)
    (by kernel_rfl)
end Go.Proofs.YtcgdkjbbdpmmhaaDoor
