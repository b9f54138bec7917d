/- RecoverJournal answers as its model, for all texts; its answer owns its memory. -/
import Derived.Test.YtcgdkjbbdpmmhaaDoorRjV
import Derived.Test.YtcgdkjbbdpmmhaaDoorMkL
import Derived.Test.YtcgdkjbbdpmmhaaDoorFrameP
import Derived.SevenTiedAt
namespace Go.Proofs.YtcgdkjbbdpmmhaaDoor
open Go.ChangeShapes Go.WideShapes Go.ChangeAt Go.RowKit Go.ChangeMaps

set_option maxRecDepth 100000 in
set_option maxHeartbeats 4000000 in
theorem fnExactRecoverJournal_walk (s : ByteArray) (w : World) (hT : PowTab w) :
    Calls Tryd.prog 3 #[.string s] w (Says true w) := by
  have HT := Lib.hid hT
  clear hT
  by_cases hl : s.size ≤ 1048576
  · have SP := Lib.hid (fun W => specRecoverJournal_any s W)
    have IM := Lib.hid (fun W hp => implRecoverJournal_any s W hp)
    have hn := rjL_len s
    have d0 : decide ((s.size : Int) > 1048576) = false := by simp; omega
    generalize rjL s = Z at *
    generalize rjN s = m at *
    generalize rjB s = t at *
    have EQ := Lib.hid (fun u1 u2 W h1 h2 => eqStr_says u1 u2 Z W hn h1 h2)
    have MK := Lib.hid (fun lo hi u W h => markStr_any lo hi u Z 1 W h hn (Nat.le_refl _) (by omega))
    have HD := Lib.hid (fun u W h => heldStr_any u 1 Z.length W h hn (Nat.le_refl _) (by omega))
    obtain ⟨n, hN⟩ : ∃ n, 1 + Z.length = n := ⟨_, rfl⟩
    unfold MarkedT at MK
    rw [hN] at MK HD
    have d1 : decide ((n : Int) < 0) = false := by simp
    clear hN hn
    cases t
    all_goals
      go_enter Tryd.func3, Tryd.ntmps3
      go_wp2_with fail
      go_at_call 9; refine (SP.out _).mono ?_; rintro e w1 ⟨u1, rfl, i1, b1⟩
      obtain ⟨a1, c1, rfl⟩ := TI.len' i1
      have I1 := Lib.hid i1
      have B1 := Lib.hid b1
      clear i1 b1
      go_wp2_with fail
      go_at_call 10; refine (IM.out _ (HT.out.below' B1.out)).mono ?_; rintro e w2 ⟨u2, rfl, i2, b2⟩
      obtain ⟨a2, c2, rfl⟩ := TI.len' i2
      have I2 := Lib.hid i2
      have J1 := Lib.hid (TI.below' I1.out b2 (Nat.le_refl _))
      have Z2 := Lib.hid b2.size
      have B2 := Lib.hid (B1.out.trans (b2.mono B1.out.size))
      clear i2 b2 I1
      go_wp2_with fail
      go_at_call 11; refine (EQ.out _ _ _ (TI.tl I2.out) (TI.tl J1.out)).mono ?_; rintro e w3 ⟨rfl, b3⟩
      have I3 := Lib.hid (TI.below' I2.out b3 (Nat.le_refl _))
      have K1 := Lib.hid (TI.below' J1.out b3 (Nat.le_refl _))
      have B3 := Lib.hid (B2.out.trans (b3.mono B2.out.size))
      have Z3 := Lib.hid (Nat.le_trans Z2.out b3.size)
      clear b3 I2 J1
      go_wp2_with fail
      go_at_call 12; refine (MK.out _ _ _ _ I3.out).mono ?_; rintro e w4 ⟨rfl, i4, t4⟩
      have I4 := Lib.hid i4
      have L1 := Lib.hid (TI.kept' K1.out t4 (Or.inl (Nat.le_refl _)))
      have B4 := Lib.hid (B3.out.trans ((t4.below Z3.out).mono B1.out.size))
      clear i4 t4 I3 K1
      go_wp2_with fail
      go_at_call 13; refine (HD.out _ _ (TI.tl I4.out)).mono ?_; rintro e w5 ⟨rfl, b5⟩
      have I5 := Lib.hid (TI.below' I4.out b5 (Nat.le_refl _))
      have L2 := Lib.hid (TI.below' L1.out b5 (Nat.le_refl _))
      have B5 := Lib.hid (B4.out.trans (b5.mono B4.out.size))
      clear b5 I4 L1
      go_wp2_with fail
      go_at_call 10; refine (IM.out _ (HT.out.below' B5.out)).mono ?_; rintro e w6 ⟨u6, rfl, i6, b6⟩
      obtain ⟨a6, c6, rfl⟩ := TI.len' i6
      have I6 := Lib.hid (TI.below' I5.out b6 (Nat.le_refl _))
      have J6 := Lib.hid (TI.tl i6)
      have L6 := Lib.hid (TI.below' L2.out b6 (Nat.le_refl _))
      have B6 := Lib.hid (B5.out.trans (b6.mono B5.out.size))
      clear i6 b6 I5 L2
      go_wp2_with fail
      go_at_call 11; refine (EQ.out _ _ _ J6.out (TI.tl L6.out)).mono ?_; rintro e w7 ⟨rfl, b7⟩
      have I7 := Lib.hid (TI.below' I6.out b7 (Nat.le_refl _))
      have B7 := Lib.hid (B6.out.trans (b7.mono B6.out.size))
      clear b7 I6 J6 L6
      go_wp2_with fail
      go_at_call 13; refine (HD.out _ _ (TI.tl I7.out)).mono ?_; rintro e w8 ⟨rfl, b8⟩
      have B8 := Lib.hid (B7.out.trans (b8.mono B7.out.size))
      clear b8 I7
      go_wp2_with fail
      go_ret
      exact ⟨rfl, B8.out⟩
  · have d1 : decide ((s.size : Int) > 1048576) = true := by simp; omega
    go_enter Tryd.func3, Tryd.ntmps3
    go_wp2_with fail
    go_ret
    exact ⟨rfl, Below.refl _ _⟩
theorem Tryd.own : ownKnob Tryd.prog.godebug = none := by kernel_rfl
theorem Tryd.laidOut : laidOutB Tryd.prog = true := by kernel_rfl
theorem f32_lt {x : Nat} (h : (Lit.float .f32 x).wf = true) : x < 4294967296 := by simpa [Lit.wf] using h
theorem f64_lt {x : Nat} (h : (Lit.float .f64 x).wf = true) : x < 18446744073709551616 := by simpa [Lit.wf] using h
theorem i64_in {x : Int} (h : (Lit.int .i64 x).wf = true) : -9223372036854775808 ≤ x ∧ x ≤ 9223372036854775807 := by
  have h1 : IntKind.i64.min = -9223372036854775808 := by decide
  have h2 : IntKind.i64.max = 9223372036854775807 := by decide
  simp only [Lit.wf, Bool.and_eq_true, decide_eq_true_eq, h1, h2] at h
  exact h

set_option maxRecDepth 100000 in
theorem fnExactRecoverJournal_lifted (os : Os) (started : os.Started) (H : Type) (enc : TypeId × Value → H) :
    ReturnsInHanded {} Tryd.checked os 3 .any (fun w args => (Rows.fnExactRecoverJournalSpec.pre enc Tryd.prog Tryd.f3 [] false w args ∧ laidMetH Tryd.prog laid3 w) ∧ sizedMet enc Tryd.prog Tryd.f3 (OpenSpec.ofChange Rows.fnExactRecoverJournalSpec) false w args) (Rows.fnExactRecoverJournalSpec.post enc Tryd.prog Tryd.f3 false true false false) := by
  refine Frame.law_lifted_laid (X := fun w => laidMetH Tryd.prog laid3 w) (tb := 4) (fun _ _ hh h => h.of_heap hh) Tryd.own started (by kernel_rfl) Tryd.func3
    (ChangeSpec.witness_shaped (enc := enc) (C := Tryd.checked) (os := os) (X := fun w _ => laidMetH Tryd.prog laid3 w) false (World.doorLaid Tryd.prog 400 os) #[.string ByteArray.empty] 8 rfl (World.shaped_of_RefB (by kernel_rfl) (by kernel_rfl)) (by kernel_rfl) (by kernel_rfl) (by kernel_rfl) (door3_met os _))
    Tryd.laidOut (by kernel_rfl) rfl (by kernel_rfl) Tryd.underlying4 (fun ds hd => ?_) ?_
  · rw [Tryd.params3] at hd
    match ds, hd with
    | [_], _ => exact ⟨rfl, rfl, rfl⟩
  intro W base args ds p hval0 hA0 hlt hsz0 hX0
  have hT := pow_of_laid hX0
  have hval : ∀ (j : Nat) t v, Tryd.f3.params[j]? = some t → args[j]? = some v → Value.okWide Tryd.prog W .any base t v := hval0
  have hA : DataW.TrodAll enc Tryd.prog W 0 (fun _ => true) true Tryd.f3.params.toList args.toList ds p := hA0
  have hsz : (DataW.weightsEach Tryd.prog Tryd.f3.params.toList ds).all (· ≤ reachBytes) = true := hsz0
  rw [Tryd.params3] at hA hval hsz
  clear hval0 hA0 hsz0 hX0
  obtain ⟨v0, d0, rfl, rfl, h0⟩ := trodAll_one hA
  obtain ⟨a0, rfl, rfl, rfl, b0⟩ := open_string Tryd.underlying9 (hval 0 9 v0 rfl rfl) h0
  exact fnExactRecoverJournal_walk a0 W hT

theorem fnExactRecoverJournal_row : Rows.FnExactRecoverJournalSaid :=
  OpenClaim.holds_of_wide 3 Tryd.f3 rfl rfl rfl rfl rfl rfl rfl ⟨rfl, rfl, rfl, rfl, rfl⟩ rfl rfl rfl rfl rfl (by kernel_rfl) Tryd.func3 (by kernel_rfl)
    (of_decide_eq_true (by kernel_rfl)) (by unfold Func.isWrapper; first | (rw [if_pos (by decide +kernel)]; kernel_rfl) | (rw [if_neg (by decide +kernel)]; exact ⟨rfl, rfl⟩))
    (fun os started H enc _ => fnExactRecoverJournal_lifted os started H enc)

theorem fnExactRecoverJournal_holds : Rows.FnExactRecoverJournalCardSaid :=
  Claim7.holds_tied_plain_at .later [] [.data, .data, .data] true (true, "01f751b03d7642e61d3fb86521ec869908c8625bfd53d49dd3003436e10a58bb") true
    fnExactRecoverJournal_row (fun _ h => by cases h) (by kernel_rfl) (fun _ h => by cases h) fnExactRecoverJournal_row_tie rfl ⟨rfl, rfl⟩ (by kernel_rfl) rfl
    (fun f fn hf hfn => by
      obtain rfl : f = 3 := Option.some.inj ((show Tryd.prog.funcNamed "loop.example/g01346/laws.FnExactRecoverJournal" = some 3 by kernel_rfl).symm.trans hf) |>.symm
      obtain rfl : fn = Tryd.f3 := (Option.some.inj (Tryd.func3.symm.trans hfn)).symm
      exact ⟨by kernel_rfl, fun j t ht => by
        rw [Tryd.params3] at ht
        have hm : t ∈ [9] := by simpa using Array.mem_of_getElem? ht
        have hall : ([9].all fun u => !Tryd.prog.wantsStandIn u) = true := by kernel_rfl
        exact (show Tryd.prog.wantsStandIn t = false by simpa using List.all_eq_true.1 hall t hm)⟩)
    (by kernel_rfl)
end Go.Proofs.YtcgdkjbbdpmmhaaDoor
