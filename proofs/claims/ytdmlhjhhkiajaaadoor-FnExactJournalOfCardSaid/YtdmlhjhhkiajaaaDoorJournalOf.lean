/- JournalOf answers as its model, for all lists of lines; it writes into no argument. -/
import Derived.Test.YtdmlhjhhkiajaaaDoorJoS
import Derived.Test.YtdmlhjhhkiajaaaDoorStZ
import Derived.SevenTiedAt
namespace Go.Proofs.YtdmlhjhhkiajaaaDoor
open Go.ChangeShapes Go.WideShapes Go.ChangeAt Go.RowKit Go.ChangeMaps

set_option maxRecDepth 100000 in
set_option maxHeartbeats 4000000 in
theorem fnExactJournalOf_walk (v : Value) (L : List ByteArray) (w : World) (hv : TL w v L) (hf : FitT L) (hT : PowTab w) :
    Calls Tryd.prog 8 #[v] w (Says true w) := by
  have HV := Lib.hid hv
  have HT := Lib.hid hT
  obtain ⟨ao, cap, rfl⟩ := TL.long hv
  clear hT
  by_cases hz : szOk L
  · have hn : L.length ≤ 1048576 := by unfold szOk at hz; omega
    have hs : ∀ i, i < L.length → (L.getD i (bsOf [])).size ≤ 1048576 := fun i hi => by have := szT_each hi; unfold szOk at hz; omega
    have SZ := Lib.hid (szStr_yes (.slice ao L.length cap) L w hv hz)
    have TS := Lib.hid (fun W hv => toStr_si (.slice ao L.length cap) L W hv hn)
    have SP := Lib.hid (fun u W hv => specJournalOf_any u L W hv hn hs)
    have IM := Lib.hid (fun u W hv hp => implJournalOf_any u L W hv hn hs hp)
    have EQ := Lib.hid (fun u1 u2 W h1 h2 => eqStr_says u1 u2 L W hn h1 h2)
    have d0 : decide (1048576 - (L.length : Int) - (szT L L.length : Int) < 0) = false := by unfold szOk at hz; simp; omega
    generalize jD L = D at *
    generalize jB L = t at *
    generalize szT L L.length = q at *
    clear hv hz hs hf
    cases t
    all_goals
      go_enter Tryd.func8, Tryd.ntmps8
      go_wp2_with fail
      go_at_call 29; refine SZ.out.mono ?_; rintro e w1 ⟨rfl, rfl⟩
      go_wp2_with fail
      go_at_call 31; refine (TS.out _ HV.out).mono ?_; rintro e w2 ⟨u2, rfl, i2, b2⟩
      have B2 := Lib.hid b2
      have I2 := Lib.hid (TI.tl i2)
      clear i2 b2
      go_wp2_with fail
      go_at_call 30; refine (SP.out _ _ I2.out).mono ?_; rintro e w3 ⟨rfl, b3⟩
      have B3 := Lib.hid (B2.out.trans (b3.mono B2.out.size))
      clear b3 I2
      go_wp2_with fail
      go_at_call 31; refine (TS.out _ (TL.below HV.out B3.out (Nat.le_refl _))).mono ?_; rintro e w4 ⟨u4, rfl, i4, b4⟩
      have B4 := Lib.hid (B3.out.trans (b4.mono B3.out.size))
      obtain ⟨a4, c4, rfl⟩ := TI.len' i4
      have I4 := Lib.hid (TI.tl i4)
      clear i4 b4
      go_wp2_with fail
      go_at_call 32; refine (IM.out _ _ I4.out (HT.out.below' B4.out)).mono ?_; rintro e w5 ⟨rfl, b5⟩
      have I5 := Lib.hid (TL.below I4.out b5 (Nat.le_refl _))
      have B5 := Lib.hid (B4.out.trans (b5.mono B4.out.size))
      clear b5 I4
      go_wp2_with fail
      go_at_call 31; refine (TS.out _ (TL.below HV.out B5.out (Nat.le_refl _))).mono ?_; rintro e w6 ⟨u6, rfl, i6, b6⟩
      have I6 := Lib.hid (TI.tl i6)
      have J6 := Lib.hid (TL.below I5.out b6 (Nat.le_refl _))
      have B6 := Lib.hid (B5.out.trans (b6.mono B5.out.size))
      clear i6 b6 I5
      go_wp2_with fail
      go_at_call 33; refine (EQ.out _ _ _ J6.out I6.out).mono ?_; rintro e w7 ⟨rfl, b7⟩
      have B7 := Lib.hid (B6.out.trans (b7.mono B6.out.size))
      clear b7
      go_wp2_with fail
      go_ret
      exact ⟨rfl, B7.out⟩
  · have SZ := Lib.hid (szStr_no (.slice ao L.length cap) L w hv hf hz)
    clear hv hz hf
    go_enter Tryd.func8, Tryd.ntmps8
    go_wp2_with fail
    go_at_call 29; refine SZ.out.mono ?_; rintro e w1 ⟨rfl, rfl⟩
    go_wp2_with fail
    go_ret
    exact ⟨rfl, Below.refl _ _⟩
theorem Tryd.own : ownKnob Tryd.prog.godebug = none := by kernel_rfl
theorem Tryd.laidOut : laidOutB Tryd.prog = true := by kernel_rfl
theorem f32_lt {x : Nat} (h : (Lit.float .f32 x).wf = true) : x < 4294967296 := by simpa [Lit.wf] using h
theorem f64_lt {x : Nat} (h : (Lit.float .f64 x).wf = true) : x < 18446744073709551616 := by simpa [Lit.wf] using h
theorem i64_in {x : Int} (h : (Lit.int .i64 x).wf = true) : -9223372036854775808 ≤ x ∧ x ≤ 9223372036854775807 := by
  have h1 : IntKind.i64.min = -9223372036854775808 := by decide
  have h2 : IntKind.i64.max = 9223372036854775807 := by decide
  simp only [Lit.wf, Bool.and_eq_true, decide_eq_true_eq, h1, h2] at h
  exact h

set_option maxRecDepth 100000 in
theorem fnExactJournalOf_lifted (os : Os) (started : os.Started) (H : Type) (enc : TypeId × Value → H) :
    ReturnsInHanded {} Tryd.checked os 8 .any (fun w args => (Rows.fnExactJournalOfSpec.pre enc Tryd.prog Tryd.f8 [] false w args ∧ laidMetH Tryd.prog laid3 w) ∧ sizedMet enc Tryd.prog Tryd.f8 (OpenSpec.ofChange Rows.fnExactJournalOfSpec) false w args) (Rows.fnExactJournalOfSpec.post enc Tryd.prog Tryd.f8 false true false false) := by
  refine Frame.law_lifted_laid (X := fun w => laidMetH Tryd.prog laid3 w) (tb := 4) (fun _ _ hh h => h.of_heap hh) Tryd.own started (by kernel_rfl) Tryd.func8
    (ChangeSpec.witness_shaped (enc := enc) (C := Tryd.checked) (os := os) (X := fun w _ => laidMetH Tryd.prog laid3 w) false (World.doorLaid Tryd.prog 400 os) #[.slice none 0 0] 8 rfl (World.shaped_of_RefB (by kernel_rfl) (by kernel_rfl)) (by kernel_rfl) (by kernel_rfl) (by kernel_rfl) (door3_met os _))
    Tryd.laidOut (by kernel_rfl) rfl (by kernel_rfl) Tryd.underlying4 (fun ds hd => ?_) ?_
  · rw [Tryd.params8] at hd
    match ds, hd with
    | [_], _ => exact ⟨rfl, rfl, rfl⟩
  intro W base args ds p hval0 hA0 hlt hsz0 hX0
  have hT := pow_of_laid hX0
  have hval : ∀ (j : Nat) t v, Tryd.f8.params[j]? = some t → args[j]? = some v → Value.okWide Tryd.prog W .any base t v := hval0
  have hA : DataW.TrodAll enc Tryd.prog W 0 (fun _ => true) true Tryd.f8.params.toList args.toList ds p := hA0
  have hsz : (DataW.weightsEach Tryd.prog Tryd.f8.params.toList ds).all (· ≤ reachBytes) = true := hsz0
  rw [Tryd.params8] at hA hval hsz
  clear hval0 hA0 hsz0 hX0
  obtain ⟨v0, d0, rfl, rfl, h0⟩ := trodAll_one hA
  obtain ⟨r0, g0, k0⟩ := open_strl (hval 0 38 v0 rfl rfl) h0
  exact fnExactJournalOf_walk v0 r0 W g0 k0 hT

theorem fnExactJournalOf_row : Rows.FnExactJournalOfSaid :=
  OpenClaim.holds_of_wide 8 Tryd.f8 rfl rfl rfl rfl rfl rfl rfl ⟨rfl, rfl, rfl, rfl, rfl⟩ rfl rfl rfl rfl rfl (by kernel_rfl) Tryd.func8 (by kernel_rfl)
    (of_decide_eq_true (by kernel_rfl)) (by unfold Func.isWrapper; first | (rw [if_pos (by decide +kernel)]; kernel_rfl) | (rw [if_neg (by decide +kernel)]; exact ⟨rfl, rfl⟩))
    (fun os started H enc _ => fnExactJournalOf_lifted os started H enc)

theorem fnExactJournalOf_holds : Rows.FnExactJournalOfCardSaid :=
  Claim7.holds_tied_plain_at .later [] [.data, .data, .data] true (true, "a7042d68b7d6fbc96a9f4878f37911cd5ef00bd7eb00a4527619955f7364cb3c") true
    fnExactJournalOf_row (fun _ h => by cases h) (by kernel_rfl) (fun _ h => by cases h) fnExactJournalOf_row_tie rfl ⟨rfl, rfl⟩ (by kernel_rfl) rfl
    (fun f fn hf hfn => by
      obtain rfl : f = 8 := Option.some.inj ((show Tryd.prog.funcNamed "loop.example/g01346/laws.FnExactJournalOf" = some 8 by kernel_rfl).symm.trans hf) |>.symm
      obtain rfl : fn = Tryd.f8 := (Option.some.inj (Tryd.func8.symm.trans hfn)).symm
      exact ⟨by kernel_rfl, fun j t ht => by
        rw [Tryd.params8] at ht
        have hm : t ∈ [38] := by simpa using Array.mem_of_getElem? ht
        have hall : ([38].all fun u => !Tryd.prog.wantsStandIn u) = true := by kernel_rfl
        exact (show Tryd.prog.wantsStandIn t = false by simpa using List.all_eq_true.1 hall t hm)⟩)
    (by kernel_rfl)
end Go.Proofs.YtdmlhjhhkiajaaaDoor
