/- ReadNumbers answers as its model, for all texts; its answer owns its memory. -/
import Derived.Test.YtcgdkjbbdpmmhaaDoorRnI
import Derived.Test.YtcgdkjbbdpmmhaaDoorRnM
import Derived.Test.YtcgdkjbbdpmmhaaDoorF2
import Derived.Test.YtcgdkjbbdpmmhaaDoorFrameS
import Derived.SevenTiedAt
namespace Go.Proofs.YtcgdkjbbdpmmhaaDoor
open Go.ChangeShapes Go.WideShapes Go.ChangeAt Go.RowKit Go.ChangeMaps

theorem eqN_says (v u : Value) (Z : List Nat) (w : World) (hn : Z.length ≤ 1048576) (h1 : SL w v Z) (h2 : SL w u Z) : Calls Tryd.prog 17 #[v, u] w (Says true w) :=
  (eqF32_any v u Z w hn h1 h2).mono fun _ _ ⟨h1, h2⟩ => ⟨h1, by obtain ⟨n, rfl⟩ := h2; exact below_drewN (Below.refl _ _) n⟩
theorem heldN_says (v : Value) (k : Int) (n : Nat) (w : World) (hv : SL w v (marks k n)) (hn : n ≤ 1048576) (hk0 : 0 ≤ k) (hk1 : k ≤ 4194304) :
    Calls Tryd.prog 26 #[v, .int .i64 k] w fun e w' => e = .returned (.int .i64 (k + (n : Nat))) ∧ Below w.heap.size w w' :=
  (heldF32_any v k n w hv hn hk0 hk1).mono fun _ _ ⟨h1, h2⟩ => ⟨h1, by rw [← h2]; exact Below.refl _ _⟩
set_option maxRecDepth 100000 in
set_option maxHeartbeats 4000000 in
theorem fnExactReadNumbers_walk (s : ByteArray) (w : World) :
    Calls Tryd.prog 6 #[.string s] w (Says true w) := by
  by_cases hl : s.size ≤ 1048576
  · have SP := Lib.hid (fun W => specReadNumbers_any s W hl)
    have IM := Lib.hid (fun W => implReadNumbers_any s W hl)
    have hn := rnL_len s
    have d0 : decide ((s.size : Int) > 1048576) = false := by simp; omega
    generalize rnL s = Z at *
    generalize rnB s = t at *
    have EQ := Lib.hid (fun u1 u2 W h1 h2 => eqN_says u1 u2 Z W (by omega) h1 h2)
    have MK := Lib.hid (fun lo hi u W h => markF32_any lo hi u Z 1 W h (by omega) (by omega) (by omega))
    have HD := Lib.hid (fun u W h => heldN_says u 1 Z.length W h (by omega) (by omega) (by omega))
    obtain ⟨n, hN⟩ : ∃ n : Int, 1 + ((Z.length : Nat) : Int) = n := ⟨_, rfl⟩
    unfold Marked at MK
    rw [hN] at MK HD
    have d1 : decide (n < 0) = false := by simp; omega
    clear hN hn
    cases t
    all_goals
      go_enter Tryd.func6, Tryd.ntmps6
      go_wp2_with fail
      go_at_call 23; refine (SP.out _).mono ?_; rintro e w1 ⟨u1, rfl, i1, b1⟩
      obtain ⟨a1, c1, rfl⟩ := SI.len i1
      have I1 := Lib.hid i1
      have B1 := Lib.hid b1
      clear i1 b1
      go_wp2_with fail
      go_at_call 24; refine (IM.out _).mono ?_; rintro e w2 ⟨u2, rfl, i2, b2⟩
      obtain ⟨a2, c2, rfl⟩ := SI.len i2
      have I2 := Lib.hid i2
      have J1 := Lib.hid (SI.below I1.out b2 (Nat.le_refl _))
      have Z2 := Lib.hid b2.size
      have B2 := Lib.hid (B1.out.trans (b2.mono B1.out.size))
      clear i2 b2 I1
      go_wp2_with fail
      go_at_call 17; refine (EQ.out _ _ _ (FI.sl I2.out) (FI.sl J1.out)).mono ?_; rintro e w3 ⟨rfl, b3⟩
      have I3 := Lib.hid (SI.below I2.out b3 (Nat.le_refl _))
      have K1 := Lib.hid (SI.below J1.out b3 (Nat.le_refl _))
      have B3 := Lib.hid (B2.out.trans (b3.mono B2.out.size))
      have Z3 := Lib.hid (Nat.le_trans Z2.out b3.size)
      clear b3 I2 J1
      go_wp2_with fail
      go_at_call 25; refine (MK.out _ _ _ _ I3.out).mono ?_; rintro e w4 ⟨rfl, i4, t4⟩
      have I4 := Lib.hid i4
      have L1 := Lib.hid (SI.kept K1.out t4 (Or.inl (Nat.le_refl _)))
      have B4 := Lib.hid (B3.out.trans ((t4.below Z3.out).mono B1.out.size))
      clear i4 t4 I3 K1
      go_wp2_with fail
      go_at_call 26; refine (HD.out _ _ (FI.sl I4.out)).mono ?_; rintro e w5 ⟨rfl, b5⟩
      have I5 := Lib.hid (SI.below I4.out b5 (Nat.le_refl _))
      have L2 := Lib.hid (SI.below L1.out b5 (Nat.le_refl _))
      have B5 := Lib.hid (B4.out.trans (b5.mono B4.out.size))
      clear b5 I4 L1
      go_wp2_with fail
      go_at_call 24; refine (IM.out _).mono ?_; rintro e w6 ⟨u6, rfl, i6, b6⟩
      obtain ⟨a6, c6, rfl⟩ := SI.len i6
      have I6 := Lib.hid (SI.below I5.out b6 (Nat.le_refl _))
      have J6 := Lib.hid (FI.sl i6)
      have L6 := Lib.hid (SI.below L2.out b6 (Nat.le_refl _))
      have B6 := Lib.hid (B5.out.trans (b6.mono B5.out.size))
      clear i6 b6 I5 L2
      go_wp2_with fail
      go_at_call 17; refine (EQ.out _ _ _ J6.out (FI.sl L6.out)).mono ?_; rintro e w7 ⟨rfl, b7⟩
      have I7 := Lib.hid (SI.below I6.out b7 (Nat.le_refl _))
      have B7 := Lib.hid (B6.out.trans (b7.mono B6.out.size))
      clear b7 I6 J6 L6
      go_wp2_with fail
      go_at_call 26; refine (HD.out _ _ (FI.sl I7.out)).mono ?_; rintro e w8 ⟨rfl, b8⟩
      have B8 := Lib.hid (B7.out.trans (b8.mono B7.out.size))
      clear b8 I7
      go_wp2_with fail
      go_ret
      exact ⟨rfl, B8.out⟩
  · have d1 : decide ((s.size : Int) > 1048576) = true := by simp; omega
    go_enter Tryd.func6, Tryd.ntmps6
    go_wp2_with fail
    go_ret
    exact ⟨rfl, Below.refl _ _⟩
theorem Tryd.own : ownKnob Tryd.prog.godebug = none := by kernel_rfl
theorem Tryd.laidOut : laidOutB Tryd.prog = true := by kernel_rfl
theorem f32_lt {x : Nat} (h : (Lit.float .f32 x).wf = true) : x < 4294967296 := by simpa [Lit.wf] using h
theorem f64_lt {x : Nat} (h : (Lit.float .f64 x).wf = true) : x < 18446744073709551616 := by simpa [Lit.wf] using h
theorem i64_in {x : Int} (h : (Lit.int .i64 x).wf = true) : -9223372036854775808 ≤ x ∧ x ≤ 9223372036854775807 := by
  have h1 : IntKind.i64.min = -9223372036854775808 := by decide
  have h2 : IntKind.i64.max = 9223372036854775807 := by decide
  simp only [Lit.wf, Bool.and_eq_true, decide_eq_true_eq, h1, h2] at h
  exact h

set_option maxRecDepth 100000 in
theorem fnExactReadNumbers_lifted (os : Os) (started : os.Started) (H : Type) (enc : TypeId × Value → H) :
    ReturnsInHanded {} Tryd.checked os 6 .any (fun w args => (Rows.fnExactReadNumbersSpec.pre enc Tryd.prog Tryd.f6 [] false w args ∧ laidMetH Tryd.prog laidU w) ∧ sizedMet enc Tryd.prog Tryd.f6 (OpenSpec.ofChange Rows.fnExactReadNumbersSpec) false w args) (Rows.fnExactReadNumbersSpec.post enc Tryd.prog Tryd.f6 false true false false) := by
  refine Frame.law_lifted_shaped (X := fun w => laidMetH Tryd.prog laidU w) (tb := 4) (fun _ _ hh h => h.of_heap hh) Tryd.own started (by kernel_rfl) Tryd.func6
    (ChangeSpec.witness_shaped (enc := enc) (C := Tryd.checked) (os := os) (X := fun w _ => laidMetH Tryd.prog laidU w) false (World.laidAll Tryd.prog os laidU) #[.string ByteArray.empty] 8 (World.laidAll_os _ _ _) (World.shaped_of_ZipB (by kernel_rfl) (by kernel_rfl)) (by kernel_rfl) (by kernel_rfl) (by kernel_rfl) (laidU_met os _))
    Tryd.laidOut (by kernel_rfl) rfl (by kernel_rfl) Tryd.underlying4 (fun ds hd => ?_) ?_
  · rw [Tryd.params6] at hd
    match ds, hd with
    | [_], _ => exact ⟨rfl, rfl, rfl⟩
  intro W base args ds p hval0 hA0 hlt hsz0 _ _
  have hval : ∀ (j : Nat) t v, Tryd.f6.params[j]? = some t → args[j]? = some v → Value.okWide Tryd.prog W .any base t v := hval0
  have hA : DataW.TrodAll enc Tryd.prog W 0 (fun _ => true) true Tryd.f6.params.toList args.toList ds p := hA0
  have hsz : (DataW.weightsEach Tryd.prog Tryd.f6.params.toList ds).all (· ≤ reachBytes) = true := hsz0
  rw [Tryd.params6] at hA hval hsz
  clear hval0 hA0 hsz0
  obtain ⟨v0, d0, rfl, rfl, h0⟩ := trodAll_one hA
  obtain ⟨a0, rfl, rfl, rfl, b0⟩ := open_string Tryd.underlying9 (hval 0 9 v0 rfl rfl) h0
  exact fnExactReadNumbers_walk a0 W

theorem fnExactReadNumbers_row : Rows.FnExactReadNumbersSaid :=
  OpenClaim.holds_of_wide 6 Tryd.f6 rfl rfl rfl rfl rfl rfl rfl ⟨rfl, rfl, rfl, rfl, rfl⟩ rfl rfl rfl rfl rfl (by kernel_rfl) Tryd.func6 (by kernel_rfl)
    (of_decide_eq_true (by kernel_rfl)) (by unfold Func.isWrapper; first | (rw [if_pos (by decide +kernel)]; kernel_rfl) | (rw [if_neg (by decide +kernel)]; exact ⟨rfl, rfl⟩))
    (fun os started H enc _ => fnExactReadNumbers_lifted os started H enc)

theorem fnExactReadNumbers_holds : Rows.FnExactReadNumbersCardSaid :=
  Claim7.holds_tied_plain_at .later [] [.data, .pinned] true (true, "01f751b03d7642e61d3fb86521ec869908c8625bfd53d49dd3003436e10a58bb") true
    fnExactReadNumbers_row (fun _ h => by cases h) (by kernel_rfl) (fun _ h => by cases h) fnExactReadNumbers_row_tie rfl ⟨rfl, rfl⟩ (by kernel_rfl) rfl
    (fun f fn hf hfn => by
      obtain rfl : f = 6 := Option.some.inj ((show Tryd.prog.funcNamed "loop.example/g01346/laws.FnExactReadNumbers" = some 6 by kernel_rfl).symm.trans hf) |>.symm
      obtain rfl : fn = Tryd.f6 := (Option.some.inj (Tryd.func6.symm.trans hfn)).symm
      exact ⟨by kernel_rfl, fun j t ht => by
        rw [Tryd.params6] at ht
        have hm : t ∈ [9] := by simpa using Array.mem_of_getElem? ht
        have hall : ([9].all fun u => !Tryd.prog.wantsStandIn u) = true := by kernel_rfl
        exact (show Tryd.prog.wantsStandIn t = false by simpa using List.all_eq_true.1 hall t hm)⟩)
    (by kernel_rfl)
end Go.Proofs.YtcgdkjbbdpmmhaaDoor
