/- ReadRows answers as its model, for all texts; its answer owns its memory. -/
import Derived.Test.YtcnllohpkgmkpaaDoorReadRowsD
import Derived.Test.YtcnllohpkgmkpaaDoorReadRowsE
import Derived.Test.YtcnllohpkgmkpaaDoorReadRowsB
import Derived.SevenTiedAt
namespace Go.Proofs.YtcnllohpkgmkpaaDoor
open Go.ChangeShapes Go.WideShapes Go.ChangeAt Go.RowKit Go.ChangeMaps

theorem RD.wide {lo lo' hi : Nat} {w : World} {v : Value} {R : Rw} (h : RD lo hi w v R) (h1 : lo' ≤ lo) : RD lo' hi w v R := by
  obtain ⟨s1, s2, s3, a, b, l1, l2, l3, e, g1, g2, g3⟩ := h
  have hh : hi ≤ w.heap.size := g3.1
  exact ⟨s1, s2, s3, a, b, by omega, l2, l3, e, SI.wide g1 h1 (Nat.le_refl _) (by omega), g2, g3⟩
theorem RD.split {lo hi : Nat} {w : World} {v : Value} {R : Rw} (h : RD lo hi w v R) : ∃ x1 k1 x2 k2 x3 k3, v = .agg #[.int .i64 R.vars, .slice x1 R.N.length k1, .slice x2 R.B.length k2, .slice x3 R.G.length k3] := by
  obtain ⟨s1, s2, s3, a, b, _, _, _, e, h1, h2, h3⟩ := h
  obtain ⟨x1, k1, rfl⟩ := SI.len h1
  obtain ⟨x2, k2, rfl⟩ := SI.len h2
  obtain ⟨x3, k3, rfl⟩ := SI.len h3
  exact ⟨x1, k1, x2, k2, x3, k3, e⟩
theorem RrTab.below' {w w' : World} (h : RrTab w) (hb : Below w.heap.size w w') : RrTab w' := ⟨h.1.below' hb, h.2.below' hb⟩
set_option maxRecDepth 100000 in
set_option maxHeartbeats 8000000 in
theorem fnExactReadRows_walk (s : ByteArray) (w : World) (hT : RrTab w) :
    Calls Tryd.prog 9 #[.string s] w (Says true w) := by
  have HT := Lib.hid hT
  clear hT
  by_cases hl : s.size ≤ 1048576
  · have SP := Lib.hid (fun W => specReadRows_any s W hl)
    have IM := Lib.hid (fun W hp => implReadRows_any s W hl hp)
    have hn := rrA_size s
    have d0 : decide ((s.size : Int) > 1048576) = false := by simp; omega
    generalize rrA s = A at *
    generalize rrB s = t at *
    have EQ := Lib.hid (fun u1 u2 W h1 h2 => eqRows_any u1 u2 A W (by omega) h1 h2)
    have MK := Lib.hid (fun lo hi u W h => markRows_any lo hi u A 1 W h (by omega) (by omega) (by omega))
    have HD := Lib.hid (fun u W h => heldRows_any u A 1 W h (by omega) (by omega) (by omega))
    obtain ⟨n, hN⟩ : ∃ n : Int, 1 + ((A.size : Nat) : Int) = n := ⟨_, rfl⟩
    unfold MarkedR at MK
    rw [hN] at MK HD
    have d1 : decide (n < 0) = false := by simp; omega
    have HS1 : Hid (∀ (W : World) o, (W.alloc o).heap.size = W.heap.size + 1) := Lib.hid fun W o => by simp
    clear hN hn
    cases t
    all_goals
      go_enter Tryd.func9, Tryd.ntmps9
      go_wp2_with fail
      go_at_call 38; refine (SP.out _).mono ?_; rintro e w1 ⟨v1, rfl, i, b⟩
      obtain ⟨p1, q1, p2, q2, p3, q3, rfl⟩ := i.split
      have A1 := Lib.hid i
      have H1 := Lib.hid b
      have X1 := Lib.hid (Box4.mk' w1 (.int .i64 A.vars) (.slice p1 A.N.length q1) (.slice p2 A.B.length q2) (.slice p3 A.G.length q3) 38)
      clear i b
      go_wp2_with fail
      go_at_call 39; refine (IM.out _ (HT.out.below' (H1.out.trans ((below_alloc w1 _).mono H1.out.size)))).mono ?_; rintro e w2 ⟨v2, rfl, i, b⟩
      obtain ⟨r1, t1, r2, t2, r3, t3, rfl⟩ := i.split
      have bz := (below_alloc w1 _).trans (b.mono (below_alloc w1 _).size)
      have X1b := Lib.hid (X1.out.keep b X1.out.lt)
      have A1b := Lib.hid (A1.out.below bz (Nat.le_refl _))
      have I2 := Lib.hid (RD.wide (lo' := w1.heap.size + 1) i (Nat.le_of_eq (HS1.out _ _).symm))
      have H2 := Lib.hid (H1.out.trans (bz.mono H1.out.size))
      have X2 := Lib.hid (Box4.mk' w2 (.int .i64 A.vars) (.slice r1 A.N.length t1) (.slice r2 A.B.length t2) (.slice r3 A.G.length t3) 38)
      clear i b bz X1 A1 H1
      obtain ⟨c10, c11, c12, c13⟩ := X1b.out
      have l1 := X1b.out.lt
      go_wp2_with fail
      clear c10 c11 c12 c13 l1
      go_at_call 23; refine (EQ.out _ _ _ (I2.out.below (below_alloc w2 _) (Nat.le_refl _)).rv (A1b.out.below (below_alloc w2 _) (Nat.le_refl _)).rv).mono ?_; rintro e w3 ⟨rfl, b⟩
      have bz := (below_alloc w2 _).trans (b.mono (below_alloc w2 _).size)
      have X1c := Lib.hid (X1b.out.keep bz X1b.out.lt)
      have X2c := Lib.hid (X2.out.keep b X2.out.lt)
      have A1c := Lib.hid (A1b.out.below bz (Nat.le_refl _))
      have I2c := Lib.hid (I2.out.below bz (Nat.le_refl _))
      have H3 := Lib.hid (H2.out.trans (bz.mono H2.out.size))
      have L12 : Hid (w1.heap.size < w2.heap.size) := Lib.hid X1b.out.lt
      have L23 : Hid (w2.heap.size < w3.heap.size) := Lib.hid X2c.out.lt
      clear b bz X1b X2 A1b I2 H2
      obtain ⟨c20, c21, c22, c23⟩ := X2c.out
      have l2 := X2c.out.lt
      go_wp2_with fail
      clear c20 c21 c22 c23 l2
      go_at_call 40; refine (MK.out _ _ _ _ I2c.out).mono ?_; rintro e w4 ⟨rfl, i, tt⟩
      have X1d := Lib.hid (X1c.out.kept tt (Or.inl (Nat.lt_succ_self _)))
      have X2d := Lib.hid (X2c.out.kept tt (Or.inr (Nat.le_refl _)))
      have A1d := Lib.hid (A1c.out.kept tt (Or.inl (Nat.le_succ _)))
      have I2d := Lib.hid i
      have HW : w.heap.size ≤ w1.heap.size + 1 := by
        obtain ⟨_, _, _, a, b, h1, h2, h3, -⟩ := A1c.out
        omega
      have H4 := Lib.hid (H3.out.trans ((tt.below (by have := L12.out; have := L23.out; omega)).mono HW))
      have L24 : Hid (w2.heap.size < w4.heap.size) := Lib.hid (Nat.lt_of_lt_of_le L23.out tt.size)
      clear i tt X1c X2c A1c I2c H3 L23 HW
      obtain ⟨c20, c21, c22, c23⟩ := X2d.out
      have l2 := X2d.out.lt
      go_wp2_with fail
      clear c20 c21 c22 c23 l2
      go_at_call 41; refine (HD.out _ _ I2d.out.rv).mono ?_; rintro e w5 ⟨rfl, b⟩
      have X1e := Lib.hid (X1d.out.keep b X1d.out.lt)
      have X2e := Lib.hid (X2d.out.keep b X2d.out.lt)
      have A1e := Lib.hid (A1d.out.below b (Nat.le_refl _))
      have I2e := Lib.hid (I2d.out.below b (Nat.le_refl _))
      have H5 := Lib.hid (H4.out.trans (b.mono H4.out.size))
      clear b X1d X2d A1d I2d H4 L12 L24
      go_wp2_with fail
      go_at_call 39; refine (IM.out _ (HT.out.below' H5.out)).mono ?_; rintro e w6 ⟨v6, rfl, i, b⟩
      obtain ⟨k1, j1, k2, j2, k3, j3, rfl⟩ := i.split
      have X1f := Lib.hid (X1e.out.keep b X1e.out.lt)
      have X2f := Lib.hid (X2e.out.keep b X2e.out.lt)
      have A1f := Lib.hid (A1e.out.below b (Nat.le_refl _))
      have I2f := Lib.hid (I2e.out.below b (Nat.le_refl _))
      have I6 := Lib.hid i
      have H6 := Lib.hid (H5.out.trans (b.mono H5.out.size))
      have X3 := Lib.hid (Box4.mk' w6 (.int .i64 A.vars) (.slice k1 A.N.length j1) (.slice k2 A.B.length j2) (.slice k3 A.G.length j3) 38)
      clear i b X1e X2e A1e I2e H5
      obtain ⟨c10, c11, c12, c13⟩ := X1f.out
      have l1 := X1f.out.lt
      go_wp2_with fail
      clear c10 c11 c12 c13 l1
      go_at_call 23; refine (EQ.out _ _ _ (I6.out.below (below_alloc w6 _) (Nat.le_refl _)).rv (A1f.out.below (below_alloc w6 _) (Nat.le_refl _)).rv).mono ?_; rintro e w7 ⟨rfl, b⟩
      have bz := (below_alloc w6 _).trans (b.mono (below_alloc w6 _).size)
      have X2g := Lib.hid (X2f.out.keep bz X2f.out.lt)
      have I2g := Lib.hid (I2f.out.below bz (Nat.le_refl _))
      have H7 := Lib.hid (H6.out.trans (bz.mono H6.out.size))
      clear b bz X1f X2f A1f I2f I6 X3 H6
      obtain ⟨c20, c21, c22, c23⟩ := X2g.out
      have l2 := X2g.out.lt
      go_wp2_with fail
      clear c20 c21 c22 c23 l2
      go_at_call 41; refine (HD.out _ _ I2g.out.rv).mono ?_; rintro e w8 ⟨rfl, b⟩
      have H8 := Lib.hid (H7.out.trans (b.mono H7.out.size))
      clear b X2g I2g H7
      go_wp2_with fail
      go_ret
      exact ⟨rfl, H8.out⟩
  · have d1 : decide ((s.size : Int) > 1048576) = true := by simp; omega
    go_enter Tryd.func9, Tryd.ntmps9
    go_wp2_with fail
    go_ret
    exact ⟨rfl, Below.refl _ _⟩
theorem Tryd.own : ownKnob Tryd.prog.godebug = none := by kernel_rfl
theorem Tryd.laidOut : laidOutB Tryd.prog = true := by kernel_rfl
theorem f32_lt {x : Nat} (h : (Lit.float .f32 x).wf = true) : x < 4294967296 := by simpa [Lit.wf] using h
theorem f64_lt {x : Nat} (h : (Lit.float .f64 x).wf = true) : x < 18446744073709551616 := by simpa [Lit.wf] using h
theorem i64_in {x : Int} (h : (Lit.int .i64 x).wf = true) : -9223372036854775808 ≤ x ∧ x ≤ 9223372036854775807 := by
  have h1 : IntKind.i64.min = -9223372036854775808 := by decide
  have h2 : IntKind.i64.max = 9223372036854775807 := by decide
  simp only [Lit.wf, Bool.and_eq_true, decide_eq_true_eq, h1, h2] at h
  exact h

set_option maxRecDepth 100000 in
theorem fnExactReadRows_lifted (os : Os) (started : os.Started) (H : Type) (enc : TypeId × Value → H) :
    ReturnsInHanded {} Tryd.checked os 9 .any (fun w args => (Rows.fnExactReadRowsSpec.pre enc Tryd.prog Tryd.f9 [] false w args ∧ laidMetH Tryd.prog laidT w) ∧ sizedMet enc Tryd.prog Tryd.f9 (OpenSpec.ofChange Rows.fnExactReadRowsSpec) false w args) (Rows.fnExactReadRowsSpec.post enc Tryd.prog Tryd.f9 false true false false) := by
  refine Frame.law_lifted_shaped (X := fun w => laidMetH Tryd.prog laidT w) (tb := 4) (fun _ _ hh h => h.of_heap hh) Tryd.own started (by kernel_rfl) Tryd.func9
    (ChangeSpec.witness_shaped (enc := enc) (C := Tryd.checked) (os := os) (X := fun w _ => laidMetH Tryd.prog laidT w) false (World.laidAll Tryd.prog os laidT) #[.string ByteArray.empty] 8 (World.laidAll_os _ _ _) (World.shaped_of_ZipB (by kernel_rfl) (by kernel_rfl)) (by kernel_rfl) (by kernel_rfl) (by kernel_rfl) (laidT_met os _))
    Tryd.laidOut (by kernel_rfl) rfl (by kernel_rfl) Tryd.underlying4 (fun ds hd => ?_) ?_
  · rw [Tryd.params9] at hd
    match ds, hd with
    | [_], _ => exact ⟨rfl, rfl, rfl⟩
  intro W base args ds p hval0 hA0 hlt hsz0 hX0 hSh0
  have hT := And.intro (tab_of_laidT hX0) (maxV_of hSh0)
  have hval : ∀ (j : Nat) t v, Tryd.f9.params[j]? = some t → args[j]? = some v → Value.okWide Tryd.prog W .any base t v := hval0
  have hA : DataW.TrodAll enc Tryd.prog W 0 (fun _ => true) true Tryd.f9.params.toList args.toList ds p := hA0
  have hsz : (DataW.weightsEach Tryd.prog Tryd.f9.params.toList ds).all (· ≤ reachBytes) = true := hsz0
  rw [Tryd.params9] at hA hval hsz
  clear hval0 hA0 hsz0 hX0
  obtain ⟨v0, d0, rfl, rfl, h0⟩ := trodAll_one hA
  obtain ⟨a0, rfl, rfl, rfl, b0⟩ := open_string Tryd.underlying9 (hval 0 9 v0 rfl rfl) h0
  exact fnExactReadRows_walk a0 W hT

theorem fnExactReadRows_row : Rows.FnExactReadRowsSaid :=
  OpenClaim.holds_of_wide 9 Tryd.f9 rfl rfl rfl rfl rfl rfl rfl ⟨rfl, rfl, rfl, rfl, rfl⟩ rfl rfl rfl rfl rfl (by kernel_rfl) Tryd.func9 (by kernel_rfl)
    (of_decide_eq_true (by kernel_rfl)) (by unfold Func.isWrapper; first | (rw [if_pos (by decide +kernel)]; kernel_rfl) | (rw [if_neg (by decide +kernel)]; exact ⟨rfl, rfl⟩))
    (fun os started H enc _ => fnExactReadRows_lifted os started H enc)

theorem fnExactReadRows_holds : Rows.FnExactReadRowsCardSaid :=
  Claim7.holds_tied_plain_at .later [] [.data, .data, .data, .data, .sentinel, .sentinel, .pinned] true (true, "fe47a45ced4b3eaa3e6b2a2b9fd863f88e59776b8700ce74f00c102e55c0ff36") true
    fnExactReadRows_row (fun _ h => by cases h) (by kernel_rfl) (fun _ h => by cases h) fnExactReadRows_row_tie rfl ⟨rfl, rfl⟩ (by kernel_rfl) rfl
    (fun f fn hf hfn => by
      obtain rfl : f = 9 := Option.some.inj ((show Tryd.prog.funcNamed "loop.example/g01346/laws.FnExactReadRows" = some 9 by kernel_rfl).symm.trans hf) |>.symm
      obtain rfl : fn = Tryd.f9 := (Option.some.inj (Tryd.func9.symm.trans hfn)).symm
      exact ⟨by kernel_rfl, fun j t ht => by
        rw [Tryd.params9] at ht
        have hm : t ∈ [9] := by simpa using Array.mem_of_getElem? ht
        have hall : ([9].all fun u => !Tryd.prog.wantsStandIn u) = true := by kernel_rfl
        exact (show Tryd.prog.wantsStandIn t = false by simpa using List.all_eq_true.1 hall t hm)⟩)
    (by kernel_rfl)
end Go.Proofs.YtcnllohpkgmkpaaDoor
