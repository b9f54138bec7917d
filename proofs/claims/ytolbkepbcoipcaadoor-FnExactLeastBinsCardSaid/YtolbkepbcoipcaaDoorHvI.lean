/- The best halves: the program's side. -/
import Derived.Test.YtolbkepbcoipcaaDoorHvT
import Derived.Test.YtolbkepbcoipcaaDoorRowA
import Derived.StillTailTactics
namespace Go.Proofs.YtolbkepbcoipcaaDoor
open Go.RowKit Go.ChangeShapes Go.WideShapes

theorem addTwo_is (a b : Int) (w : World) (h1 : 0 ≤ a) (h2 : a ≤ 100000) (h3 : 0 ≤ b) (h4 : b ≤ 100000) :
    Calls Tryd.prog 21 #[.int .i64 a, .int .i64 b] w (fun e w' => e = .returned (.int .i64 (a + b)) ∧ w' = w) := by
  go_enter Tryd.func21, Tryd.ntmps21
  go_wp2
  go_ret
  exact ⟨rfl, rfl⟩
theorem i64_andH (a b : Nat) (ha : a < 65536) (hb : b < 65536) : bits .and .i64 (a : Int) (b : Int) = ((a &&& b : Nat) : Int) := by
  have hx : a &&& b < 65536 := Nat.lt_of_le_of_lt Nat.and_le_left ha
  show IntKind.i64.wrap ((BitVec.ofInt 64 (a : Int) &&& BitVec.ofInt 64 (b : Int)).toNat : Int) = _
  rw [BitVec.toNat_and, ofInt_u64 a (by omega), ofInt_u64 b (by omega)]
  exact IntWalk.i64_in _ (by omega)
set_option maxRecDepth 100000 in
set_option maxHeartbeats 4000000 in
theorem members_any (x n : Nat) (w : World) (hx : x < 2 ^ n) (hn : n ≤ 16) (ht : TzTab w) :
    Calls Tryd.prog 25 #[.int .i64 x] w (MadeI (memP n x) w) := by
  obtain ⟨i0, hi, hz0, hz1, hz2⟩ := info_parts Tryd.infoI
  have HT := Lib.hid ht
  have HX := Lib.hid hx
  have hp := (pow16 hn).2
  have hx2 : x < 65536 := by omega
  clear ht hx hp
  go_enter Tryd.func25, Tryd.ntmps25
  go_wp2_with fail
  go_loopg [0, 3] x (fun gk s v wr => ∃ (y : Nat) (Zs : List Int), s = .int .i64 y ∧ y < 2 ^ n ∧ y ≤ gk ∧ Zs ++ memP n y = memP n x ∧ Below w.heap.size w wr ∧ Grows (Value.int .i64) 2 w.heap.size v Zs wr)
  case atStart => exact ⟨x, [], rfl, HX.out, Nat.le_refl _, rfl, Below.refl _ _, Grows.nil _ _ _ _⟩
  case round =>
    obtain ⟨y, Zs, rfl, hy, hyg, hZ, hB, hG⟩ := hrel
    have HY := Lib.hid hy
    have HZ := Lib.hid hZ
    have HB := Lib.hid hB
    have HG := Lib.hid hG
    have y64 : y < 65536 := by have := (pow16 hn).2; omega
    clear hy hZ hB hG
    by_cases h0 : y = 0
    · subst h0
      have HE : Hid (Zs = memP n x) := Lib.hid (by rw [← HZ.out, memP_zero, List.append_nil])
      go_wp2_with fail
      refine bodyPost_ret (results_tmp rfl _ _ _) rfl ?_
      rw [← HE.out]
      exact ⟨_, rfl, HG.out.si, HB.out⟩
    · have hne : ((y : Int) != 0) = true := by simp <;> omega
      obtain ⟨q, hq, htn⟩ := low_facts hn h0 HY.out
      have HLOW := Lib.hid (memP_low hq n htn)
      have e1 := i64_andH y (y - 1) y64 (by omega)
      have hlt : y &&& (y - 1) < y := by have := Nat.and_le_right (n := y) (m := y - 1); omega
      have hzl : Zs.length ≤ 16 := by have h1 := memP_len n x; rw [← HZ.out] at h1; simp at h1; omega
      have H0 := Lib.hid h0
      have TZ : Hid (∀ W, Below w.heap.size w W → Calls Tryd.prog 35 #[.int .u64 y] W (fun e w' => e = .returned (.int .i64 (Lib.ctz 64 y)) ∧ W = w')) := Lib.hid fun W hb => tz_any y W H0.out y64 (HT.out.below hb)
      rw [show ((y - 1 : Nat) : Int) = (y : Int) - 1 by omega] at e1
      generalize hs : y &&& (y - 1) = s at e1 hlt HLOW
      generalize Lib.ctz 64 y = t at TZ HLOW htn
      have wy : IntKind.u64.wrap (y : Int) = (y : Int) := by rw [IntKind.wrap_u64]; omega
      clear h0 hq hs
      go_wp2_with fail
      go_at_call 35; refine (TZ.out _ HB.out).mono ?_; rintro e w' ⟨rfl, rfl⟩
      go_wp2_with (at_builtin; refine wpList_append_own _ rfl _ _ 22 rfl w.heap.size 2 i0 (.int .i64 0) 1 8 Tryd.underlying22 hi hz0 hz1 hz2 rfl (by decide) _ _ _ rfl (Grows.alloc HG.out _) ⟨wr.heap.size, 0, none⟩ 1 1 [.int .i64 (t : Int)] rfl rfl ?c1 ?c2 ?c3 ?c4 ?c5 ?_)
      case c1 => exact one_new
      case c2 => intro u hu; simp at hu; subst hu; rfl
      case c3 => unfold maxLen; omega
      case c4 => omega
      case c5 => have := HB.out.size; simp; omega
      intro v' w' hown hgrow _
      have HN : Hid (Below w.heap.size w w' ∧ Grows (Value.int .i64) 2 w.heap.size v' (Zs ++ [(t : Int)]) w' ∧ (Zs ++ [(t : Int)]) ++ memP n s = memP n x) := Lib.hid ⟨(HB.out.alloc HB.out.size _).grown hgrow (by have := HB.out.size; simp; omega) (fun g hg => HG.out.block g hg), Grows.more (news := [(t : Int)]) rfl hown, by rw [← HZ.out, HLOW.out, List.append_assoc]; rfl⟩
      clear hown hgrow
      go_wp2_with fail
      go_roundg (gk - 1)
      case measure => omega
      case rel => exact ⟨s, _, rfl, by have := HY.out; omega, by omega, HN.out.2.2, HN.out.1, HN.out.2.1⟩
set_option maxRecDepth 100000 in
set_option maxHeartbeats 8000000 in
theorem joinAdd_any (v : Value) (S : List Int) (w : World) (hv : IL w v S) (OK : SizesOk S) (ht : TzTab w) :
    Calls Tryd.prog 20 #[v, .func (.func 21) #[] #[]] w (MadeI (sumsL S) w) := by
  obtain ⟨i0, hi, hz0, hz1, hz2⟩ := info_parts Tryd.infoI
  have OKH := Lib.hid OK
  have HT := Lib.hid ht
  have l1 := OK.l1
  have l2 := OK.l2
  obtain ⟨q1, q2⟩ := pow16 l2
  rcases hv with ⟨rfl, ao, cap, rfl⟩ | ⟨b, off, cap, rfl, hpos, hbl, hcell⟩
  · simp at l1
  have HC := Lib.hid hcell
  obtain ⟨N, hN⟩ : ∃ N, N = 2 ^ S.length := ⟨_, rfl⟩
  have HN := Lib.hid hN
  have hp : (2 : Int) ^ S.length = (N : Int) := by rw [hN]; simp
  rw [← hN] at q1 q2
  have H0 := Lib.hid (show List.replicate N (0 : Int) = mix (fun _ => 0) (sumM S S.length) N 1 from (rep_allF fun _ _ => rfl).trans (mix_done fun x hx => by
    obtain rfl : x = 0 := by omega
    exact (sumM_zero S _).symm).symm)
  clear hcell OK hN ht
  go_enter Tryd.func20, Tryd.ntmps20
  go_wp2_with (at_make; refine wpList_make_full _ rfl _ _ 22 rfl w.heap.size 2 i0 (.int .i64 0) 1 Tryd.underlying22 hi hz0 hz1 _ _ _ _ N rfl rfl rfl rfl (by rw [hz2]; omega) (by unfold maxLen; omega) (Nat.le_refl _) ?_; intro w2 hown hgrow; have bm := (Below.refl w.heap.size w).grown hgrow (Nat.le_refl _) (fun g hg => by cases hg); have hA := Lib.hid (show RowAt w w.heap.size (List.replicate N 0) w2 from ⟨bm, (hown.lt _ rfl).2, Nat.le_refl _, Arr.made_i hown⟩); clear hown hgrow bm)
  go_loopg [6] N (fun gk s wr => ∃ k : Nat, 1 ≤ k ∧ k ≤ N ∧ gk + k = N + 1 ∧ s = .int .i64 k ∧ RowAt w w.heap.size (mix (fun _ => 0) (sumM S S.length) N k) wr)
  case atStart => exact ⟨1, Nat.le_refl _, q1, by omega, rfl, hA.out.to H0.out⟩
  case round =>
    clear hA
    obtain ⟨k, hk1, hk, hgk, rfl, hat⟩ := hrel
    have HA := Lib.hid hat
    clear hat
    by_cases hlt : k < N
    · have k0 : k ≠ 0 := by omega
      have k64 : k < 65536 := by omega
      obtain ⟨q, hq, htn⟩ := low_facts l2 k0 (by rw [← HN.out]; exact hlt)
      have HLOW : Hid (sumM S S.length k = sumM S S.length (k &&& (k - 1)) + S.getD (Lib.ctz 64 k) 0) := Lib.hid (sumM_low hq S.length htn)
      have e1 := i64_andH k (k - 1) k64 (by omega)
      rw [show ((k - 1 : Nat) : Int) = (k : Int) - 1 by omega] at e1
      have hplt : k &&& (k - 1) < k := by have := Nat.and_le_right (n := k) (m := k - 1); omega
      have TZ : Hid (∀ W, Below w.heap.size w W → Calls Tryd.prog 35 #[.int .u64 k] W (fun e w' => e = .returned (.int .i64 (Lib.ctz 64 k)) ∧ w' = W)) := Lib.hid fun W hb => (tz_any k W k0 k64 (HT.out.below hb)).mono fun _ _ ⟨h1, h2⟩ => ⟨h1, h2.symm⟩
      have x1 : wr.cell? ⟨b, off + Lib.ctz 64 k, none⟩ = some (.int .i64 (S.getD (Lib.ctz 64 k) 0)) := by rw [HA.out.below.cell (p := ⟨b, off + Lib.ctz 64 k, none⟩) hbl]; exact HC.out _ htn
      have hy := OKH.out.a _ htn
      have hs := sumM_in OKH.out.a (k &&& (k - 1)) S.length (Nat.le_refl _)
      have y1 := HA.out.cell (i := k &&& (k - 1)) (by rw [mix_len]; omega)
      rw [mix_old (by omega) (by omega)] at y1
      have hf := HA.out.arr.free k
      have y2 := HA.out.cell (i := k) (by rw [mix_len]; omega)
      rw [mix_new (by omega) (Nat.le_refl _)] at y2
      have HST : Hid ((mix (fun _ => 0) (sumM S S.length) N k).set k (sumM S S.length (k &&& (k - 1)) + S.getD (Lib.ctz 64 k) 0) = mix (fun _ => 0) (sumM S S.length) N (k + 1)) := Lib.hid (by rw [← mix_up, ← HLOW.out])
      have HLEN : Hid (k < (mix (fun _ => 0) (sumM S S.length) N k).length) := Lib.hid (by rw [mix_len]; exact hlt)
      generalize sumM S S.length (k &&& (k - 1)) = s at y1 hs HST
      generalize k &&& (k - 1) = p at e1 hplt y1
      generalize S.getD (Lib.ctz 64 k) 0 = y at x1 hy HST
      generalize Lib.ctz 64 k = t at TZ htn x1
      obtain ⟨s1, s2⟩ := hs
      obtain ⟨r1, r2⟩ := hy
      have wk : IntKind.i64.wrap ((k : Int) - 1) = (k : Int) - 1 := IntWalk.i64_in _ (by omega)
      have wy : IntKind.u64.wrap (k : Int) = (k : Int) := by rw [IntKind.wrap_u64]; omega
      have lp : (p : Int) < (N : Int) := by omega
      have lt : (t : Int) < (S.length : Int) := by omega
      have lk : (k : Int) < (N : Int) := by omega
      have HBD := Lib.hid (show Below w.heap.size w wr.drew from below_drewN HA.out.below 1)
      clear hq HLOW k0
      go_wp2_with fail
      refine wp_region_still_tail 18 (by kernel_rfl) (by kernel_rfl) ?_
      simp only [List.take_succ_cons, List.take_zero, List.drop_succ_cons, List.drop_zero]
      repeat still_step
      still_call (TZ.out _ HBD.out)
      repeat still_step
      still_call (addTwo_is s y _ s1 (by omega) (by omega) (by omega))
      repeat still_step
      refine wpStill_nil ?_
      change wpList _ _ _ _ _ wr.drew
      go_wp2_with fail
      go_roundg (gk - 1)
      case measure => omega
      case rel => exact ⟨k + 1, by omega, by omega, by omega, by go_num, ((HA.out.drew 1).set HLEN.out _).to HST.out⟩
    · obtain rfl : k = N := by omega
      have HE : Hid (mix (fun _ => 0) (sumM S S.length) k k = sumsL S) := Lib.hid (by rw [mix_end (Nat.le_refl _)]; unfold sumsL; rw [← HN.out])
      go_wp2_with fail
      refine bodyPost_ret (results_tmp rfl _ _ _) rfl ?_
      refine ⟨_, rfl, ?_, HA.out.below⟩
      have h := (HA.out.to HE.out).arr.si HA.out.ge HA.out.lt
      have hl : (sumsL S).length = k := by unfold sumsL; rw [allF_len, ← HN.out]
      rw [hl] at h
      exact h
end Go.Proofs.YtolbkepbcoipcaaDoor
