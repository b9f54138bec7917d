/- The least cover: the program's side. -/
import Derived.Test.YtolbkepbcoipcaaDoorLcS
import Derived.Test.YtolbkepbcoipcaaDoorCnt
import Derived.Test.YtolbkepbcoipcaaDoorHvI
import Derived.StillTailTactics
namespace Go.Proofs.YtolbkepbcoipcaaDoor
open Go.RowKit Go.ChangeShapes Go.WideShapes

theorem holdBoth_is (a b : Nat) (w : World) (h1 : a < 65536) (h2 : b < 65536) :
    Calls Tryd.prog 29 #[.int .i64 a, .int .i64 b] w (fun e w' => e = .returned (.int .i64 (a ||| b : Nat)) ∧ w' = w) := by
  have e1 := i64_or a b h1 h2
  go_enter Tryd.func29, Tryd.ntmps29
  go_wp2
  go_ret
  exact ⟨rfl, rfl⟩
set_option maxRecDepth 100000 in
set_option maxHeartbeats 8000000 in
theorem joinOr_any {n : Nat} (v : Value) (S : List Int) (w : World) (hv : IL w v S) (OK : SetsOk n S) (ht : TzTab w) :
    Calls Tryd.prog 20 #[v, .func (.func 29) #[] #[]] w (MadeI (orsL S) w) := by
  obtain ⟨i0, hi, hz0, hz1, hz2⟩ := info_parts Tryd.infoI
  have OKH := Lib.hid OK
  have HT := Lib.hid ht
  have l1 := OK.l1
  have l2 := OK.l2
  obtain ⟨q1, q2⟩ := pow16 l2
  rcases hv with ⟨rfl, ao, cap, rfl⟩ | ⟨b, off, cap, rfl, hpos, hbl, hcell⟩
  · simp at l1
  have HC := Lib.hid hcell
  obtain ⟨N, hN⟩ : ∃ N, N = 2 ^ S.length := ⟨_, rfl⟩
  have HN := Lib.hid hN
  have hp : (2 : Int) ^ S.length = (N : Int) := by rw [hN]; simp
  rw [← hN] at q1 q2
  have H0 := Lib.hid (show List.replicate N (0 : Int) = mix (fun _ => 0) (fun m => (orM S S.length m : Int)) N 1 from (rep_allF fun _ _ => rfl).trans (mix_done fun x hx => by
    obtain rfl : x = 0 := by omega
    show (0 : Int) = ((orM S S.length 0 : Nat) : Int); rw [orM_zero]; rfl).symm)
  clear hcell OK hN ht
  go_enter Tryd.func20, Tryd.ntmps20
  go_wp2_with (at_make; refine wpList_make_full _ rfl _ _ 22 rfl w.heap.size 2 i0 (.int .i64 0) 1 Tryd.underlying22 hi hz0 hz1 _ _ _ _ N rfl rfl rfl rfl (by rw [hz2]; omega) (by unfold maxLen; omega) (Nat.le_refl _) ?_; intro w2 hown hgrow; have bm := (Below.refl w.heap.size w).grown hgrow (Nat.le_refl _) (fun g hg => by cases hg); have hA := Lib.hid (show RowAt w w.heap.size (List.replicate N 0) w2 from ⟨bm, (hown.lt _ rfl).2, Nat.le_refl _, Arr.made_i hown⟩); clear hown hgrow bm)
  go_loopg [6] N (fun gk s wr => ∃ k : Nat, 1 ≤ k ∧ k ≤ N ∧ gk + k = N + 1 ∧ s = .int .i64 k ∧ RowAt w w.heap.size (mix (fun _ => 0) (fun m => (orM S S.length m : Int)) N k) wr)
  case atStart => exact ⟨1, Nat.le_refl _, q1, by omega, rfl, hA.out.to H0.out⟩
  case round =>
    clear hA
    obtain ⟨k, hk1, hk, hgk, rfl, hat⟩ := hrel
    have HA := Lib.hid hat
    clear hat
    by_cases hlt : k < N
    · have k0 : k ≠ 0 := by omega
      have k64 : k < 65536 := by omega
      obtain ⟨q, hq, htn⟩ := low_facts l2 k0 (by rw [← HN.out]; exact hlt)
      have HLOW : Hid (orM S S.length k = orM S S.length (k &&& (k - 1)) ||| setN S (Lib.ctz 64 k)) := Lib.hid (orM_low hq S.length htn)
      have e1 := i64_and k (k - 1) k64 (by omega)
      rw [show ((k - 1 : Nat) : Int) = (k : Int) - 1 by omega] at e1
      have hplt : k &&& (k - 1) < k := by have := Nat.and_le_right (n := k) (m := k - 1); omega
      have TZ : Hid (∀ W, Below w.heap.size w W → Calls Tryd.prog 35 #[.int .u64 k] W (fun e w' => e = .returned (.int .i64 (Lib.ctz 64 k)) ∧ w' = W)) := Lib.hid fun W hb => (tz_any k W k0 k64 (HT.out.below hb)).mono fun _ _ ⟨h1, h2⟩ => ⟨h1, h2.symm⟩
      have x1 : wr.cell? ⟨b, off + Lib.ctz 64 k, none⟩ = some (.int .i64 (setN S (Lib.ctz 64 k) : Int)) := by rw [HA.out.below.cell (p := ⟨b, off + Lib.ctz 64 k, none⟩) hbl, ← (OKH.out.s _ htn).1]; exact HC.out _ htn
      have hy := set_lt OKH.out htn
      have hs := orM_lt OKH.out (k &&& (k - 1)) S.length (Nat.le_refl _)
      have y1 := HA.out.cell (i := k &&& (k - 1)) (by rw [mix_len]; omega)
      rw [mix_old (by omega) (by omega)] at y1
      have hf := HA.out.arr.free k
      have y2 := HA.out.cell (i := k) (by rw [mix_len]; omega)
      rw [mix_new (by omega) (Nat.le_refl _)] at y2
      have HST : Hid ((mix (fun _ => 0) (fun m => (orM S S.length m : Int)) N k).set k ((orM S S.length (k &&& (k - 1)) ||| setN S (Lib.ctz 64 k) : Nat) : Int) = mix (fun _ => 0) (fun m => (orM S S.length m : Int)) N (k + 1)) := Lib.hid (by rw [← mix_up, ← HLOW.out])
      have HLEN : Hid (k < (mix (fun _ => 0) (fun m => (orM S S.length m : Int)) N k).length) := Lib.hid (by rw [mix_len]; exact hlt)
      generalize orM S S.length (k &&& (k - 1)) = s at y1 hs HST
      generalize k &&& (k - 1) = p at e1 hplt y1
      generalize setN S (Lib.ctz 64 k) = y at x1 hy HST
      generalize Lib.ctz 64 k = t at TZ htn x1
      have wk : IntKind.i64.wrap ((k : Int) - 1) = (k : Int) - 1 := IntWalk.i64_in _ (by omega)
      have wy : IntKind.u64.wrap (k : Int) = (k : Int) := by rw [IntKind.wrap_u64]; omega
      have lp : (p : Int) < (N : Int) := by omega
      have lt : (t : Int) < (S.length : Int) := by omega
      have lk : (k : Int) < (N : Int) := by omega
      have HBD := Lib.hid (show Below w.heap.size w wr.drew from below_drewN HA.out.below 1)
      clear hq HLOW k0
      go_wp2_with fail
      refine wp_region_still_tail 18 (by kernel_rfl) (by kernel_rfl) ?_
      simp only [List.take_succ_cons, List.take_zero, List.drop_succ_cons, List.drop_zero]
      repeat still_step
      still_call (TZ.out _ HBD.out)
      repeat still_step
      still_call (holdBoth_is s y _ hs hy)
      repeat still_step
      refine wpStill_nil ?_
      change wpList _ _ _ _ _ wr.drew
      go_wp2_with fail
      go_roundg (gk - 1)
      case measure => omega
      case rel => exact ⟨k + 1, by omega, by omega, by omega, by go_num, ((HA.out.drew 1).set HLEN.out _).to HST.out⟩
    · obtain rfl : k = N := by omega
      have HE : Hid (mix (fun _ => 0) (fun m => (orM S S.length m : Int)) k k = orsL S) := Lib.hid (by rw [mix_end (Nat.le_refl _)]; unfold orsL; rw [← HN.out])
      go_wp2_with fail
      refine bodyPost_ret (results_tmp rfl _ _ _) rfl ?_
      refine ⟨_, rfl, ?_, HA.out.below⟩
      have h := (HA.out.to HE.out).arr.si HA.out.ge HA.out.lt
      have hl : (orsL S).length = k := by unfold orsL; rw [allF_len, ← HN.out]
      rw [hl] at h
      exact h
set_option maxRecDepth 100000 in
set_option maxHeartbeats 8000000 in
theorem implLc_yes (n : Nat) (v : Value) (L : List Int) (w : World) (hv : IL w v L) (hn : L.length ≤ 1048576) (h1 : setsB (n : Int) L = true) (OK : SetsOk n L) (ht : TzTab w) :
    Calls Tryd.prog 15 #[.int .i64 n, v] w (SaysJB (memP L.length (lcB n L (2 ^ L.length))) (decide (lcB n L (2 ^ L.length) ≠ 0)) w) := by
  have H1 := Lib.hid h1
  have HV := Lib.hid hv
  have OKH := Lib.hid OK
  have HT := Lib.hid ht
  have n1 := OK.n1
  have n2 := OK.n2
  have l1 := OK.l1
  have l2 := OK.l2
  obtain ⟨A, hA⟩ : ∃ A, A = allS n := ⟨_, rfl⟩
  have HA := Lib.hid hA
  have a1 : A < 65536 := by rw [hA]; exact allS_lt n2
  have hp2 : (2 : Int) ^ n - 1 = (A : Int) := by
    have h3 : 0 < 2 ^ n := Nat.pow_pos (by omega)
    have h2 : ((2 ^ n : Nat) : Int) = (2 : Int) ^ n := by simp
    rw [hA]; unfold allS; omega
  obtain ⟨N, hN⟩ : ∃ N, N = 2 ^ L.length := ⟨_, rfl⟩
  have HN := Lib.hid hN
  obtain ⟨q1, q2⟩ := pow16 l2
  rw [← hN] at q1 q2 ⊢
  have hlen : (orsL L).length = N := by unfold orsL; rw [allF_len, hN]
  obtain ⟨ao, cap, rfl⟩ := hv.long
  clear h1 hv OK hA hN ht
  go_enter Tryd.func15, Tryd.ntmps15
  go_wp2_with fail
  go_at_call 28; refine (implSets_is true n _ L _ HV.out hn H1.out).mono ?_; rintro e w' ⟨rfl, m, rfl⟩
  go_wp2_with fail
  go_at_call 20; refine (joinOr_any _ L _ (VL.drewN HV.out _) OKH.out (HT.out.below (below_drewN (Below.refl _ _) _))).mono ?_; rintro e w2 ⟨v2, rfl, i2, b2⟩
  have B2 := Lib.hid ((below_drewN (Below.refl w.heap.size w) m).trans b2)
  rcases i2.2 with ⟨hz, -⟩ | ⟨sb, so, sc, rfl, sp, -, -, -, scell⟩
  · rw [hz] at hlen; simp at hlen; omega
  have SC : Hid (∀ i, i < N → w2.cell? ⟨sb, so + i, none⟩ = some (.int .i64 (orM L L.length i : Nat))) := Lib.hid fun i hi => by
    have hc := scell i (by rw [hlen]; exact hi)
    unfold orsL at hc
    rw [allF_at (by rw [← HN.out]; exact hi)] at hc
    exact hc
  rw [hlen]
  clear scell hlen i2 b2 sp
  go_wp2_with fail
  go_loopg [6, 7, 18] N (fun gk s6 s7 s18 wr => ∃ k : Nat, k ≤ N ∧ gk + k = N ∧ s6 = .int .i64 (lcB n L k : Nat) ∧ s7 = .int .i64 (imM (lcB n L k)) ∧ s18 = .int .i64 k ∧ wr = w2)
  case atStart => exact ⟨0, Nat.zero_le _, by omega, rfl, rfl, rfl, rfl⟩
  case round =>
    obtain ⟨k, hk, hgk, rfl, rfl, rfl, rfl⟩ := hrel
    by_cases hlt : k < N
    · have x1 := SC.out k hlt
      have hs := orM_lt OKH.out k L.length (Nat.le_refl _)
      have Y1 := Lib.hid (lc_yes1 (n := n) (L := L) (j := k))
      have Y2 := Lib.hid (lc_yes2 (n := n) (L := L) (j := k))
      have N1 := Lib.hid (lc_no1 (n := n) (L := L) (j := k))
      have N2 := Lib.hid (lc_no2 (n := n) (L := L) (j := k))
      have HK := Lib.hid (all_some (j := k) OKH.out)
      have hbl2 := lc_le n L k
      rw [← HA.out] at Y1 Y2 N1 HK
      generalize orM L L.length k = s at hs Y1 Y2 N1 HK x1
      generalize hb : lcB n L k = b at Y1 Y2 N1 N2 hbl2
      clear hb
      have c1 := pop_le k
      have c2 := pop_le b
      have CN : Hid (∀ W, Calls Tryd.prog 30 #[.int .i64 k] W (fun e w' => e = .returned (.int .i64 (pop k)) ∧ W = w')) := Lib.hid fun W => countIn_any k W (by omega)
      have AL : Hid (∀ W, Calls Tryd.prog 31 #[.int .i64 n] W (fun e w' => e = .returned (.int .i64 A) ∧ W = w')) := Lib.hid fun W => (setOfAll_is n W (by omega) (by omega)).mono fun e w' ⟨he, hw⟩ => ⟨by rw [he, Int.toNat_natCast, hp2], hw⟩
      have hwk : IntKind.i64.wrap (k : Int) = (k : Int) := IntWalk.i64_in _ (by omega)
      by_cases hsa : s = A
      · subst hsa
        have hk0 := HK.out rfl
        have Y1' := Lib.hid (Y1.out rfl)
        have Y2' := Lib.hid (Y2.out rfl)
        clear Y1 Y2
        by_cases hb0 : b = 0
        · rw [imM_no hb0]
          have HR : Hid (lcB n L (k + 1) = k) := Lib.hid (Y1'.out hb0)
          generalize hc : pop k = c at CN c1
          have HC := Lib.hid hc
          have hd : decide ((c : Int) < 9223372036854775807) = true := by simp; omega
          clear hc
          go_wp2_with fail
          go_at_call 30; refine (CN.out _).mono ?_; rintro e w' ⟨rfl, rfl⟩
          go_wp2_with fail
          go_at_call 31; refine (AL.out _).mono ?_; rintro e w' ⟨rfl, rfl⟩
          go_wp2_with fail
          go_roundg (gk - 1)
          case measure => omega
          case rel => exact ⟨k + 1, by omega, by omega, by rw [HR.out], by rw [HR.out, imM_yes hk0, HC.out], by go_num, rfl⟩
        · rw [imM_yes hb0]
          have N2' := Lib.hid (N2.out hb0)
          by_cases hlt2 : pop k < pop b
          · have HR : Hid (lcB n L (k + 1) = k) := Lib.hid (Y2'.out hlt2)
            generalize hc : pop k = c at CN c1 hlt2
            generalize pop b = d at hlt2 c2
            have HC := Lib.hid hc
            have hd : decide ((c : Int) < (d : Int)) = true := by simp; omega
            clear hc
            go_wp2_with fail
            go_at_call 30; refine (CN.out _).mono ?_; rintro e w' ⟨rfl, rfl⟩
            go_wp2_with fail
            go_at_call 31; refine (AL.out _).mono ?_; rintro e w' ⟨rfl, rfl⟩
            go_wp2_with fail
            go_roundg (gk - 1)
            case measure => omega
            case rel => exact ⟨k + 1, by omega, by omega, by rw [HR.out], by rw [HR.out, imM_yes hk0, HC.out], by go_num, rfl⟩
          · have HR : Hid (lcB n L (k + 1) = b) := Lib.hid (N2'.out hlt2)
            generalize pop k = c at CN c1 hlt2
            generalize hc : pop b = d at hlt2 c2
            have HC := Lib.hid hc
            have hd : decide ((c : Int) < (d : Int)) = false := by simp; omega
            clear hc
            go_wp2_with fail
            go_at_call 30; refine (CN.out _).mono ?_; rintro e w' ⟨rfl, rfl⟩
            go_wp2_with fail
            go_at_call 31; refine (AL.out _).mono ?_; rintro e w' ⟨rfl, rfl⟩
            go_wp2_with fail
            go_roundg (gk - 1)
            case measure => omega
            case rel => exact ⟨k + 1, by omega, by omega, by rw [HR.out], by rw [HR.out, imM_yes hb0, HC.out], by go_num, rfl⟩
      · have hne : ((s : Int) == (A : Int)) = false := by simp; omega
        have HR : Hid (lcB n L (k + 1) = b) := Lib.hid (N1.out hsa)
        generalize hz : imM b = z
        have HZ := Lib.hid hz
        clear hz
        go_wp2_with fail
        go_at_call 30; refine (CN.out _).mono ?_; rintro e w' ⟨rfl, rfl⟩
        go_wp2_with fail
        go_at_call 31; refine (AL.out _).mono ?_; rintro e w' ⟨rfl, rfl⟩
        go_wp2_with fail
        go_roundg (gk - 1)
        case measure => omega
        case rel => exact ⟨k + 1, by omega, by omega, by rw [HR.out], by rw [HR.out, HZ.out], by go_num, rfl⟩
    · obtain rfl : k = N := by omega
      have hb1 := lc_lt n L (j := k) q1
      generalize hbb : lcB n L k = b at hb1
      have HBB := Lib.hid hbb
      clear hbb
      have hb3 : b < 2 ^ L.length := by rw [← HN.out]; exact hb1
      have HDD : Hid (((b : Int) != 0) = decide (b ≠ 0)) := Lib.hid (by by_cases h : b = 0 <;> simp [h])
      generalize imM b = z
      go_wp2_with fail
      go_at_call 25; refine (members_any b L.length _ hb3 l2 (HT.out.below B2.out)).mono ?_; rintro e w5 ⟨v5, rfl, i5, b5⟩
      have B5 := Lib.hid (B2.out.trans (b5.mono B2.out.size))
      have I5 := Lib.hid (SI.wide i5 (lo' := w.heap.size) (hi' := w5.heap.size) B2.out.size (Nat.le_refl _) (Nat.le_refl _))
      clear i5 b5
      go_wp2_with fail
      refine bodyPost_ret (v := .tuple #[v5, .bool ((b : Int) != 0)]) (by simp [results, Tryd.results15, go_sem]) rfl ?_
      rw [HBB.out, HDD.out]
      exact ⟨_, rfl, I5.out, B5.out⟩
set_option maxHeartbeats 1000000 in
theorem implLeastCover_any (n : Int) (v : Value) (L : List Int) (w : World) (hv : IL w v L) (_ : -9223372036854775808 ≤ n ∧ n ≤ 9223372036854775807) (o : OKI L) (ht : TzTab w) :
    Calls Tryd.prog 15 #[.int .i64 n, v] w (SaysJB (lcL n L) (lcO n L) w) := by
  have hn := o.size
  unfold lcL lcO lcX
  cases h1 : setsB n L with
  | false =>
    have HV := Lib.hid hv
    have H1 := Lib.hid h1
    obtain ⟨ao, cap, rfl⟩ := hv.long
    clear h1 hv
    go_enter Tryd.func15, Tryd.ntmps15
    go_wp2_with fail
    go_at_call 28; refine (implSets_is false n _ L _ HV.out hn H1.out).mono ?_; rintro e w' ⟨rfl, m, rfl⟩
    have HB := Lib.hid (below_drewN (Below.refl w.heap.size w) m)
    go_wp2_with fail
    refine bodyPost_ret (v := .tuple #[.slice none 0 0, .bool false]) (by simp [results, Tryd.results15, go_sem]) rfl ?_
    exact ⟨_, rfl, SI.nil _ (Nat.le_refl _) _ _, HB.out⟩
  | true =>
    obtain ⟨m, rfl, OK⟩ := setsB_ok h1
    exact implLc_yes m v L w hv hn h1 OK ht
end Go.Proofs.YtolbkepbcoipcaaDoor
