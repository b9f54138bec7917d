/- The least number of bins: the model's side. -/
import Derived.Test.YtolbkepbcoipcaaDoorLb0
import Derived.Test.YtolbkepbcoipcaaDoorFits
import Derived.Test.YtolbkepbcoipcaaDoorHvS
import Derived.Test.YtolbkepbcoipcaaDoorBitI
import Derived.Test.YtolbkepbcoipcaaDoorRowA
import Derived.StillTailTactics
import Derived.Deep.LoopGhost
namespace Go.Proofs.YtolbkepbcoipcaaDoor
open Go.RowKit Go.ChangeShapes Go.WideShapes

theorem set_at {L : List Int} {i : Nat} {v : Int} (h : i < L.length) : (L.set i v).getD i 0 = v := by simp [List.getD, h]
theorem set_ne {L : List Int} {i j : Nat} {v : Int} (h : j ≠ i) : (L.set i v).getD j 0 = L.getD j 0 := by
  have h2 : i ≠ j := fun e => h e.symm
  simp [List.getD, h2]
theorem allF_set {f g : Nat → Int} {n k : Nat} {v : Int} (h : ∀ j, j ≠ k → g j = f j) (hk : g k = v) : (allF f n).set k v = allF g n := by
  refine List.ext_getElem (by simp [allF]) fun i h1 h2 => ?_
  rw [List.getElem_set]
  by_cases e : k = i
  · subst e; simp [allF, hk]
  · rw [if_neg e]; simp [allF, h i (fun e2 => e e2.symm)]
theorem tab_set {S : List Int} {r c : Int} {k n : Nat} (h : k ≠ 0) {v : Int} (hv : v = fin S r k (tabB S r c k) k k c) : (allF (tabB S r c k) n).set k v = allF (tabB S r c (k + 1)) n :=
  allF_set (fun j hj => tab_old hj) (by rw [tab_new h, hv])
theorem i64_xor (a b : Nat) (ha : a < 65536) (hb : b < 65536) : bits .xor .i64 (a : Int) (b : Int) = ((a ^^^ b : Nat) : Int) := by
  have hx : a ^^^ b < 2 ^ 16 := Nat.xor_lt_two_pow ha hb
  show IntKind.i64.wrap ((BitVec.ofInt 64 (a : Int) ^^^ BitVec.ofInt 64 (b : Int)).toNat : Int) = _
  rw [BitVec.toNat_xor, ofInt_u64 a (by omega), ofInt_u64 b (by omega)]
  exact IntWalk.i64_in _ (by omega)
theorem l00Min_is (a b : Int) (w : World) : Calls Tryd.prog 18 #[.int .i64 a, .int .i64 b] w (fun e w' => e = .returned (.int .i64 (min a b)) ∧ w' = w) := by
  by_cases h : a < b
  · have e : Hid (min a b = a) := Lib.hid (by omega)
    go_enter Tryd.func18, Tryd.ntmps18
    go_wp2
    go_ret
    exact ⟨ret_int e.out.symm, rfl⟩
  · have e : Hid (min a b = b) := Lib.hid (by omega)
    go_enter Tryd.func18, Tryd.ntmps18
    go_wp2
    go_ret
    exact ⟨ret_int e.out.symm, rfl⟩
def lbB (S : List Int) (r : Int) : Bool := fitsB S r && decide (S.length ≤ 10)
def lbI (S : List Int) (r : Int) : Int := if lbB S r then tabB S r S.length (2 ^ S.length) (2 ^ S.length - 1) else 0
set_option maxRecDepth 100000 in
set_option maxHeartbeats 8000000 in
theorem specLb_yes (v : Value) (S : List Int) (r : Int) (w : World) (hv : IL w v S) (hn : S.length ≤ 1048576) (h1 : fitsB S r = true) (OK : SizesOk S) (h10 : S.length ≤ 10) :
    Calls Tryd.prog 6 #[v, .int .i64 r] w (SaysIB (tabB S r (S.length : Int) (2 ^ S.length) (2 ^ S.length - 1)) true w) := by
  obtain ⟨i0, hi, hz0, hz1, hz2⟩ := info_parts Tryd.infoI
  have H1 := Lib.hid h1
  have HV := Lib.hid hv
  have OKH := Lib.hid OK
  have l1 := OK.l1
  have hr := inB_ok (fits_ok h1).2.1
  obtain ⟨N, hN⟩ : ∃ N, N = 2 ^ S.length := ⟨_, rfl⟩
  have HN := Lib.hid hN
  have q1 : 1 ≤ N := by have := (pow16 (n := S.length) (by omega)).1; omega
  have q2 : N ≤ 65536 := by have := (pow16 (n := S.length) (by omega)).2; omega
  have hlen : (sumsL S).length = N := by unfold sumsL; rw [allF_len, hN]
  have H0 := Lib.hid (show List.replicate N (0 : Int) = allF (tabB S r (S.length : Int) 1) N from rep_allF fun x _ => by unfold tabB; simp [tabB])
  have hz10 : decide ((10 : Int) < (S.length : Int)) = false := by simp; omega
  rw [← hN]
  obtain ⟨ao, cap, rfl⟩ := hv.long
  clear h1 hv OK hN
  go_enter Tryd.func6, Tryd.ntmps6
  go_wp2_with fail
  go_at_call 16; refine (l04Fits_is true _ S r _ HV.out hn H1.out).mono ?_; rintro e w' ⟨rfl, m, rfl⟩
  go_wp2_with fail
  go_at_call 17; refine (l04Sums_any _ S _ (VL.drewN HV.out _) OKH.out).mono ?_; rintro e w2 ⟨v2, rfl, i2, b2⟩
  have B2 := Lib.hid ((below_drewN (Below.refl w.heap.size w) m).trans b2)
  rcases i2.2 with ⟨hz, -⟩ | ⟨sb, so, sc, rfl, sp, -, sbl, -, scell⟩
  · rw [hz] at hlen; simp at hlen; omega
  have SC : Hid (∀ wx, Below w2.heap.size w2 wx → ∀ i, i < N → wx.cell? ⟨sb, so + i, none⟩ = some (.int .i64 (sumM S S.length i))) := Lib.hid fun wx hb i hi => by
    have hc := scell i (by rw [hlen]; exact hi)
    rw [keep_cell hc hb (cell_block hc)]
    unfold sumsL
    rw [allF_at (by rw [← HN.out]; exact hi)]
  rw [hlen]
  clear scell hlen i2 b2 sp sbl
  go_wp2_with (at_make; refine wpList_make_full _ rfl _ _ 22 rfl w2.heap.size 2 i0 (.int .i64 0) 1 Tryd.underlying22 hi hz0 hz1 _ _ _ _ N rfl rfl rfl rfl (by rw [hz2]; omega) (by unfold maxLen; omega) (Nat.le_refl _) ?_; intro w3 hown hgrow; have bm := (Below.refl w2.heap.size w2).grown hgrow (Nat.le_refl _) (fun g hg => by cases hg); have hA := Lib.hid (show RowAt w2 w2.heap.size (List.replicate N 0) w3 from ⟨bm, (hown.lt _ rfl).2, Nat.le_refl _, Arr.made_i hown⟩); clear hown hgrow bm)
  go_loopg [8] N (fun gk s wr => ∃ k : Nat, 1 ≤ k ∧ k ≤ N ∧ gk + k = N + 1 ∧ s = .int .i64 k ∧ RowAt w2 w2.heap.size (allF (tabB S r (S.length : Int) k) N) wr)
  case atStart => exact ⟨1, Nat.le_refl _, q1, by omega, rfl, hA.out.to H0.out⟩
  case round =>
    clear hA
    obtain ⟨k, hk1, hk, hgk, rfl, hat⟩ := hrel
    have HA := Lib.hid hat
    clear hat
    by_cases hlt : k < N
    · have k0 : k ≠ 0 := by omega
      have k64 : k < 65536 := by omega
      have hf := HA.out.arr.free k
      have y2 := HA.out.cell (i := k) (by rw [allF_len]; omega)
      have lk : (k : Int) < (N : Int) := by omega
      obtain ⟨z0, hz0'⟩ : ∃ z, z = (allF (tabB S r (S.length : Int) k) N).getD k 0 := ⟨_, rfl⟩
      rw [← hz0'] at y2
      clear hz0'
      have HLEN : Hid (k < (allF (tabB S r (S.length : Int) k) N).length) := Lib.hid (by rw [allF_len]; exact hlt)
      obtain ⟨G, hG⟩ : ∃ G, G = fin S r k (tabB S r (S.length : Int) k) k k (S.length : Int) := ⟨_, rfl⟩
      have HG := Lib.hid hG
      have HTAB : Hid ((allF (tabB S r (S.length : Int) k) N).set k G = allF (tabB S r (S.length : Int) (k + 1)) N) := Lib.hid (tab_set k0 hG)
      clear hG
      go_wp2_with fail
      have HA2 := Lib.hid (HA.out.set HLEN.out (S.length : Int))
      clear y2 hf
      obtain ⟨wo, rfl⟩ : ∃ x : World, x = wr := ⟨_, rfl⟩
      obtain ⟨g2, rfl⟩ : ∃ x : Nat, x = gk := ⟨_, rfl⟩
      go_loopg [9] k (fun gk s wr => ∃ (p : Nat) (u : Int), s = .int .i64 p ∧ p &&& k = p ∧ p ≤ gk ∧ 0 ≤ u ∧ u ≤ 16 ∧ fin S r k (tabB S r (S.length : Int) k) gk p u = G ∧ RowAt w2 w2.heap.size ((allF (tabB S r (S.length : Int) k) N).set k u) wr)
      case atStart => exact ⟨k, (S.length : Int), rfl, Nat.and_self k, Nat.le_refl _, by omega, by omega, HG.out.symm, HA2.out⟩
      case round =>
        clear HA2 HA
        obtain ⟨p, u, rfl, hpk, hpg, hu0, hu1, hfin, hin⟩ := hrel
        have HI := Lib.hid hin
        have HF := Lib.hid hfin
        clear hin hfin
        by_cases hp0 : p = 0
        · subst hp0
          have HD : Hid ((allF (tabB S r (S.length : Int) k) N).set k u = allF (tabB S r (S.length : Int) (k + 1)) N) := Lib.hid (by rw [← HTAB.out, ← HF.out, fin_zero])
          go_wp2_with fail
          go_roundg (g2 - 1)
          case measure => omega
          case rel => exact ⟨k + 1, by omega, by omega, by omega, by go_num, HI.out.to HD.out⟩
        · have hpp : decide ((0 : Int) < (p : Int)) = true := by simp; omega
          have hpn : ((p : Int) != 0) = true := by simp <;> omega
          have hpl : p ≤ k := by have := Nat.and_le_right (n := p) (m := k); omega
          obtain ⟨g, rfl⟩ : ∃ g, gk = g + 1 := ⟨gk - 1, by omega⟩
          have HY := Lib.hid (fin_yes (S := S) (r := r) (m := k) (T := tabB S r (S.length : Int) k) (g := g) (v := u) hp0)
          have HNO := Lib.hid (fin_no (S := S) (r := r) (m := k) (T := tabB S r (S.length : Int) k) (g := g) (v := u) hp0)
          have x1 := SC.out _ HI.out.below p (by omega)
          have hs := sumM_in OKH.out.a p S.length (Nat.le_refl _)
          have e1 := i64_and (p - 1) k (by omega) k64
          rw [show ((p - 1 : Nat) : Int) = (p : Int) - 1 by omega] at e1
          have wp1 : IntKind.i64.wrap ((p : Int) - 1) = (p : Int) - 1 := IntWalk.i64_in _ (by omega)
          have lp : (p : Int) < (N : Int) := by omega
          have hns := next_sub p k
          have hnl : (p - 1) &&& k ≤ g := by have := Nat.and_le_left (n := p - 1) (m := k); omega
          generalize sumM S S.length p = s at x1 hs HY HNO
          obtain ⟨s1, s2⟩ := hs
          by_cases hsr : s ≤ r
          · have hkp : k &&& p = p := by rw [Nat.and_comm]; exact hpk
            have hxl : k ^^^ p < k := by have h := left_lt (l := k) (y := p) (by rw [hpk]; exact hp0); rw [hkp] at h; exact h
            have e2 := i64_xor k p k64 (by omega)
            have hf := HI.out.arr.free k
            have y1 := HI.out.cell (i := k) (by rw [List.length_set, allF_len]; omega)
            rw [set_at (by rw [allF_len]; omega)] at y1
            have y2 := HI.out.cell (i := k ^^^ p) (by rw [List.length_set, allF_len]; omega)
            rw [set_ne (by omega), allF_at (by omega)] at y2
            have ht := tab_in (S := S) (r := r) (c := (S.length : Int)) (by omega) k (k ^^^ p)
            have HY2 := Lib.hid (HY.out hsr)
            clear HY HNO
            generalize tabB S r (S.length : Int) k (k ^^^ p) = t at y2 ht HY2
            generalize k ^^^ p = x at hxl e2 y2
            generalize (p - 1) &&& k = p2 at e1 hns hnl HY2
            obtain ⟨t1, t2⟩ := ht
            have t3 : t ≤ 16 := by omega
            have lx : (x : Int) < (N : Int) := by omega
            have wt : IntKind.i64.wrap (t + 1) = t + 1 := IntWalk.i64_in _ (by omega)
            have wt2 : IntKind.i64.wrap (1 + t) = 1 + t := IntWalk.i64_in _ (by omega)
            have HL2 : Hid (k < ((allF (tabB S r (S.length : Int) k) N).set k u).length) := Lib.hid (by rw [List.length_set, allF_len]; exact hlt)
            go_wp2_with fail
            refine wp_region_still_tail 15 (by kernel_rfl) (by kernel_rfl) ?_
            simp only [List.take_succ_cons, List.take_zero, List.drop_succ_cons, List.drop_zero]
            repeat still_step
            still_call (l00Min_is u (t + 1) _)
            repeat still_step
            refine wpStill_nil ?_
            change wpList _ _ _ _ _ wr.drew
            go_wp2_with fail
            go_roundg g
            case measure => omega
            case rel => exact ⟨p2, min u (t + 1), rfl, hns, hnl, by omega, by omega, by rw [← HY2.out]; exact HF.out, ((HI.out.drew 1).set HL2.out _).to (List.set_set ..)⟩
          · have HR := Lib.hid (HNO.out hsr)
            clear HY HNO
            generalize (p - 1) &&& k = p2 at e1 hns hnl HR
            go_wp2_with fail
            go_roundg g
            case measure => omega
            case rel => exact ⟨p2, u, rfl, hns, hnl, hu0, hu1, by rw [← HR.out]; exact HF.out, HI.out⟩
    · obtain rfl : k = N := by omega
      obtain ⟨Q, rfl⟩ : ∃ Q, k = Q + 1 := ⟨k - 1, by omega⟩
      have e1 := HA.out.cell (i := Q) (by rw [allF_len]; omega)
      rw [allF_at (by omega)] at e1
      have q3 : (Q : Int) < (Q : Int) + 1 := by omega
      have q4 : (Q : Int) < ((Q + 1 : Nat) : Int) := by omega
      have HZ0 : Hid (tabB S r (S.length : Int) (Q + 1) (Q + 1 - 1) = tabB S r (S.length : Int) (Q + 1) Q) := Lib.hid (by rw [Nat.add_sub_cancel])
      generalize hz : tabB S r (S.length : Int) (Q + 1) Q = z at e1 HZ0
      clear hz
      go_wp2_with fail
      go_ret2
      exact saysIB HZ0.out.symm (B2.out.trans (HA.out.below.mono B2.out.size))
set_option maxHeartbeats 1000000 in
theorem specLeastBins_any (v : Value) (S : List Int) (r : Int) (w : World) (hv : IL w v S) (o : OKI S) (_ : -9223372036854775808 ≤ r ∧ r ≤ 9223372036854775807) :
    Calls Tryd.prog 6 #[v, .int .i64 r] w (SaysIB (lbI S r) (lbB S r) w) := by
  have hn := o.size
  unfold lbI
  cases h1 : fitsB S r with
  | false =>
    have e : lbB S r = false := by unfold lbB; rw [h1, Bool.false_and]
    rw [e]
    have HV := Lib.hid hv
    have H1 := Lib.hid h1
    obtain ⟨ao, cap, rfl⟩ := hv.long
    clear h1 hv
    go_enter Tryd.func6, Tryd.ntmps6
    go_wp2_with fail
    go_at_call 16; refine (l04Fits_is false _ S r _ HV.out hn H1.out).mono ?_; rintro e w' ⟨rfl, m, rfl⟩
    have HB := Lib.hid (below_drewN (Below.refl w.heap.size w) m)
    go_wp2_with fail
    go_ret2
    exact saysIB rfl HB.out
  | true =>
    by_cases h10 : S.length ≤ 10
    · have e : lbB S r = true := by unfold lbB; rw [h1]; simpa using h10
      rw [e]
      exact specLb_yes v S r w hv hn h1 (sizesB_ok (fits_ok h1).1) h10
    · have e : lbB S r = false := by unfold lbB; rw [h1]; simpa using h10
      rw [e]
      have hz10 : decide ((10 : Int) < (S.length : Int)) = true := by simp; omega
      have HV := Lib.hid hv
      have H1 := Lib.hid h1
      obtain ⟨ao, cap, rfl⟩ := hv.long
      clear h1 hv
      go_enter Tryd.func6, Tryd.ntmps6
      go_wp2_with fail
      go_at_call 16; refine (l04Fits_is true _ S r _ HV.out hn H1.out).mono ?_; rintro e w' ⟨rfl, m, rfl⟩
      have HB := Lib.hid (below_drewN (Below.refl w.heap.size w) m)
      go_wp2_with fail
      go_ret2
      exact saysIB rfl HB.out
end Go.Proofs.YtolbkepbcoipcaaDoor
