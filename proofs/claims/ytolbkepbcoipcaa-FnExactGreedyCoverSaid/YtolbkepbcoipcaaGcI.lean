/- Covers one by one: the program's side. -/
import Derived.Test.YtolbkepbcoipcaaGcS
import Derived.Test.YtolbkepbcoipcaaCnt
namespace Go.Proofs.Ytolbkepbcoipcaa
open Go.RowKit Go.ChangeShapes Go.WideShapes

theorem bestI_end {L : List Int} {l : Nat} (h : 1 ≤ L.length) : bestI L l L.length = if pop (setN L (bestS L l (L.length - 1)) &&& l) = 0 then -1 else ((bestS L l (L.length - 1) : Nat) : Int) := by
  obtain ⟨k, hk⟩ : ∃ k, L.length = k + 1 := ⟨L.length - 1, by omega⟩
  rw [hk]; rfl
set_option maxRecDepth 100000 in
set_option maxHeartbeats 8000000 in
theorem implGc_yes (n : Nat) (v : Value) (L : List Int) (w : World) (hv : IL w v L) (hn : L.length ≤ 1048576) (h1 : setsB (n : Int) L = true) (OK : SetsOk n L) :
    Calls Try.prog 29 #[.int .i64 n, v] w (SaysJB (covL n L) (covB n L) w) := by
  obtain ⟨i0, hi, hz0, hz1, hz2⟩ := info_parts Try.infoI
  have H1 := Lib.hid h1
  have HV := Lib.hid hv
  have OKH := Lib.hid OK
  have n1 := OK.n1
  have n2 := OK.n2
  have l1 := OK.l1
  have l2 := OK.l2
  have HO : Hid (grdO n L = grd L (allS n) (allS n)) := Lib.hid (by unfold grdO; rw [if_pos h1]; simp)
  rcases hv with ⟨rfl, ao, cap, rfl⟩ | ⟨b, off, cap, rfl, hpos, hbl, hcell⟩
  · simp at l1
  have HC : Hid (∀ wx, Below w.heap.size w wx → ∀ i, i < L.length → wx.cell? ⟨b, off + i, none⟩ = some (.int .i64 (setN L i : Int))) := Lib.hid fun wx hb i hi => by
    rw [hb.cell (p := ⟨b, off + i, none⟩) hbl, ← (OKH.out.s i hi).1]; exact hcell i hi
  obtain ⟨A, hA⟩ : ∃ A, A = allS n := ⟨_, rfl⟩
  have HA := Lib.hid hA
  have a1 : A < 65536 := by rw [hA]; exact allS_lt n2
  have SOA : Hid (∀ W : World, Calls Try.prog 39 #[.int .i64 n] W (fun e w' => e = .returned (.int .i64 A) ∧ W = w')) := Lib.hid fun W => by
    have h := setOfAll_is (n : Int) W (by omega) (by omega)
    rw [Int.toNat_natCast] at h
    have h3 : 0 < 2 ^ n := Nat.pow_pos (by omega)
    have h2 : ((2 ^ n : Nat) : Int) = (2 : Int) ^ n := by simp
    rw [show (2 : Int) ^ n - 1 = (A : Int) by rw [hA]; unfold allS; omega] at h
    exact h
  clear h1 hcell OK hA
  go_enter Try.func29, Try.ntmps29
  go_wp2_with fail
  go_at_call 17; refine (implSets_is true n _ L _ HV.out hn H1.out).mono ?_; rintro e w' ⟨rfl, m, rfl⟩
  go_wp2_with fail
  go_loopg [6, 7] A (fun gk v s7 wr => ∃ (l h : Nat) (Zs : List Int), s7 = .int .i64 h ∧ h = A ^^^ l ∧ GcAt L A w gk l v Zs wr)
  case atStart => exact ⟨A, 0, [], rfl, (Nat.xor_self A).symm, ⟨below_drewN (Below.refl w.heap.size w) m, Grows.nil _ _ _ _, by rw [HA.out]; exact part_all (by unfold allS; have : 0 < 2 ^ n := Nat.pow_pos (by omega); omega), Nat.le_refl _, by simp; omega, grd_start L A⟩⟩
  case round =>
    obtain ⟨l, h, Zs, rfl, hh, hat⟩ := hrel
    have HT := Lib.hid hat
    have HH := Lib.hid hh
    have l64 : l < 65536 := part_lt (by rw [← HA.out]; exact hat.part) n2
    have h64 : h < 65536 := by
      have : h < 2 ^ 16 := by rw [hh]; exact Nat.xor_lt_two_pow a1 l64
      exact this
    clear hat hh
    by_cases h0 : l = 0
    · subst h0
      have HD := Lib.hid HT.out.done
      have HG := Lib.hid (HT.out.grows.si (d := 0))
      have he : h = A := by rw [HH.out]; exact Nat.xor_zero A
      have hne : ((h : Int) != (A : Int)) = false := by simp; omega
      clear he
      go_wp2_with fail
      go_at_call 39; refine (SOA.out _).mono ?_; rintro e w' ⟨rfl, rfl⟩
      go_wp2_with fail
      refine bodyPost_ret (results_tmp2 rfl _ _ _) rfl ?_
      have e : grdO n L = some Zs := by rw [HO.out, ← HA.out]; exact HD.out
      have e2 : covL n L = Zs := by unfold covL; rw [e]; rfl
      have e3 : covB n L = true := by unfold covB; rw [e]; rfl
      rw [e2, e3]
      exact ⟨_, rfl, HG.out, HT.out.below⟩
    · have hne : ((h : Int) != (A : Int)) = true := by
        have : h ≠ A := by rw [HH.out]; exact fun e => h0 (held_all.1 e)
        simp; omega
      have H0 := Lib.hid h0
      clear h0
      go_wp2_with fail
      go_at_call 39; refine (SOA.out _).mono ?_; rintro e w' ⟨rfl, rfl⟩
      go_wp2_with fail
      obtain ⟨wo, rfl⟩ : ∃ x : World, x = wr := ⟨_, rfl⟩
      obtain ⟨g2, rfl⟩ : ∃ x : Nat, x = gk := ⟨_, rfl⟩
      clear hne
      go_loopg [8, 9, 23] L.length (fun gk s8 s9 s23 wr => ∃ k : Nat, k ≤ L.length ∧ gk + k = L.length ∧ s8 = .int .i64 (bestI L l k) ∧ s9 = .int .i64 (mostI L l k) ∧ s23 = .int .i64 k ∧ wo = wr)
      case atStart => exact ⟨0, Nat.zero_le _, by omega, rfl, rfl, rfl, rfl⟩
      case round =>
        obtain ⟨k, hk, hgk, rfl, rfl, rfl, rfl⟩ := hrel
        by_cases hlt : k < L.length
        · have x1 := HC.out wo HT.out.below k hlt
          have s1 := set_lt OKH.out hlt
          have e1 := i64_andNot (setN L k) h s1 h64
          have HP : Part (setN L k) A := by rw [HA.out]; exact part_all (OKH.out.s k hlt).2
          rw [HH.out, held_not HP, ← HH.out] at e1
          have t1 := and_lt (y := l) s1
          have HUP := Lib.hid (mostI_up (L := L) (left := l) (k := k))
          have HNO := Lib.hid (mostI_no (L := L) (left := l) (k := k))
          obtain ⟨m1, m2⟩ := mostI_in L l k
          generalize setN L k &&& l = p at e1 t1 HUP HNO
          generalize setN L k = z at x1 e1 s1
          have pp := pop_le p
          by_cases hgt : mostI L l k < (pop p : Int)
          · have HN := Lib.hid (HUP.out hgt)
            have d1 : decide (mostI L l k < (pop p : Int)) = true := decide_eq_true hgt
            generalize mostI L l k = mo at d1 m1 m2
            generalize bestI L l k = bo
            clear hgt HP
            go_wp2_with fail
            go_at_call 53; refine (countIn_any p _ t1).mono ?_; rintro e w' ⟨rfl, rfl⟩
            go_wp2_with fail
            go_roundg (gk - 1)
            case measure => omega
            case rel => exact ⟨k + 1, by omega, by omega, by rw [HN.out.1], by rw [HN.out.2], by go_num, rfl⟩
          · have HN := Lib.hid (HNO.out hgt)
            have d1 : decide (mostI L l k < (pop p : Int)) = false := decide_eq_false hgt
            generalize hmo : mostI L l k = mo at d1 m1 m2
            generalize hbo : bestI L l k = bo
            have HMO := Lib.hid hmo
            have HBO := Lib.hid hbo
            clear hgt HP hmo hbo
            go_wp2_with fail
            go_at_call 53; refine (countIn_any p _ t1).mono ?_; rintro e w' ⟨rfl, rfl⟩
            go_wp2_with fail
            go_roundg (gk - 1)
            case measure => omega
            case rel => exact ⟨k + 1, by omega, by omega, by rw [HN.out.1, HBO.out], by rw [HN.out.2, HMO.out], by go_num, rfl⟩
        · obtain rfl : k = L.length := by omega
          have hbk := bestS_le L l (L.length - 1)
          have s1 := set_lt OKH.out (i := bestS L l (L.length - 1)) (by omega)
          have x1 := HC.out wo HT.out.below (bestS L l (L.length - 1)) (by omega)
          have HNONE := Lib.hid (fun h => HT.out.none H0.out h)
          have HPUSH := Lib.hid (fun (v' : Value) (w' : World) (o : Obj) => HT.out.push (v' := v') (w' := w') (o := o) H0.out)
          have HE := Lib.hid (bestI_end (l := l) l1)
          have HCOV : Hid (grd L A A = none → covL n L = [] ∧ covB n L = false) := Lib.hid fun h => by
            have e : grdO n L = none := by rw [HO.out, ← HA.out]; exact h
            unfold covL covB
            rw [e]
            exact ⟨rfl, rfl⟩
          have e3 := i64_or h (setN L (bestS L l (L.length - 1))) h64 s1
          have HPT : Part (setN L (bestS L l (L.length - 1))) A := by rw [HA.out]; exact part_all (OKH.out.s _ (by omega)).2
          rw [show h ||| setN L (bestS L l (L.length - 1)) = A ^^^ (l ^^^ (l &&& setN L (bestS L l (L.length - 1)))) from by rw [HH.out]; exact held_or HT.out.part HPT] at e3
          by_cases hq : setN L (bestS L l (L.length - 1)) &&& l = 0
          · have HN := Lib.hid (HCOV.out (HNONE.out hq))
            have hb : bestI L l L.length = -1 := by rw [HE.out, if_pos ((pop_zero (and_lt s1)).2 hq)]
            rw [hb]
            clear hq hb e3 HPT x1
            go_wp2_with fail
            refine bodyPost_ret (results_tmp2 rfl _ _ _) rfl ?_
            rw [HN.out.1, HN.out.2]
            exact ⟨_, rfl, SI.nil _ (Nat.le_refl _) _ _, HT.out.below⟩
          · have HQ := Lib.hid hq
            have hb : bestI L l L.length = ((bestS L l (L.length - 1) : Nat) : Int) := by rw [HE.out, if_neg (fun e => hq ((pop_zero (and_lt s1)).1 e))]
            rw [hb]
            have hzl : Zs.length ≤ 65535 := by have := HT.out.len; omega
            obtain ⟨bb, hbb⟩ : ∃ bb, bb = bestS L l (L.length - 1) := ⟨_, rfl⟩
            rw [← hbb] at x1 hbk HPUSH e3 HQ ⊢
            have lb : (bb : Int) < (L.length : Int) := by omega
            have hne : ((bb : Int) == -1) = false := by simp <;> omega
            generalize hX : l ^^^ (l &&& setN L bb) = x at e3
            have HX := Lib.hid hX
            obtain ⟨y, hy⟩ : ∃ y, y = setN L bb := ⟨_, rfl⟩
            rw [← hy] at x1 e3
            have HY := Lib.hid hy
            obtain ⟨ax, hax⟩ : ∃ ax, ax = A ^^^ x := ⟨_, rfl⟩
            rw [← hax] at e3
            have HAX := Lib.hid hax
            clear hq hb hX hy hbb HPT s1 hax
            go_wp2_with (at_builtin; refine wpList_append_own _ rfl _ _ 22 rfl w.heap.size 2 i0 (.int .i64 0) 1 8 Try.underlying22 hi hz0 hz1 hz2 rfl (by decide) _ _ _ rfl (Grows.alloc HT.out.grows _) ⟨wo.heap.size, 0, none⟩ 1 1 [.int .i64 (bb : Int)] rfl rfl ?c1 ?c2 ?c3 ?c4 ?c5 ?_)
            case c1 => exact one_new
            case c2 => intro u hu; simp at hu; subst hu; rfl
            case c3 => unfold maxLen; omega
            case c4 => omega
            case c5 => have := HT.out.below.size; simp; omega
            intro v' w' hown hgrow _
            have HN := Lib.hid (HPUSH.out v' w' _ HQ.out hown hgrow)
            have HBN : Hid (Below w.heap.size w w') := Lib.hid HN.out.below
            have x2 := HC.out w' HBN.out bb (by omega)
            rw [← HY.out] at x2
            clear hown hgrow x1
            go_wp2_with fail
            go_roundg (g2 - 1)
            case measure => have := HT.out.fuel; have := H0.out; omega
            case rel => exact ⟨x, ax, _, rfl, HAX.out, by rw [← HX.out]; exact HN.out⟩
set_option maxHeartbeats 1000000 in
theorem implGreedyCover_any (n : Int) (v : Value) (L : List Int) (w : World) (hv : IL w v L) (_ : -9223372036854775808 ≤ n ∧ n ≤ 9223372036854775807) (o : OKI L) :
    Calls Try.prog 29 #[.int .i64 n, v] w (SaysJB (covL n L) (covB n L) w) := by
  have hn := o.size
  cases h1 : setsB n L with
  | false =>
    have e : grdO n L = none := by unfold grdO; rw [if_neg (by rw [h1]; decide)]
    have e2 : covL n L = [] := by unfold covL; rw [e]; rfl
    have e3 : covB n L = false := by unfold covB; rw [e]; rfl
    rw [e2, e3]
    have HV := Lib.hid hv
    have H1 := Lib.hid h1
    obtain ⟨ao, cap, rfl⟩ := hv.long
    clear h1 hv e e2 e3
    go_enter Try.func29, Try.ntmps29
    go_wp2_with fail
    go_at_call 17; refine (implSets_is false n _ L _ HV.out hn H1.out).mono ?_; rintro e w' ⟨rfl, m, rfl⟩
    have HB := Lib.hid (below_drewN (Below.refl w.heap.size w) m)
    go_wp2_with fail
    refine bodyPost_ret (results_tmp2 rfl _ _ _) rfl ?_
    exact ⟨_, rfl, SI.nil _ (Nat.le_refl _) _ _, HB.out⟩
  | true =>
    obtain ⟨m, rfl, OK⟩ := setsB_ok h1
    exact implGc_yes m v L w hv hn h1 OK
end Go.Proofs.Ytolbkepbcoipcaa
