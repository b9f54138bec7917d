/- Different values of some letters: the model's side. -/
import Derived.Test.YtaghnkmcnomegaaCoP
namespace Go.Proofs.Ytaghnkmcnomegaa
open Go.RowKit Go.ChangeShapes Go.WideShapes

theorem ascT_no {n : Int} {c : List Int} {k : Nat} (hk : k < c.length) (h : asc1 n c k = false) : alB n c = false := alB_step hk h
theorem ascT_yes {n : Int} {c : List Int} (h1 : inB n 1 10 = true) (h : ∀ j, j < c.length → asc1 n c j = true) : alB n c = true := by rw [alB_end h, h1]
theorem cntN_yes {L : Nat} {C : List (List Int)} {M k : Nat} (hm : modelB L C k = true) (hs : seenN L C M k (k &&& M) = false) : cntN L C M (k + 1) = cntN L C M k + 1 := by
  show cntN L C M k + (if modelB L C k && !seenN L C M k (k &&& M) then 1 else 0) = _
  rw [hm, hs]; rfl
theorem cntN_old {L : Nat} {C : List (List Int)} {M k : Nat} (hs : seenN L C M k (k &&& M) = true) : cntN L C M (k + 1) = cntN L C M k := by
  show cntN L C M k + (if modelB L C k && !seenN L C M k (k &&& M) then 1 else 0) = _
  rw [hs]; simp
theorem cntN_no {L : Nat} {C : List (List Int)} {M k : Nat} (hm : modelB L C k = false) : cntN L C M (k + 1) = cntN L C M k := by
  show cntN L C M k + (if modelB L C k && !seenN L C M k (k &&& M) then 1 else 0) = _
  rw [hm]; rfl
set_option maxRecDepth 100000 in
set_option maxHeartbeats 8000000 in
theorem specCountOn_any (v : Value) (F : Fm) (u : Value) (T : List Int) (w : World) (hv : FmV w v F) (hu : IL w u T) (o : OKFm F) (oT : OKI T) :
    Calls Try.prog 26 #[v, u] w (SaysIB (coI F T) (coB F T) w) := by
  obtain ⟨i0, hi, hz0, hz1, hz2⟩ := info_parts Try.infoB
  have hnT := oT.size
  obtain ⟨s1, rfl, g1⟩ := FmAt.mk' hv 34
  have G1 := Lib.hid g1
  obtain ⟨s2, hb2, hs2⟩ := g1.box
  obtain rfl : s2 = s1 := by
    have := hb2.c1
    rw [World.cell?_alloc_new] at this
    simpa using this.symm
  have HBX0 := Lib.hid hb2
  obtain ⟨ao, cap, rfl⟩ := hs2.long
  have hb0 := Lib.hid (fun o => below_alloc w o)
  obtain ⟨au, cu, rfl, hcu⟩ := IL.any hu
  have HCU := Lib.hid hcu
  clear g1 hb2 hs2 hv hu hcu
  cases h1 : formB F with
  | false =>
    have HN := Lib.hid (co_no1 (T := T) h1)
    have H1 := Lib.hid h1
    clear h1
    go_enter Try.func26, Try.ntmps26
    go_wp2_with fail
    go_at_call 49; refine (l05Is_any w.heap.size F _ G1.out o).mono ?_; rintro e w1 ⟨rfl, b1⟩
    rw [H1.out]
    have HB := Lib.hid ((hb0.out _).trans (b1.mono (hb0.out _).size))
    clear b1
    go_wp2_with fail
    go_ret2
    exact saysIB2 HN.out.1.symm HN.out.2.symm HB.out
  | true =>
    obtain ⟨L, hL⟩ : ∃ L, L = F.letters.toNat := ⟨_, rfl⟩
    have hh0 := (formB_ok h1).num
    rw [← hL] at hh0
    have hL2 := hh0.L2
    have hL1 := hh0.L1
    have hp1 := hh0.p1
    have hp2 := hh0.p2
    have HIN : Hid (inB (L : Int) 1 10 = true) := Lib.hid (by unfold inB; rw [decide_eq_true (by omega), decide_eq_true (by omega)]; rfl)
    obtain ⟨N, hN⟩ : ∃ N, N = 2 ^ L := ⟨_, rfl⟩
    rw [← hN] at hp1 hp2
    have HP : Hid ((2 : Int) ^ L = (N : Int)) := Lib.hid (by rw [hN, pow_cast])
    have HH := Lib.hid hh0
    have H1 := Lib.hid h1
    have HNN := Lib.hid hh0.n
    have HNO : Hid (alB (L : Int) T = false → coI F T = 0 ∧ coB F T = false) := Lib.hid fun h => co_no2 (by rw [HNN.out]; exact h)
    have HYE : Hid (alB (L : Int) T = true → coI F T = (cntN L F.cs (rowM L T) N : Nat) ∧ coB F T = true) := Lib.hid fun h => by
      have := co_yes h1 (by rw [HNN.out]; exact h)
      rw [← hL, ← hN] at this
      exact this
    have HMN : Hid (alB (L : Int) T = true → rowM L T < N) := Lib.hid fun h => by
      have h5 := mask_lt (alB_ok h) _ (Nat.le_refl _)
      rw [Int.toNat_natCast, ← hN] at h5
      exact h5
    clear h1 hh0 hL hN
    go_enter Try.func26, Try.ntmps26
    go_wp2_with fail
    go_at_call 49; refine (l05Is_any w.heap.size F _ G1.out o).mono ?_; rintro e w1 ⟨rfl, b1⟩
    rw [H1.out]
    have HB := Lib.hid ((hb0.out _).trans (b1.mono (hb0.out _).size))
    have HG := Lib.hid (G1.out.keep b1)
    have hbx := HBX0.out.keep b1 HBX0.out.lt
    rw [HNN.out] at hbx
    have HBX := Lib.hid hbx
    clear b1 hbx
    go_wp2_with fail
    go_loopg [6, 15] T.length (fun gk mk i wr => ∃ j : Nat, j ≤ T.length ∧ gk + j = T.length ∧ i = .int .i64 j ∧ mk = .int .i64 (maskK L T j : Nat) ∧ maskK L T j < 1024 ∧ (∀ i, i < j → asc1 (L : Int) T i = true) ∧ ∃ m, wr = w1.drewN m)
    case atStart => exact ⟨0, Nat.zero_le _, by omega, rfl, rfl, by show 0 < 1024; omega, fun i hi => by omega, 0, rfl⟩
    case round =>
      obtain ⟨j, hj, hgj, rfl, rfl, hml, hall, hwr⟩ := hrel
      have HLJ := Lib.hid hall
      have HW := Lib.hid (drewM hwr)
      have HW1 := Lib.hid hwr
      have HBr : Hid (Below w.heap.size w wr) := Lib.hid (by obtain ⟨m, rfl⟩ := hwr; exact below_drewN HB.out m)
      have HBXr : Hid (Box2 wr w.heap.size (.int .i64 (L : Int)) (.slice ao F.cs.length cap)) := Lib.hid (by obtain ⟨m, rfl⟩ := hwr; exact HBX.out.keep (below_drewN (Below.refl _ _) m) HBX.out.lt)
      obtain ⟨c0, c1⟩ := HBXr.out
      clear hall hwr
      by_cases hjt : j < T.length
      · obtain ⟨b2, off2, hau, hbl2, e0'⟩ := HCU.out j hjt
        subst hau
        have e0 : wr.cell? ⟨b2, off2 + j, none⟩ = some (.int .i64 (T.getD j 0)) := by rw [HBr.out.cell (p := ⟨b2, off2 + j, none⟩) hbl2]; exact e0'
        obtain ⟨y, hy⟩ : ∃ y, y = T.getD j 0 := ⟨_, rfl⟩
        obtain ⟨t, ht⟩ : ∃ t, t = inB y 1 (L : Int) := ⟨_, rfl⟩
        have HT := Lib.hid (show (decide (1 ≤ y) && decide (y ≤ (L : Int))) = t from ht.symm)
        rw [← hy] at e0
        have HMS : Hid (∀ A : Nat, y = (A : Int) → maskK L T (j + 1) = maskK L T j ||| 2 ^ (L - A)) := Lib.hid fun A hA => by
          show maskK L T j ||| _ = _
          rw [← hy, hA, Int.toNat_natCast]
        by_cases hj0 : j = 0
        · subst hj0
          have HA : Hid (asc1 (L : Int) T 0 = t) := Lib.hid (by unfold asc1; rw [← hy, ← ht]; simp)
          rw [Nat.add_zero] at e0
          clear e0' hy
          cases t with
          | false =>
            have HN := Lib.hid (HNO.out (ascT_no hjt HA.out))
            clear ht
            go_wp2_with fail
            go_quiet ((go_at_call 32; with_reducible exact Calls.quiet_of (l00In_is false y 1 (L : Int) _ HT.out)))
            go_wp2_with fail
            go_ret2
            exact saysIB2 HN.out.1.symm HN.out.2.symm (below_drewN HBr.out _)
          | true =>
            obtain ⟨y1, y2⟩ := inB_ok ht.symm
            obtain ⟨A, rfl⟩ : ∃ A : Nat, y = (A : Int) := ⟨y.toNat, by omega⟩
            have hq := pow10 (L := L - A) (by omega)
            have hsh : IntKind.i64.wrap ((L : Int) - (A : Int)) = ((L - A : Nat) : Int) := by rw [IntWalk.i64_in _ (by omega)]; omega
            have hpc := pow_cast (L - A)
            have hm1 := HMS.out A rfl
            have hor := i64_or62 (maskK L T 0) (2 ^ (L - A)) (by omega) (by omega)
            rw [← hm1] at hor
            have hmm : maskK L T 1 < 1024 := by
              rw [hm1]
              have : maskK L T 0 ||| 2 ^ (L - A) < 2 ^ 10 := Nat.or_lt_two_pow (by omega) (Nat.pow_lt_pow_right (by omega) (by omega))
              omega
            have q1 : (1 : Int) ≤ 2 ^ (L - A) := by rw [← hpc]; omega
            have q2 : (2 : Int) ^ (L - A) ≤ 1024 := by rw [← hpc]; omega
            rw [hpc] at hor
            have HMM := Lib.hid hmm
            generalize hm2 : maskK L T 1 = M2 at hor
            have HM2 := Lib.hid hm2
            generalize maskK L T 0 = M1 at hor hml
            clear ht hm1 hmm hpc hq hm2
            go_wp2_with fail
            go_quiet ((go_at_call 32; with_reducible exact Calls.quiet_of (l00In_is true (A : Int) 1 (L : Int) _ HT.out)))
            go_wp2_with fail
            go_quiet (fail)
            clear hor hsh
            go_wp2_with fail
            go_roundg (gk - 1)
            case measure => omega
            case rel => exact ⟨1, by omega, by omega, by go_num, by rw [HM2.out], HMM.out, fun i hi => by
              have hi1 : i < 1 := hi
              obtain rfl : i = 0 := by omega
              exact HA.out, HW.out _⟩
        · obtain ⟨b3, off3, hau3, hbl3, f0'⟩ := HCU.out (j - 1) (by omega)
          obtain ⟨rfl, rfl⟩ : b2 = b3 ∧ off2 = off3 := by simpa using hau3
          have f0 : wr.cell? ⟨b2, off2 + (j - 1), none⟩ = some (.int .i64 (T.getD (j - 1) 0)) := by rw [HBr.out.cell (p := ⟨b2, off2 + (j - 1), none⟩) hbl2]; exact f0'
          obtain ⟨z, hz⟩ : ∃ z, z = T.getD (j - 1) 0 := ⟨_, rfl⟩
          rw [← hz] at f0
          have HA : Hid (asc1 (L : Int) T j = (t && decide (z < y))) := Lib.hid (by unfold asc1; rw [← hy, ← ht, ← hz, decide_eq_false hj0, Bool.false_or])
          have hgt : decide (0 < j) = true := by simp; omega
          have hgt2 : decide ((0 : Int) < (j : Int)) = true := by simp; omega
          have hsub0 : IntKind.i64.wrap ((j : Int) - 1) = (j : Int) - 1 := IntWalk.i64_in _ (by omega)
          have hsub : ((j : Int) - 1).toNat = j - 1 := by omega
          have hsl : (j : Int) - 1 < (T.length : Int) := by omega
          have hsz : (0 : Int) ≤ (j : Int) - 1 := by omega
          clear e0' f0' hy hz hau3
          cases t with
          | false =>
            have HN := Lib.hid (HNO.out (ascT_no hjt HA.out))
            clear ht
            go_wp2_with fail
            go_quiet ((go_at_call 32; with_reducible exact Calls.quiet_of (l00In_is false y 1 (L : Int) _ HT.out)))
            clear hgt hgt2 hsub0 hsub hsl hsz
            go_wp2_with fail
            go_ret2
            exact saysIB2 HN.out.1.symm HN.out.2.symm (below_drewN HBr.out _)
          | true =>
            by_cases hzy : z < y
            · have hle : ¬ y ≤ z := by omega
              have HA2 : Hid (asc1 (L : Int) T j = true) := Lib.hid (by rw [HA.out, decide_eq_true hzy]; rfl)
              obtain ⟨y1, y2⟩ := inB_ok ht.symm
              obtain ⟨A, rfl⟩ : ∃ A : Nat, y = (A : Int) := ⟨y.toNat, by omega⟩
              have hq := pow10 (L := L - A) (by omega)
              have hsh : IntKind.i64.wrap ((L : Int) - (A : Int)) = ((L - A : Nat) : Int) := by rw [IntWalk.i64_in _ (by omega)]; omega
              have hpc := pow_cast (L - A)
              have hm1 := HMS.out A rfl
              have hor := i64_or62 (maskK L T j) (2 ^ (L - A)) (by omega) (by omega)
              rw [← hm1] at hor
              have hmm : maskK L T (j + 1) < 1024 := by
                rw [hm1]
                have : maskK L T j ||| 2 ^ (L - A) < 2 ^ 10 := Nat.or_lt_two_pow (by omega) (Nat.pow_lt_pow_right (by omega) (by omega))
                omega
              have q1 : (1 : Int) ≤ 2 ^ (L - A) := by rw [← hpc]; omega
              have q2 : (2 : Int) ^ (L - A) ≤ 1024 := by rw [← hpc]; omega
              rw [hpc] at hor
              have HMM := Lib.hid hmm
              generalize hm2 : maskK L T (j + 1) = M2 at hor
              have HM2 := Lib.hid hm2
              generalize maskK L T j = M1 at hor hml
              have HOR := Lib.hid hor
              have HSH := Lib.hid hsh
              clear ht hm1 hmm hpc hq hm2 hor hsh
              go_wp2_with fail
              go_quiet ((go_at_call 32; with_reducible exact Calls.quiet_of (l00In_is true (A : Int) 1 (L : Int) _ HT.out)))
              clear hgt hgt2 hsub0 hsub hsl hsz f0
              have hor := HOR.out
              have hsh := HSH.out
              go_wp2_with fail
              go_quiet (fail)
              clear hor hsh
              go_wp2_with fail
              go_roundg (gk - 1)
              case measure => omega
              case rel => exact ⟨j + 1, by omega, by omega, by go_num, by rw [HM2.out], HMM.out, fun i hi => by
                by_cases e : i = j
                · subst e; exact HA2.out
                · exact HLJ.out i (by omega), HW.out _⟩
            · have hle : y ≤ z := by omega
              have HN := Lib.hid (HNO.out (ascT_no hjt (by rw [HA.out, decide_eq_false hzy]; rfl)))
              clear ht
              go_wp2_with fail
              go_quiet ((go_at_call 32; with_reducible exact Calls.quiet_of (l00In_is true y 1 (L : Int) _ HT.out)))
              clear hgt hgt2 hsub0 hsub hsl hsz
              go_wp2_with fail
              go_ret2
              exact saysIB2 HN.out.1.symm HN.out.2.symm (below_drewN HBr.out _)
      · obtain rfl : j = T.length := by omega
        have HAL := Lib.hid (ascT_yes HIN.out HLJ.out)
        have HN := Lib.hid (HYE.out HAL.out)
        have hmn := HMN.out HAL.out
        have HMI : Hid (maskK L T T.length = rowM L T) := Lib.hid rfl
        have HGr : Hid (FmAt wr w.heap.size F) := Lib.hid (by obtain ⟨m, rfl⟩ := HW1.out; exact HG.out.drewN m)
        rw [HMI.out] at hml ⊢
        generalize rowM L T = M at hml hmn HN
        have hpow := HP.out
        obtain ⟨W, rfl⟩ : ∃ x : World, x = wr := ⟨_, rfl⟩
        have HCLe := Lib.hid (fun k => cntN_le L F.cs M k)
        have HRL := Lib.hid (fun k => seenR_len L F.cs M N k)
        go_wp2_with (at_make; refine wpList_make_full _ rfl _ _ 23 rfl W.heap.size 4 i0 (.bool false) 1 Try.underlying23 hi hz0 hz1 _ _ _ _ N rfl rfl rfl rfl (by rw [hz2]; omega) (by unfold maxLen; omega) (Nat.le_refl _) ?_; intro w2 hown hgrow; have HA := Lib.hid (show BoolAt W W.heap.size (seenR L F.cs M N 0) w2 from ⟨(Below.refl _ _).grown hgrow (Nat.le_refl _) (fun g hg => by cases hg), (hown.lt _ rfl).2, Nat.le_refl _, by rw [← seenR_zero]; exact Arr.made_b hown⟩); clear hown hgrow)
        go_wp2_with fail
        clear c0 c1
        go_loopg [9, 10] N (fun gk ct i wr => ∃ k : Nat, k ≤ N ∧ gk + k = N ∧ i = .int .i64 k ∧ ct = .int .i64 (cntN L F.cs M k : Nat) ∧ BoolAt W W.heap.size (seenR L F.cs M N k) wr)
        case atStart => exact ⟨0, Nat.zero_le _, by omega, rfl, rfl, HA.out⟩
        case round =>
          clear HA
          obtain ⟨k, hk, hgk, rfl, rfl, hA⟩ := hrel
          have HA := Lib.hid hA
          obtain ⟨c0, c1⟩ := HBXr.out.keep hA.below HBXr.out.lt
          have HGA := Lib.hid (HGr.out.keep hA.below)
          have HBA := Lib.hid (HBr.out.trans (hA.below.mono HBr.out.size))
          have hcl := HCLe.out k
          have hpow := HP.out
          by_cases hkt : k < N
          · obtain ⟨X, hX⟩ : ∃ X, X = k &&& M := ⟨_, rfl⟩
            have hX1 : X < N := by rw [hX]; exact Nat.lt_of_le_of_lt Nat.and_le_left hkt
            have hand := i64_and62 k M (by omega) (by omega)
            rw [← hX] at hand
            obtain ⟨s, hs⟩ : ∃ s, s = seenN L F.cs M k X := ⟨_, rfl⟩
            have r0 : wr.cell? ⟨W.heap.size, X, none⟩ = some (.bool s) := by rw [hA.cell (by rw [HRL.out]; exact hX1), seenR_at hX1, hs]
            have rf : wr.frozen? ⟨W.heap.size, X, none⟩ = false := hA.arr.free X
            have hXi : (X : Int) < (N : Int) := by omega
            cases q : modelB L F.cs k with
            | false =>
              have HQ := Lib.hid q
              have HC := Lib.hid (cntN_no (M := M) q)
              have HR := Lib.hid (seenR_no (M := M) (N := N) q)
              clear hA q hX hs
              go_wp2_with fail
              go_at_call 54; refine (l05Model_at false w.heap.size F L k _ HGA.out o HH.out (by omega) HQ.out).mono ?_; rintro e w' ⟨rfl, m, rfl⟩
              clear c0 c1 r0 rf hand
              go_wp2_with fail
              go_roundg (gk - 1)
              case measure => omega
              case rel => exact ⟨k + 1, by omega, by omega, by go_num, by rw [HC.out], by rw [← HR.out]; exact HA.out.drew m⟩
            | true =>
              have HQ := Lib.hid q
              cases s with
              | true =>
                have HC := Lib.hid (cntN_old (k := k) (by rw [← hX]; exact hs.symm))
                have HR := Lib.hid (seenR_old (N := N) (k := k) (by rw [← hX]; exact hs.symm))
                clear hA q hX hs
                go_wp2_with fail
                go_at_call 54; refine (l05Model_at true w.heap.size F L k _ HGA.out o HH.out (by omega) HQ.out).mono ?_; rintro e w' ⟨rfl, m, rfl⟩
                go_wp2_with fail
                go_roundg (gk - 1)
                case measure => omega
                case rel => exact ⟨k + 1, by omega, by omega, by go_num, by rw [HC.out], by rw [← HR.out]; exact HA.out.drew m⟩
              | false =>
                have HC := Lib.hid (cntN_yes (k := k) q (by rw [← hX]; exact hs.symm))
                have HS : Hid (BoolAt W W.heap.size (seenR L F.cs M N (k + 1)) (wr.setCell ⟨W.heap.size, X, none⟩ (.bool true))) := Lib.hid ((hA.set (i := X) (by rw [HRL.out]; exact hX1) true).to (by rw [hX]; exact seenR_set q))
                clear hA q hX hs
                go_wp2_with fail
                go_at_call 54; refine (l05Model_at true w.heap.size F L k _ HGA.out o HH.out (by omega) HQ.out).mono ?_; rintro e w' ⟨rfl, m, rfl⟩
                go_wp2_with fail
                go_roundg (gk - 1)
                case measure => omega
                case rel => exact ⟨k + 1, by omega, by omega, by go_num, by rw [HC.out]; go_num, HS.out.drew m⟩
          · obtain rfl : k = N := by omega
            clear hA
            go_wp2_with fail
            go_ret2
            exact saysIB2 HN.out.1.symm HN.out.2.symm HBA.out
end Go.Proofs.Ytaghnkmcnomegaa
