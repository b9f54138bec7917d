/- Odd and even rows: the model's side. -/
import Derived.Test.YtaghnkmcnomegaaOdP
namespace Go.Proofs.Ytaghnkmcnomegaa
open Go.RowKit Go.ChangeShapes Go.WideShapes

theorem asc_no {n : Int} {c : List Int} {k : Nat} (hk : k < c.length) (h : asc1 n c k = false) : rowP n c = true := by unfold rowP; rw [alB_step hk h]; rfl
theorem asc_yes {n : Int} {c : List Int} (h1 : inB n 1 10 = true) (h : ∀ j, j < c.length → asc1 n c j = true) : rowP n c = false := by unfold rowP; rw [alB_end h, h1]; rfl
/-- The masks of the first k rows. -/
def mskL (L : Nat) (R : List (List Int)) (k : Nat) : List Int := (List.range k).map fun i => ((rowM L (R.getD i []) : Nat) : Int)
theorem mskL_len (L : Nat) (R : List (List Int)) (k : Nat) : (mskL L R k).length = k := by simp [mskL]
theorem mskL_up (L : Nat) (R : List (List Int)) (k : Nat) : mskL L R (k + 1) = mskL L R k ++ [((rowM L (R.getD k []) : Nat) : Int)] := by
  unfold mskL
  rw [List.range_succ, List.map_append]; rfl
theorem mskL_at {L : Nat} {R : List (List Int)} {k i : Nat} (h : i < k) : (mskL L R k).getD i 0 = ((rowM L (R.getD i []) : Nat) : Int) := by simp [mskL, List.getD, h]
/-- Are the first j rows fit? -/
def fitK (L : Nat) (R : List (List Int)) (O : List Bool) (n j : Nat) : Bool := (List.range j).all (fit1 L R O n)
theorem fitK_up (L : Nat) (R : List (List Int)) (O : List Bool) (n j : Nat) : fitK L R O n (j + 1) = (fitK L R O n j && fit1 L R O n j) := by
  unfold fitK
  rw [List.range_succ, List.all_append]
  simp
theorem popN_zero' (k : Nat) : popN k 0 = 0 := by
  induction k with
  | zero => rfl
  | succ k ih => show 0 % 2 + popN k (0 / 2) = 0; rw [show 0 / 2 = 0 by decide, ih]
theorem popN_up (k y : Nat) : popN (k + 1) y = y % 2 + popN k (y / 2) := rfl
theorem fitK_zero (L : Nat) (R : List (List Int)) (O : List Bool) (n : Nat) : fitK L R O n 0 = true := rfl
theorem fitB_K (L : Nat) (R : List (List Int)) (O : List Bool) (n : Nat) : fitB L R O n = fitK L R O n R.length := rfl
attribute [local irreducible] pop popN fit1 fitB fitK
theorem par_rem2 (q : Nat) (h : q ≤ 1048576) : ∃ r : Nat, IntKind.i64.wrap (Int.tmod (q : Int) 2) = (r : Int) ∧ Int.tmod (q : Int) 2 = (r : Int) ∧ r < 2 ∧ r = q % 2 := by
  have h1 : Int.tmod (q : Int) 2 = ((q % 2 : Nat) : Int) := by rw [Int.tmod_eq_emod_of_nonneg (by omega)]; simp
  exact ⟨q % 2, by rw [h1]; exact IntWalk.i64_in _ (by omega), h1, Nat.mod_lt _ (by omega), rfl⟩
theorem fitN_step {p : Nat → Bool} {k : Nat} (h0 : fstN p k = none) (hp : p k = false) : fstN p (k + 1) = none := fstN_miss h0 hp
set_option maxRecDepth 100000 in
set_option maxHeartbeats 16000000 in
theorem specOddModel_any (n : Int) (v : Value) (R : List (List Int)) (u : Value) (O : List Bool) (w : World) (hv : LV w v R) (hu : BL w u O) (hn64 : -9223372036854775808 ≤ n ∧ n ≤ 9223372036854775807) (oR : OKL R) (oO : OKB O) :
    Calls Try.prog 8 #[.int .i64 n, v, u] w (SaysBB (odL n R O) (odT n R O) w) := by
  obtain ⟨i0, hi, hz0, hz1, hz2⟩ := info_parts Try.infoI
  have hnR := oR.len
  have hnO := oO.size
  have OR := Lib.hid oR
  obtain ⟨ao, cap, rfl, hcl⟩ := hv.any
  obtain ⟨au, cu, rfl, hcy⟩ := hu.any
  have HCR := Lib.hid hcl
  have HCO := Lib.hid hcy
  clear hv hu hcl hcy
  cases h1 : inB n 1 10 with
  | false =>
    have HN := Lib.hid (od_none (odF_no (odB_1 (R := R) (O := O) h1)))
    have H1 := Lib.hid h1
    clear h1
    go_enter Try.func8, Try.ntmps8
    go_wp2_with fail
    go_at_call 31; refine (l05Letters_is n false _ H1.out).mono ?_; rintro e w' ⟨rfl, m, rfl⟩
    go_wp2_with fail
    go_ret2
    exact saysBB HN.out.1.symm HN.out.2.symm bi_nil (below_drewN (Below.refl _ _) _)
  | true =>
    have H1 := Lib.hid h1
    by_cases h2 : R.length ≤ 48
    · have h2i : ¬ (48 : Int) < (R.length : Int) := by omega
      by_cases h3 : O.length = R.length
      · have h3i : ((O.length : Int) != (R.length : Int)) = false := by simp; omega
        have hn10 := inB_ok h1
        obtain ⟨L, hL⟩ : ∃ L : Nat, n = (L : Int) := ⟨n.toNat, by omega⟩
        subst hL
        have hL2 : L ≤ 10 := by omega
        have hL1 : 1 ≤ L := by omega
        have hpp := pow10 hL2
        obtain ⟨N, hN⟩ : ∃ N, N = 2 ^ L := ⟨_, rfl⟩
        have HFY : Hid (anyP (rowP (L : Int)) R = false → odF (L : Int) R O = fstN (fitB L R O) N) := Lib.hid fun h4 => by
          have := odF_yes (odB_y h1 h2 h3 h4)
          rw [Int.toNat_natCast, ← hN] at this
          exact this
        have HFN : Hid (anyP (rowP (L : Int)) R = true → odL (L : Int) R O = [] ∧ odT (L : Int) R O = false) := Lib.hid fun h4 => od_none (odF_no (odB_4 h4))
        have HAL : Hid (∀ k, k < R.length → rowP (L : Int) (R.getD k []) = false → AlOk (L : Int) (R.getD k [])) := Lib.hid fun k _ hr => alB_ok (by unfold rowP at hr; simpa using hr)
        have HP : Hid ((2 : Int) ^ L = (N : Int)) := Lib.hid (by rw [hN, pow_cast])
        have HH1 := Lib.hid h1
        rw [← hN] at hpp
        obtain ⟨p1, p2⟩ := hpp
        have HNP := Lib.hid hN
        have HO3 := Lib.hid h3
        clear h1 hN h3 hn64
        go_enter Try.func8, Try.ntmps8
        go_wp2_with fail
        go_at_call 31; refine (l05Letters_is (L : Int) true _ H1.out).mono ?_; rintro e w' ⟨rfl, m, rfl⟩
        go_wp2_with fail
        go_loopg [8, 35] R.length (fun gk mv i wr => ∃ k : Nat, k ≤ R.length ∧ gk + k = R.length ∧ i = .int .i64 k ∧ (∀ j, j < k → rowP (L : Int) (R.getD j []) = false) ∧ Below w.heap.size w wr ∧ Grows (Value.int .i64) 2 w.heap.size mv (mskL L R k) wr)
        case atStart => exact ⟨0, Nat.zero_le _, by omega, rfl, fun j hj => by omega, (below_drewN (Below.refl w.heap.size w) m).alloc (Nat.le_refl _) _, Grows.empty _ _ _ _ (Nat.le_refl _)⟩
        case round =>
          obtain ⟨k, hk, hgk, rfl, hall, hB, hG⟩ := hrel
          have HL := Lib.hid hall
          have HB := Lib.hid hB
          have HG := Lib.hid hG
          clear hall
          by_cases hlt : k < R.length
          · obtain ⟨b, off, x, hao, hbl, d0', hx⟩ := HCR.out k hlt
            subst hao
            have d0 : wr.cell? ⟨b, off + k, none⟩ = some x := by rw [hB.cell (p := ⟨b, off + k, none⟩) hbl]; exact d0'
            obtain ⟨ax, cx, rfl, hcx⟩ := (hx.below hB (Nat.le_refl _)).any
            have HCX := Lib.hid hcx
            have hcn := OR.out.short k
            obtain ⟨c, hc⟩ : ∃ c, c = R.getD k [] := ⟨_, rfl⟩
            rw [← hc] at hcn HCX d0
            have HCC := Lib.hid hc
            have D0 := Lib.hid d0
            have HIN := Lib.hid (fun i => OR.out.in k i)
            rw [← hc] at HIN
            clear hB hG hx hcx d0' hc
            go_wp2_with fail
            clear d0
            obtain ⟨w0, rfl⟩ : ∃ x : World, x = wr := ⟨_, rfl⟩
            obtain ⟨g0, rfl⟩ : ∃ x : Nat, x = gk := ⟨_, rfl⟩
            go_loopg [10, 43] c.length (fun gk mk i w' => ∃ j : Nat, j ≤ c.length ∧ gk + j = c.length ∧ i = .int .i64 j ∧ mk = .int .i64 (maskK L c j : Nat) ∧ maskK L c j < 1024 ∧ (∀ i, i < j → asc1 (L : Int) c i = true) ∧ ∃ m, w' = w0.drewN m)
            case atStart => exact ⟨0, Nat.zero_le _, by omega, rfl, rfl, by show 0 < 1024; omega, fun i hi => by omega, 0, rfl⟩
            case round =>
              obtain ⟨j, hj, hgj, rfl, rfl, hml, hall, hwr⟩ := hrel
              have HLJ := Lib.hid hall
              have HW := Lib.hid (drewM hwr)
              have HW1 := Lib.hid hwr
              have d0 : wr.cell? ⟨b, off + k, none⟩ = some (.slice ax c.length cx) := by obtain ⟨m, rfl⟩ := hwr; exact D0.out
              clear hall
              by_cases hjt : j < c.length
              · obtain ⟨b2, off2, hau, hbl2, e0'⟩ := HCX.out j hjt
                subst hau
                have e0 : wr.cell? ⟨b2, off2 + j, none⟩ = some (.int .i64 (c.getD j 0)) := by obtain ⟨m, rfl⟩ := hwr; exact e0'
                obtain ⟨y, hy⟩ : ∃ y, y = c.getD j 0 := ⟨_, rfl⟩
                obtain ⟨t, ht⟩ : ∃ t, t = inB y 1 (L : Int) := ⟨_, rfl⟩
                have HT := Lib.hid (show (decide (1 ≤ y) && decide (y ≤ (L : Int))) = t from ht.symm)
                rw [← hy] at e0
                have HMS : Hid (∀ A : Nat, y = (A : Int) → maskK L c (j + 1) = maskK L c j ||| 2 ^ (L - A)) := Lib.hid fun A hA => by
                  show maskK L c j ||| _ = _
                  rw [← hy, hA, Int.toNat_natCast]
                by_cases hj0 : j = 0
                · subst hj0
                  have HA : Hid (asc1 (L : Int) c 0 = t) := Lib.hid (by unfold asc1; rw [← hy, ← ht]; simp)
                  rw [Nat.add_zero] at e0
                  clear e0' hwr hy
                  cases t with
                  | false =>
                    have HN := Lib.hid (HFN.out (anyP_yes hlt (by rw [← HCC.out]; exact asc_no hjt HA.out)))
                    have HBW : Hid (Below w.heap.size w wr) := Lib.hid (by obtain ⟨m, rfl⟩ := HW1.out; exact below_drewN HB.out m)
                    clear ht
                    go_wp2_with fail
                    go_quiet ((go_at_call 32; with_reducible exact Calls.quiet_of (l00In_is false y 1 (L : Int) _ HT.out)))
                    go_wp2_with fail
                    go_ret2
                    exact saysBB HN.out.1.symm HN.out.2.symm bi_nil (below_drewN HBW.out _)
                  | true =>
                    obtain ⟨y1, y2⟩ := inB_ok ht.symm
                    obtain ⟨A, rfl⟩ : ∃ A : Nat, y = (A : Int) := ⟨y.toNat, by omega⟩
                    have hq := pow10 (L := L - A) (by omega)
                    have hsh : IntKind.i64.wrap ((L : Int) - (A : Int)) = ((L - A : Nat) : Int) := by rw [IntWalk.i64_in _ (by omega)]; omega
                    have hpc := pow_cast (L - A)
                    have hm1 := HMS.out A rfl
                    have hor := i64_or62 (maskK L c 0) (2 ^ (L - A)) (by omega) (by omega)
                    rw [← hm1] at hor
                    have hmm : maskK L c 1 < 1024 := by
                      rw [hm1]
                      have : maskK L c 0 ||| 2 ^ (L - A) < 2 ^ 10 := Nat.or_lt_two_pow (by omega) (Nat.pow_lt_pow_right (by omega) (by omega))
                      omega
                    have q1 : (1 : Int) ≤ 2 ^ (L - A) := by rw [← hpc]; omega
                    have q2 : (2 : Int) ^ (L - A) ≤ 1024 := by rw [← hpc]; omega
                    rw [hpc] at hor
                    have HMM := Lib.hid hmm
                    generalize hm2 : maskK L c 1 = M2 at hor
                    have HM2 := Lib.hid hm2
                    generalize maskK L c 0 = M1 at hor hml
                    clear ht hm1 hmm hpc hq hm2
                    go_wp2_with fail
                    go_quiet ((go_at_call 32; with_reducible exact Calls.quiet_of (l00In_is true (A : Int) 1 (L : Int) _ HT.out)))
                    go_wp2_with fail
                    go_roundg (gk - 1)
                    case measure => omega
                    case rel => exact ⟨1, by omega, by omega, by go_num, by rw [HM2.out], HMM.out, fun i hi => by
                      have hi1 : i < 1 := hi
                      obtain rfl : i = 0 := by omega
                      exact HA.out, HW.out _⟩
                · obtain ⟨b3, off3, hau3, hbl3, f0'⟩ := HCX.out (j - 1) (by omega)
                  obtain ⟨rfl, rfl⟩ : b2 = b3 ∧ off2 = off3 := by simpa using hau3
                  have f0 : wr.cell? ⟨b2, off2 + (j - 1), none⟩ = some (.int .i64 (c.getD (j - 1) 0)) := by obtain ⟨m, rfl⟩ := hwr; exact f0'
                  obtain ⟨z, hz⟩ : ∃ z, z = c.getD (j - 1) 0 := ⟨_, rfl⟩
                  rw [← hz] at f0
                  have HA : Hid (asc1 (L : Int) c j = (t && decide (z < y))) := Lib.hid (by unfold asc1; rw [← hy, ← ht, ← hz, decide_eq_false hj0, Bool.false_or])
                  have hgt : decide (0 < j) = true := by simp; omega
                  have hgt2 : decide ((0 : Int) < (j : Int)) = true := by simp; omega
                  have hsub0 : IntKind.i64.wrap ((j : Int) - 1) = (j : Int) - 1 := IntWalk.i64_in _ (by omega)
                  have hsub : ((j : Int) - 1).toNat = j - 1 := by omega
                  have hsl : (j : Int) - 1 < (c.length : Int) := by omega
                  have hsz : (0 : Int) ≤ (j : Int) - 1 := by omega
                  clear e0' f0' hwr hy hz hau3
                  cases t with
                  | false =>
                    have HN := Lib.hid (HFN.out (anyP_yes hlt (by rw [← HCC.out]; exact asc_no hjt HA.out)))
                    have HBW : Hid (Below w.heap.size w wr) := Lib.hid (by obtain ⟨m, rfl⟩ := HW1.out; exact below_drewN HB.out m)
                    clear ht
                    go_wp2_with fail
                    go_quiet ((go_at_call 32; with_reducible exact Calls.quiet_of (l00In_is false y 1 (L : Int) _ HT.out)))
                    clear hgt hgt2 hsub0 hsub hsl hsz
                    go_wp2_with fail
                    go_ret2
                    exact saysBB HN.out.1.symm HN.out.2.symm bi_nil (below_drewN HBW.out _)
                  | true =>
                    by_cases hzy : z < y
                    · have hle : ¬ y ≤ z := by omega
                      have HA2 : Hid (asc1 (L : Int) c j = true) := Lib.hid (by rw [HA.out, decide_eq_true hzy]; rfl)
                      obtain ⟨y1, y2⟩ := inB_ok ht.symm
                      obtain ⟨A, rfl⟩ : ∃ A : Nat, y = (A : Int) := ⟨y.toNat, by omega⟩
                      have hq := pow10 (L := L - A) (by omega)
                      have hsh : IntKind.i64.wrap ((L : Int) - (A : Int)) = ((L - A : Nat) : Int) := by rw [IntWalk.i64_in _ (by omega)]; omega
                      have hpc := pow_cast (L - A)
                      have hm1 := HMS.out A rfl
                      have hor := i64_or62 (maskK L c j) (2 ^ (L - A)) (by omega) (by omega)
                      rw [← hm1] at hor
                      have hmm : maskK L c (j + 1) < 1024 := by
                        rw [hm1]
                        have : maskK L c j ||| 2 ^ (L - A) < 2 ^ 10 := Nat.or_lt_two_pow (by omega) (Nat.pow_lt_pow_right (by omega) (by omega))
                        omega
                      have q1 : (1 : Int) ≤ 2 ^ (L - A) := by rw [← hpc]; omega
                      have q2 : (2 : Int) ^ (L - A) ≤ 1024 := by rw [← hpc]; omega
                      rw [hpc] at hor
                      have HMM := Lib.hid hmm
                      generalize hm2 : maskK L c (j + 1) = M2 at hor
                      have HM2 := Lib.hid hm2
                      generalize maskK L c j = M1 at hor hml
                      have HOR := Lib.hid hor
                      clear ht hm1 hmm hpc hq hm2 hor
                      go_wp2_with fail
                      go_quiet ((go_at_call 32; with_reducible exact Calls.quiet_of (l00In_is true (A : Int) 1 (L : Int) _ HT.out)))
                      clear hgt hgt2 hsub0 hsub hsl hsz f0
                      have hor := HOR.out
                      go_wp2_with fail
                      go_roundg (gk - 1)
                      case measure => omega
                      case rel => exact ⟨j + 1, by omega, by omega, by go_num, by rw [HM2.out], HMM.out, fun i hi => by
                        by_cases e : i = j
                        · subst e; exact HA2.out
                        · exact HLJ.out i (by omega), HW.out _⟩
                    · have hle : y ≤ z := by omega
                      have HN := Lib.hid (HFN.out (anyP_yes hlt (by rw [← HCC.out]; exact asc_no hjt (by rw [HA.out, decide_eq_false hzy]; rfl))))
                      have HBW : Hid (Below w.heap.size w wr) := Lib.hid (by obtain ⟨m, rfl⟩ := HW1.out; exact below_drewN HB.out m)
                      clear ht
                      go_wp2_with fail
                      go_quiet ((go_at_call 32; with_reducible exact Calls.quiet_of (l00In_is true y 1 (L : Int) _ HT.out)))
                      clear hgt hgt2 hsub0 hsub hsl hsz
                      go_wp2_with fail
                      go_ret2
                      exact saysBB HN.out.1.symm HN.out.2.symm bi_nil (below_drewN HBW.out _)
              · obtain rfl : j = c.length := by omega
                have HRF : Hid (rowP (L : Int) (R.getD k []) = false) := Lib.hid (by rw [← HCC.out]; exact asc_yes HH1.out HLJ.out)
                have HUP : Hid (mskL L R (k + 1) = mskL L R k ++ [((maskK L c c.length : Nat) : Int)]) := Lib.hid (by rw [mskL_up, ← HCC.out]; rfl)
                have HML := Lib.hid (mskL_len L R k)
                have HBW : Hid (Below w.heap.size w wr) := Lib.hid (by obtain ⟨m, rfl⟩ := HW1.out; exact below_drewN HB.out m)
                have HGW : Hid (Grows (Value.int .i64) 2 w.heap.size u8 (mskL L R k) wr) := Lib.hid (by obtain ⟨m, rfl⟩ := HW1.out; exact HG.out.drewN m)
                generalize maskK L c c.length = M at hml HUP
                clear hwr d0
                go_wp2_with (at_builtin; refine wpList_append_own _ rfl _ _ 45 rfl w.heap.size 2 i0 (.int .i64 0) 1 8 Try.underlying45 hi hz0 hz1 hz2 rfl (by decide) _ _ _ rfl (Grows.alloc HGW.out _) ⟨wr.heap.size, 0, none⟩ 1 1 [.int .i64 (M : Int)] rfl rfl ?c1 ?c2 ?c3 ?c4 ?c5 ?_)
                case c1 => exact one_new
                case c2 => intro u hu; simp at hu; subst hu; rfl
                case c3 => rw [HML.out]; unfold maxLen; omega
                case c4 => rw [HML.out]; omega
                case c5 => have := HBW.out.size; simp; omega
                intro v' w' hown hgrow _
                have HN2 : Hid (Below w.heap.size w w' ∧ Grows (Value.int .i64) 2 w.heap.size v' (mskL L R (k + 1)) w') := Lib.hid ⟨(HBW.out.alloc HBW.out.size _).grown hgrow (by have := HBW.out.size; simp; omega) (fun g hg => HGW.out.block g hg), by rw [HUP.out]; exact Grows.more (news := [(M : Int)]) rfl hown⟩
                clear hown hgrow
                go_wp2_with fail
                go_roundg (g0 - 1)
                case measure => omega
                case rel => exact ⟨k + 1, by omega, by omega, by go_num, fun j hj => by
                  by_cases e : j = k
                  · subst e; exact HRF.out
                  · exact HL.out j (by omega), HN2.out.1, HN2.out.2⟩
          · obtain rfl : k = R.length := by omega
            have HAP : Hid (anyP (rowP (L : Int)) R = false) := Lib.hid (anyP_no HL.out)
            have HF := Lib.hid (HFY.out HAP.out)
            have HROW : Hid (∀ i, i < R.length → AlOk (L : Int) (R.getD i [])) := Lib.hid fun i hi => HAL.out i hi (HL.out i hi)
            have HRM : Hid (∀ i, i < R.length → rowM L (R.getD i []) < 1024) := Lib.hid fun i hi => by
              have h5 := mask_lt (HROW.out i hi) _ (Nat.le_refl _)
              rw [Int.toNat_natCast, ← HNP.out] at h5
              unfold rowM
              omega
            have hIL : IL wr u8 (mskL L R R.length) := hG.si.vl
            have hml := mskL_len L R R.length
            obtain ⟨am, cm, rfl, hcm⟩ := hIL.any
            rw [hml] at hcm ⊢
            have HCM : Hid (∀ i, i < R.length → ∃ b off, am = some ⟨b, off, none⟩ ∧ b < wr.heap.size ∧ wr.cell? ⟨b, off + i, none⟩ = some (.int .i64 ((rowM L (R.getD i []) : Nat) : Int))) := Lib.hid fun i hi => by
              obtain ⟨b, off, h1, h2, h3⟩ := hcm i hi
              rw [mskL_at hi] at h3
              exact ⟨b, off, h1, h2, h3⟩
            obtain ⟨W, rfl⟩ : ∃ x : World, x = wr := ⟨_, rfl⟩
            have HCOW : Hid (∀ i, i < R.length → ∃ b off, au = some ⟨b, off, none⟩ ∧ b < W.heap.size ∧ W.cell? ⟨b, off + i, none⟩ = some (.bool (O.getD i false))) := Lib.hid fun i hi => by
              obtain ⟨b, off, h1, h2, h3⟩ := HCO.out i (by have := HO3.out; omega)
              exact ⟨b, off, h1, by have := HB.out.size; omega, by rw [HB.out.cell (p := ⟨b, off + i, none⟩) h2]; exact h3⟩
            have hlen3 := HO3.out
            have hpow := HP.out
            clear hB hG hIL hml hcm
            go_wp2_with fail
            go_loopg [12] N (fun gk i wr => ∃ q : Nat, q ≤ N ∧ gk + q = N ∧ i = .int .i64 q ∧ fstN (fitB L R O) q = none ∧ W = wr)
            case atStart => exact ⟨0, Nat.zero_le _, by omega, rfl, rfl, rfl⟩
            case round =>
              obtain ⟨q, hq, hgq, rfl, h0, rfl⟩ := hrel
              have HE := Lib.hid h0
              clear h0
              by_cases hqt : q < N
              · go_wp2_with fail
                obtain ⟨g0, rfl⟩ : ∃ x : Nat, x = gk := ⟨_, rfl⟩
                go_loopg [13, 104] R.length (fun gk ft i wr => ∃ j : Nat, j ≤ R.length ∧ gk + j = R.length ∧ i = .int .i64 j ∧ ft = .bool (fitK L R O q j) ∧ W = wr)
                case atStart => exact ⟨0, Nat.zero_le _, by omega, rfl, by rw [fitK_zero], rfl⟩
                case round =>
                  obtain ⟨j, hj, hgj, rfl, rfl, rfl⟩ := hrel
                  by_cases hjt : j < R.length
                  · obtain ⟨b, off, ham, hbl, d0⟩ := HCM.out j hjt
                    obtain ⟨bo, oo, hau, hbo, e0⟩ := HCOW.out j hjt
                    subst ham hau
                    have hrm := HRM.out j hjt
                    have HF1 := Lib.hid (fit1_def L R O q j)
                    have HFK := Lib.hid (fitK_up L R O q j)
                    generalize rowM L (R.getD j []) = M at d0 hrm HF1
                    have hand := i64_and62 q M (by omega) (by omega)
                    obtain ⟨X, hX⟩ : ∃ X, X = q &&& M := ⟨_, rfl⟩
                    have hX1 : X < 1024 := by rw [hX]; exact Nat.lt_of_le_of_lt Nat.and_le_right hrm
                    rw [← hX] at hand HF1
                    obtain ⟨o, ho⟩ : ∃ o, o = O.getD j false := ⟨_, rfl⟩
                    rw [← ho] at e0 HF1
                    have E0 := Lib.hid e0
                    clear hX ho
                    go_wp2_with fail
                    obtain ⟨g1, rfl⟩ : ∃ x : Nat, x = gk := ⟨_, rfl⟩
                    clear d0 e0 hand
                    go_loopg [15, 16] 16 (fun gk ev xx wr => ∃ (e : Bool) (y : Nat), ev = .bool e ∧ xx = .int .i64 y ∧ y < 2 ^ gk ∧ (e == decide (popN gk y % 2 = 0)) = decide (popN 16 X % 2 = 0) ∧ gk ≤ 16 ∧ W = wr)
                    case atStart => exact ⟨true, X, rfl, rfl, by omega, by simp, by omega, rfl⟩
                    case round =>
                      obtain ⟨e, y, rfl, rfl, hy, hev, hg16, rfl⟩ := hrel
                      have HEV := Lib.hid hev
                      have HY := Lib.hid hy
                      have y1 : y < 65536 := Nat.lt_of_lt_of_le hy (by have : 2 ^ gk ≤ 2 ^ 16 := Nat.pow_le_pow_right (by omega) hg16; simpa using this)
                      clear hy hev
                      by_cases hy0 : y = 0
                      · subst hy0
                        have HEE : Hid (fitK L R O q (j + 1) = (fitK L R O q j && ((!e) == o))) := Lib.hid (by
                          have h1 := HEV.out
                          rw [popN_zero'] at h1
                          rw [HFK.out, HF1.out]
                          unfold parB
                          have h2 : decide (pop X % 2 = 1) = !e := by
                            have h3 : pop X = popN 16 X := by unfold pop; rfl
                            rw [h3]
                            have h4 : e = decide (popN 16 X % 2 = 0) := by simpa using h1
                            rw [h4]
                            by_cases h5 : popN 16 X % 2 = 0
                            · rw [decide_eq_true h5, decide_eq_false (by omega)]; rfl
                            · rw [decide_eq_false h5, decide_eq_true (by omega)]; rfl
                          rw [h2])
                        have e0 := E0.out
                        generalize hf : fitK L R O q j = f at HEE
                        clear hf HF1 HFK HEV HY
                        cases f <;> cases e <;> cases o
                        all_goals
                          go_wp2_with fail
                          go_roundg (g1 - 1)
                          case measure => omega
                          case rel => exact ⟨j + 1, by omega, by omega, by go_num, by rw [HEE.out]; rfl, rfl⟩
                      · obtain ⟨g, rfl⟩ : ∃ g, gk = g + 1 := ⟨gk - 1, by
                          cases gk with
                          | zero => have := HY.out; simp at this; omega
                          | succ g => rfl⟩
                        have hpos : decide ((0 : Int) < (y : Int)) = true := by simp; omega
                        have hpos2 : decide (0 < y) = true := by simp; omega
                        have hyd : y / 2 < 2 ^ g := by have h1 := HY.out; rw [Nat.pow_succ] at h1; omega
                        have hpn := popN_up g y
                        obtain ⟨r, r1, r2, r3, r4⟩ := par_rem2 y (by omega)
                        have hd1 : Int.tdiv (y : Int) 2 = ((y / 2 : Nat) : Int) := by rw [Int.tdiv_eq_ediv_of_nonneg (by omega)]; simp
                        have hd2 : IntKind.i64.wrap (((y / 2 : Nat) : Int)) = ((y / 2 : Nat) : Int) := IntWalk.i64_in _ (by omega)
                        have HYD := Lib.hid hyd
                        have HPN := Lib.hid hpn
                        clear hyd hpn
                        by_cases hr : r = 1
                        · subst hr
                          have HE2 : Hid (((!e) == decide (popN g (y / 2) % 2 = 0)) = decide (popN 16 X % 2 = 0)) := Lib.hid (by
                            rw [← HEV.out, HPN.out]
                            by_cases h5 : popN g (y / 2) % 2 = 0
                            · rw [decide_eq_true h5, decide_eq_false (by omega)]; cases e <;> rfl
                            · rw [decide_eq_false h5, decide_eq_true (by omega)]; cases e <;> rfl)
                          generalize y / 2 = y2 at hd1 hd2 HYD HE2
                          clear r4
                          go_wp2_with fail
                          go_roundg g
                          case measure => omega
                          case rel => exact ⟨!e, y2, rfl, rfl, HYD.out, HE2.out, by omega, rfl⟩
                        · obtain rfl : r = 0 := by omega
                          have HE2 : Hid ((e == decide (popN g (y / 2) % 2 = 0)) = decide (popN 16 X % 2 = 0)) := Lib.hid (by
                            rw [← HEV.out, HPN.out]
                            by_cases h5 : popN g (y / 2) % 2 = 0
                            · rw [decide_eq_true h5, decide_eq_true (by omega)]
                            · rw [decide_eq_false h5, decide_eq_false (by omega)])
                          generalize y / 2 = y2 at hd1 hd2 HYD HE2
                          clear r4
                          go_wp2_with fail
                          go_roundg g
                          case measure => omega
                          case rel => exact ⟨e, y2, rfl, rfl, HYD.out, HE2.out, by omega, rfl⟩
                  · obtain rfl : j = R.length := by omega
                    have HFB : Hid (fitB L R O q = fitK L R O q R.length) := Lib.hid (fitB_K L R O q)
                    generalize hf : fitK L R O q R.length = f at HFB
                    clear hf
                    cases f with
                    | false =>
                      go_wp2_with fail
                      go_roundg (g0 - 1)
                      case measure => omega
                      case rel => exact ⟨q + 1, by omega, by omega, by go_num, fstN_miss HE.out HFB.out, rfl⟩
                    | true =>
                      have HN : Hid (odL (L : Int) R O = valsB L q ∧ odT (L : Int) R O = true) := Lib.hid (by
                        have := od_some (HF.out.trans (fstN_hit HE.out HFB.out N hqt))
                        rw [Int.toNat_natCast] at this
                        exact this)
                      have hk2 : q < 1024 := by omega
                      go_wp2_with fail
                      go_at_call 33; refine (l05Values_any L q _ hL2 hk2).mono ?_; rintro e w4 ⟨v4, rfl, hi4, b4⟩
                      have H4' := Lib.hid (HB.out.trans (b4.mono HB.out.size))
                      have HI4 := Lib.hid (SI.wide hi4 HB.out.size (Nat.le_refl _) (Nat.le_refl _))
                      clear b4 hi4
                      go_wp2_with fail
                      go_ret2
                      exact saysBB HN.out.1.symm HN.out.2.symm HI4.out H4'.out
              · obtain rfl : q = N := by omega
                have HN := Lib.hid (od_none (HF.out.trans HE.out))
                go_wp2_with fail
                go_ret2
                exact saysBB HN.out.1.symm HN.out.2.symm bi_nil HB.out
      · have HN := Lib.hid (od_none (odF_no (odB_3 (n := n) h3)))
        have h3i : ((O.length : Int) != (R.length : Int)) = true := by simp; omega
        clear h1 h3
        go_enter Try.func8, Try.ntmps8
        go_wp2_with fail
        go_at_call 31; refine (l05Letters_is n true _ H1.out).mono ?_; rintro e w' ⟨rfl, m, rfl⟩
        go_wp2_with fail
        go_ret2
        exact saysBB HN.out.1.symm HN.out.2.symm bi_nil (below_drewN (Below.refl _ _) _)
    · have HN := Lib.hid (od_none (odF_no (odB_2 (n := n) (O := O) h2)))
      have h2i : (48 : Int) < (R.length : Int) := by omega
      clear h1
      go_enter Try.func8, Try.ntmps8
      go_wp2_with fail
      go_at_call 31; refine (l05Letters_is n true _ H1.out).mono ?_; rintro e w' ⟨rfl, m, rfl⟩
      go_wp2_with fail
      go_ret2
      exact saysBB HN.out.1.symm HN.out.2.symm bi_nil (below_drewN (Below.refl _ _) _)
end Go.Proofs.Ytaghnkmcnomegaa
