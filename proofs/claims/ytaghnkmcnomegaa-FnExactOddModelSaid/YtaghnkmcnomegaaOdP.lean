/- Odd and even rows: the program's side. -/
import Derived.Test.YtaghnkmcnomegaaVa
import Derived.Test.YtaghnkmcnomegaaAny
import Derived.Test.YtaghnkmcnomegaaCnt2
import Derived.Test.YtaghnkmcnomegaaOd0
import Derived.Test.YtaghnkmcnomegaaIxOd
import Derived.WalkMore
namespace Go.Proofs.Ytaghnkmcnomegaa
open Go.RowKit Go.ChangeShapes Go.WideShapes

def odL (n : Int) (R : List (List Int)) (O : List Bool) : List Bool := match odF n R O with
  | none => []
  | some x => valsB n.toNat x
def odT (n : Int) (R : List (List Int)) (O : List Bool) : Bool := (odF n R O).isSome
theorem od_none {n : Int} {R : List (List Int)} {O : List Bool} (h : odF n R O = none) : odL n R O = [] ∧ odT n R O = false := by unfold odL odT; rw [h]; exact ⟨rfl, rfl⟩
theorem od_some {n : Int} {R : List (List Int)} {O : List Bool} {x : Nat} (h : odF n R O = some x) : odL n R O = valsB n.toNat x ∧ odT n R O = true := by unfold odL odT; rw [h]; exact ⟨rfl, rfl⟩
theorem odL_len (n : Int) (R : List (List Int)) (O : List Bool) : (odL n R O).length ≤ 1048576 := by
  unfold odL
  cases h : odF n R O with
  | none => simp
  | some x =>
    have hb : odB n R O = true := by
      cases hq : odB n R O with
      | true => rfl
      | false => rw [odF_no hq] at h; cases h
    unfold odB at hb
    rw [Bool.and_eq_true] at hb
    have := inB_ok hb.1
    show (valsB n.toNat x).length ≤ _
    unfold valsB
    rw [valK_len]
    omega
theorem odCl_any (n : Int) (B : Nat) (u : Value) (c : List Int) (w : World) (hu : IL w u c) (hB : w.cell? ⟨B, 0, none⟩ = some (.int .i64 n)) (hn : c.length ≤ 1048576) :
    Calls Try.prog 34 #[u, .pointer (some ⟨B, 0, none⟩)] w (Says (rowP n c) w) := by
  have HU := Lib.hid hu
  obtain ⟨ao, cap, rfl⟩ := hu.long
  have HR : Hid (rowP n c = !alB n c) := Lib.hid rfl
  clear hu
  go_enter Try.func34, Try.ntmps34
  go_wp2_with fail
  go_at_call 35; refine (areLetters_any n _ c _ HU.out hn).mono ?_; rintro e w1 ⟨rfl, m, rfl⟩
  go_wp2_with fail
  go_ret
  exact says HR.out.symm (below_drewN (Below.refl _ _) _)
theorem fit1_def (L : Nat) (R : List (List Int)) (O : List Bool) (q k : Nat) : fit1 L R O q k = (parB (q &&& rowM L (R.getD k [])) == O.getD k false) := rfl
attribute [local irreducible] pop popN fit1 fitB
theorem par_rem (q : Nat) (h : q ≤ 64) : ∃ r : Nat, IntKind.i64.wrap (Int.tmod (q : Int) 2) = (r : Int) ∧ Int.tmod (q : Int) 2 = (r : Int) ∧ r < 2 ∧ ((r : Int) == 1) = decide (q % 2 = 1) := by
  have h1 : Int.tmod (q : Int) 2 = ((q % 2 : Nat) : Int) := by rw [Int.tmod_eq_emod_of_nonneg (by omega)]; simp
  refine ⟨q % 2, by rw [h1]; exact IntWalk.i64_in _ (by omega), h1, Nat.mod_lt _ (by omega), ?_⟩
  by_cases e : q % 2 = 1
  · rw [e]; rfl
  · rw [decide_eq_false e]
    exact beq_false_of_ne (by omega)
set_option maxRecDepth 100000 in
set_option maxHeartbeats 8000000 in
theorem implOddModel_any (n : Int) (v : Value) (R : List (List Int)) (u : Value) (O : List Bool) (w : World) (hv : LV w v R) (hu : BL w u O) (_ : -9223372036854775808 ≤ n ∧ n ≤ 9223372036854775807) (oR : OKL R) (oO : OKB O) :
    Calls Try.prog 11 #[.int .i64 n, v, u] w (SaysBB (odL n R O) (odT n R O) w) := by
  have hnR := oR.len
  have hnO := oO.size
  have OR := Lib.hid oR
  have HR := Lib.hid (fun wx (hb : Below w.heap.size w wx) => hv.below hb (Nat.le_refl _))
  have HO := Lib.hid (fun wx (hb : Below w.heap.size w wx) => BL.below hu hb (Nat.le_refl _))
  have hb0 := Lib.hid (fun o => below_alloc w o)
  obtain ⟨ao, cap, rfl⟩ := hv.long
  obtain ⟨au, cu, rfl⟩ := hu.long
  clear hv hu
  have HB0 : Hid (∀ m, Below w.heap.size w ((w.alloc (.cells #[.int .i64 n] 2)).drewN m)) := Lib.hid fun m => below_drewN (below_alloc w _) m
  cases h1 : inB n 1 10 with
  | false =>
    have HN := Lib.hid (od_none (odF_no (odB_1 (R := R) (O := O) h1)))
    have H1 := Lib.hid (show (decide (1 ≤ n) && decide (n ≤ 10)) = false from h1)
    clear h1
    go_enter Try.func11, Try.ntmps11
    go_wp2_with fail
    go_step3
    go_wp2_with fail
    go_at_call 36; refine (isFrom_is false n 1 10 _ H1.out).mono ?_; rintro e w' ⟨rfl, m, rfl⟩
    go_wp2_with fail
    go_ret2
    exact saysBB HN.out.1.symm HN.out.2.symm bi_nil (HB0.out _)
  | true =>
    have H1 := Lib.hid (show (decide (1 ≤ n) && decide (n ≤ 10)) = true from h1)
    by_cases h2 : R.length ≤ 48
    · have h2i : ¬ (48 : Int) < (R.length : Int) := by omega
      by_cases h3 : O.length = R.length
      · have h3i : ((O.length : Int) != (R.length : Int)) = false := by simp; omega
        cases h4 : anyP (rowP n) R with
        | true =>
          have HN := Lib.hid (od_none (odF_no (odB_4 (O := O) h4)))
          have H4 := Lib.hid h4
          clear h1 h4 h3
          go_enter Try.func11, Try.ntmps11
          go_wp2_with fail
          go_step3
          go_wp2_with fail
          go_at_call 36; refine (isFrom_is true n 1 10 _ H1.out).mono ?_; rintro e w' ⟨rfl, m, rfl⟩
          go_wp2_with fail
          go_at_call 37; refine (ctOd_any (rowP n) w.heap.size _ R _ (HR.out _ (HB0.out _)) hnR (fun k u w' _ hb hu => odCl_any n w.heap.size u _ w' hu (keep_cell (World.cell?_alloc_new w _ _ 0) ((below_drewN (Below.refl _ _) m).trans hb) (by simp)) (OR.out.short k))).mono ?_; rintro e w2 ⟨rfl, b2⟩
          rw [H4.out]
          have HB := Lib.hid ((HB0.out _).trans (b2.mono (HB0.out _).size))
          clear b2
          go_wp2_with fail
          go_ret2
          exact saysBB HN.out.1.symm HN.out.2.symm bi_nil HB.out
        | false =>
          have OD := odB_ok h1 h2 h3 h4
          have HF := Lib.hid (odF_yes (odB_y h1 h2 h3 h4))
          have H4 := Lib.hid h4
          obtain ⟨L, hL⟩ : ∃ L : Nat, n = (L : Int) := ⟨n.toNat, by have := OD.n1; omega⟩
          subst hL
          have HOD := Lib.hid OD
          have hL2 : L ≤ 10 := by have := OD.n2; omega
          have hL1 : 1 ≤ L := by have := OD.n1; omega
          rw [Int.toNat_natCast] at HF
          have hpp := pow10 hL2
          obtain ⟨N, hN⟩ : ∃ N, N = 2 ^ L := ⟨_, rfl⟩
          have HMK : Hid (∀ k, k < R.length → plainK L (R.getD k []) (R.getD k []).length = rowM L (R.getD k []) ∧ rowM L (R.getD k []) < 1024) := Lib.hid fun k hk => by
            have ha := OD.row k hk
            have h5 := mask_lt ha _ (Nat.le_refl _)
            rw [Int.toNat_natCast] at h5
            have h6 := mask_plain L ha _ (Nat.le_refl _)
            exact ⟨h6, by unfold rowM; omega⟩
          have HF1 : Hid (∀ q k, fit1 L R O q k = (parB (q &&& rowM L (R.getD k [])) == O.getD k false)) := Lib.hid fun q k => fit1_def L R O q k
          rw [← hN] at HF hpp
          have HNP := Lib.hid hN
          clear h1 h4 OD hN
          obtain ⟨p1, p2⟩ := hpp
          go_enter Try.func11, Try.ntmps11
          go_wp2_with fail
          go_step3
          go_wp2_with fail
          go_at_call 36; refine (isFrom_is true (L : Int) 1 10 _ H1.out).mono ?_; rintro e w' ⟨rfl, m, rfl⟩
          go_wp2_with fail
          go_at_call 37; refine (ctOd_any (rowP (L : Int)) w.heap.size _ R _ (HR.out _ (HB0.out _)) hnR (fun k u w' _ hb hu => odCl_any (L : Int) w.heap.size u _ w' hu (keep_cell (World.cell?_alloc_new w _ _ 0) ((below_drewN (Below.refl _ _) m).trans hb) (by simp)) (OR.out.short k))).mono ?_; rintro e w2 ⟨rfl, b2⟩
          rw [H4.out]
          have HB := Lib.hid ((HB0.out _).trans (b2.mono (HB0.out _).size))
          have HBX : Hid (w2.cell? ⟨w.heap.size, 0, none⟩ = some (.int .i64 (L : Int))) := Lib.hid (keep_cell (World.cell?_alloc_new w _ _ 0) ((below_drewN (Below.refl _ _) m).trans b2) (by simp))
          have c0 := HBX.out
          clear b2
          go_wp2_with fail
          go_step3
          go_wp2_with fail
          go_at_call 38; refine (countOfValues_is (L : Int) L _ rfl hL2).mono ?_; rintro e w' ⟨rfl, rfl⟩
          rw [← HNP.out]
          obtain ⟨ax, cx, hsl, hcl⟩ := (HR.out _ HB.out).any
          obtain ⟨rfl, -, rfl⟩ : ao = ax ∧ True ∧ cap = cx := by simpa using hsl
          obtain ⟨ay, cy, hsy, hcy⟩ := (HO.out _ HB.out).any
          obtain ⟨rfl, -, rfl⟩ : au = ay ∧ True ∧ cu = cy := by simpa using hsy
          have HCR := Lib.hid hcl
          have HCO := Lib.hid hcy
          clear hsl hcl hsy hcy c0
          go_wp2_with fail
          try (go_step3; go_wp2_with fail)
          go_loopg [37] N (fun gk i wr => ∃ k : Nat, k ≤ N ∧ gk + k = N ∧ i = .int .i64 k ∧ fstN (fitB L R O) k = none ∧ ∃ m, wr = w2.drewN m)
          case atStart => exact ⟨0, Nat.zero_le _, by omega, rfl, rfl, 0, rfl⟩
          case round =>
            obtain ⟨k, hk, hgk, rfl, h0, hwr⟩ := hrel
            have HE := Lib.hid h0
            have HW0 := Lib.hid hwr
            clear h0 hwr
            by_cases hlt : k < N
            · go_wp2_with fail
              obtain ⟨wo, rfl⟩ : ∃ x : World, x = wr := ⟨_, rfl⟩
              obtain ⟨g0, rfl⟩ : ∃ x : Nat, x = gk := ⟨_, rfl⟩
              go_loopg [42] R.length (fun gk i w' => ∃ j : Nat, j ≤ R.length ∧ gk + j = R.length ∧ i = .int .i64 j ∧ (∀ i, i < j → fit1 L R O k i = true) ∧ ∃ m, w' = w2.drewN m)
              case atStart => exact ⟨0, Nat.zero_le _, by omega, rfl, fun i hi => by omega, HW0.out⟩
              case round =>
                obtain ⟨j, hj, hgj, rfl, hall, hwr⟩ := hrel
                have HL := Lib.hid hall
                have HW := Lib.hid (drewM hwr)
                have HW1 := Lib.hid hwr
                have c0 : wr.cell? ⟨w.heap.size, 0, none⟩ = some (.int .i64 (L : Int)) := by obtain ⟨m, rfl⟩ := hwr; exact HBX.out
                by_cases hjt : j < R.length
                · obtain ⟨b, off, x, hao, hbl, d0', hx⟩ := HCR.out j hjt
                  obtain ⟨bo, oo, hau, hbo, e0'⟩ := HCO.out j (by omega)
                  subst hao hau
                  have d0 : wr.cell? ⟨b, off + j, none⟩ = some x := by obtain ⟨m, rfl⟩ := hwr; exact d0'
                  have e0 : wr.cell? ⟨bo, oo + j, none⟩ = some (.bool (O.getD j false)) := by obtain ⟨m, rfl⟩ := hwr; exact e0'
                  have HX : Hid (IL wr x (R.getD j [])) := Lib.hid (by obtain ⟨m, rfl⟩ := hwr; exact hx)
                  have HAL := Lib.hid (HOD.out.row j hjt)
                  obtain ⟨mk1, mk2⟩ := HMK.out j hjt
                  have HMP := Lib.hid mk1
                  have hf1 := HF1.out k j
                  generalize rowM L (R.getD j []) = M at mk2 HMP hf1
                  have hand := i64_and62 k M (by omega) (by omega)
                  obtain ⟨A, hA⟩ : ∃ A, A = k &&& M := ⟨_, rfl⟩
                  have hA1 : A ≤ k := by rw [hA]; exact Nat.and_le_left
                  rw [← hA] at hand hf1
                  have hpo := pop_le A
                  obtain ⟨r, r1, r2, r3, r4⟩ := par_rem (pop A) (by omega)
                  have HPB : Hid (parB A = decide (pop A % 2 = 1)) := Lib.hid rfl
                  obtain ⟨o, ho⟩ : ∃ o, o = O.getD j false := ⟨_, rfl⟩
                  rw [← ho] at e0 hf1
                  obtain ⟨t, ht⟩ : ∃ t, t = decide (pop A % 2 = 1) := ⟨_, rfl⟩
                  rw [← ht] at r4
                  have HFT : Hid (fit1 L R O k j = (t == o)) := Lib.hid (by rw [hf1, HPB.out, ht])
                  have HPA : Hid (∀ W : World, Calls Try.prog 40 #[.int .i64 (A : Int)] W (fun e w' => e = .returned (.int .i64 (pop A)) ∧ w' = W)) := Lib.hid fun W => (countIn_any A W (by omega)).mono fun _ _ ⟨q1, q2⟩ => ⟨q1, q2.symm⟩
                  generalize pop A = pa at r1 r2 hpo HPA
                  have R1 := Lib.hid r1
                  have R2 := Lib.hid r2
                  have R4 := Lib.hid r4
                  have HAND := Lib.hid hand
                  clear hwr d0' e0' hx mk1 hf1 hA ho ht hall r1 r2 r4 hand
                  cases t with
                  | true =>
                    cases o with
                    | true =>
                      have HFF : Hid (fit1 L R O k j = true) := Lib.hid (HFT.out.trans rfl)
                      go_wp2_with fail
                      go_at_call 39; refine (digitsOf_any (L : Int) x (R.getD j []) _ HX.out (OR.out.short j) (by omega) (by omega) (fun i hi => HAL.out.ltr hi)).mono ?_; rintro e w' ⟨rfl, rfl⟩
                      rw [Int.toNat_natCast, HMP.out]
                      generalize turnK L (R.getD j []) (R.getD j []).length = T
                      go_wp2_with fail
                      have r1 := R1.out
                      have r2 := R2.out
                      have r4 := R4.out
                      have hand := HAND.out
                      go_quiet ((go_at_call 40; with_reducible exact Calls.quiet_of_same (HPA.out _)))
                      clear c0 d0 e0 r1 r2 r4 hand r3 hpo hA1 mk2 HPA HMP
                      go_wp2_with fail
                      go_roundg (gk - 1)
                      case measure => omega
                      case rel => exact ⟨j + 1, by omega, by omega, by go_num, fun i hi => by
                        by_cases e : i = j
                        · subst e; exact HFF.out
                        · exact HL.out i (by omega), HW.out _⟩
                    | false =>
                      have HFF : Hid (fitB L R O k = false) := Lib.hid (fit_no hjt (HFT.out.trans rfl))
                      go_wp2_with fail
                      go_at_call 39; refine (digitsOf_any (L : Int) x (R.getD j []) _ HX.out (OR.out.short j) (by omega) (by omega) (fun i hi => HAL.out.ltr hi)).mono ?_; rintro e w' ⟨rfl, rfl⟩
                      rw [Int.toNat_natCast, HMP.out]
                      generalize turnK L (R.getD j []) (R.getD j []).length = T
                      go_wp2_with fail
                      have r1 := R1.out
                      have r2 := R2.out
                      have r4 := R4.out
                      have hand := HAND.out
                      go_quiet ((go_at_call 40; with_reducible exact Calls.quiet_of_same (HPA.out _)))
                      clear c0 d0 e0 r1 r2 r4 hand r3 hpo hA1 mk2 HPA HMP
                      go_wp2_with fail
                      go_roundg (g0 - 1)
                      case measure => omega
                      case rel => exact ⟨k + 1, by omega, by omega, by go_num, fstN_miss HE.out HFF.out, HW.out _⟩
                  | false =>
                    cases o with
                    | true =>
                      have HFF : Hid (fitB L R O k = false) := Lib.hid (fit_no hjt (HFT.out.trans rfl))
                      go_wp2_with fail
                      go_at_call 39; refine (digitsOf_any (L : Int) x (R.getD j []) _ HX.out (OR.out.short j) (by omega) (by omega) (fun i hi => HAL.out.ltr hi)).mono ?_; rintro e w' ⟨rfl, rfl⟩
                      rw [Int.toNat_natCast, HMP.out]
                      generalize turnK L (R.getD j []) (R.getD j []).length = T
                      go_wp2_with fail
                      have r1 := R1.out
                      have r2 := R2.out
                      have r4 := R4.out
                      have hand := HAND.out
                      go_quiet ((go_at_call 40; with_reducible exact Calls.quiet_of_same (HPA.out _)))
                      clear c0 d0 e0 r1 r2 r4 hand r3 hpo hA1 mk2 HPA HMP
                      go_wp2_with fail
                      go_roundg (g0 - 1)
                      case measure => omega
                      case rel => exact ⟨k + 1, by omega, by omega, by go_num, fstN_miss HE.out HFF.out, HW.out _⟩
                    | false =>
                      have HFF : Hid (fit1 L R O k j = true) := Lib.hid (HFT.out.trans rfl)
                      go_wp2_with fail
                      go_at_call 39; refine (digitsOf_any (L : Int) x (R.getD j []) _ HX.out (OR.out.short j) (by omega) (by omega) (fun i hi => HAL.out.ltr hi)).mono ?_; rintro e w' ⟨rfl, rfl⟩
                      rw [Int.toNat_natCast, HMP.out]
                      generalize turnK L (R.getD j []) (R.getD j []).length = T
                      go_wp2_with fail
                      have r1 := R1.out
                      have r2 := R2.out
                      have r4 := R4.out
                      have hand := HAND.out
                      go_quiet ((go_at_call 40; with_reducible exact Calls.quiet_of_same (HPA.out _)))
                      clear c0 d0 e0 r1 r2 r4 hand r3 hpo hA1 mk2 HPA HMP
                      go_wp2_with fail
                      go_roundg (gk - 1)
                      case measure => omega
                      case rel => exact ⟨j + 1, by omega, by omega, by go_num, fun i hi => by
                        by_cases e : i = j
                        · subst e; exact HFF.out
                        · exact HL.out i (by omega), HW.out _⟩
                · obtain rfl : j = R.length := by omega
                  have HFF : Hid (fitB L R O k = true) := Lib.hid (fit_yes HL.out)
                  have HBW : Hid (Below w.heap.size w wr) := Lib.hid (by obtain ⟨m, rfl⟩ := hwr; exact below_drewN HB.out m)
                  have HN : Hid (odL (L : Int) R O = valsB L k ∧ odT (L : Int) R O = true) := Lib.hid (by
                    have := od_some (HF.out.trans (fstN_hit HE.out HFF.out N hlt))
                    rw [Int.toNat_natCast] at this
                    exact this)
                  have hk2 : k < 1024 := by omega
                  clear hwr hall
                  go_wp2_with fail
                  go_at_call 41; refine (valuesAt_any L k _ hL2 hk2).mono ?_; rintro e w4 ⟨v4, rfl, hi4, b4⟩
                  have H4' := Lib.hid (HBW.out.trans (b4.mono HBW.out.size))
                  have HI4 := Lib.hid (SI.wide hi4 HBW.out.size (Nat.le_refl _) (Nat.le_refl _))
                  clear b4 hi4
                  go_wp2_with fail
                  go_ret2
                  exact saysBB HN.out.1.symm HN.out.2.symm HI4.out H4'.out
            · obtain rfl : k = N := by omega
              have HN := Lib.hid (od_none (HF.out.trans HE.out))
              have HBW : Hid (Below w.heap.size w wr) := Lib.hid (by obtain ⟨m, rfl⟩ := HW0.out; exact below_drewN HB.out m)
              go_wp2_with fail
              go_ret2
              exact saysBB HN.out.1.symm HN.out.2.symm bi_nil HBW.out
      · have HN := Lib.hid (od_none (odF_no (odB_3 (n := n) h3)))
        have h3i : ((O.length : Int) != (R.length : Int)) = true := by simp; omega
        clear h1 h3
        go_enter Try.func11, Try.ntmps11
        go_wp2_with fail
        go_step3
        go_wp2_with fail
        go_at_call 36; refine (isFrom_is true n 1 10 _ H1.out).mono ?_; rintro e w' ⟨rfl, m, rfl⟩
        go_wp2_with fail
        go_ret2
        exact saysBB HN.out.1.symm HN.out.2.symm bi_nil (HB0.out _)
    · have HN := Lib.hid (od_none (odF_no (odB_2 (n := n) (O := O) h2)))
      have h2i : (48 : Int) < (R.length : Int) := by omega
      clear h1
      go_enter Try.func11, Try.ntmps11
      go_wp2_with fail
      go_step3
      go_wp2_with fail
      go_at_call 36; refine (isFrom_is true n 1 10 _ H1.out).mono ?_; rintro e w' ⟨rfl, m, rfl⟩
      go_wp2_with fail
      go_ret2
      exact saysBB HN.out.1.symm HN.out.2.symm bi_nil (HB0.out _)
end Go.Proofs.Ytaghnkmcnomegaa
