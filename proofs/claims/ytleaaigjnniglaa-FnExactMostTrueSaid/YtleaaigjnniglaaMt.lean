/- How many clauses hold at most: both sides. -/
import Derived.Test.YtleaaigjnniglaaMt0
import Derived.Test.YtleaaigjnniglaaFsM
import Derived.Test.YtleaaigjnniglaaCnt48
namespace Go.Proofs.Ytleaaigjnniglaa
open Go.RowKit Go.ChangeShapes Go.WideShapes

/-- A number, a list of bools and a bool. -/
def SaysIBB (n : Int) (Z : List Bool) (b : Bool) (w : World) (e : Ending) (w' : World) : Prop := ∃ v, e = .returned (.tuple #[.int .i64 n, v, .bool b]) ∧ BI w.heap.size w'.heap.size w' v Z ∧ Below w.heap.size w w'
theorem saysIBB {n m : Int} {Y Z : List Bool} {a b : Bool} {v : Value} {w w' : World} (h0 : n = m) (h : Y = Z) (h2 : a = b) (hb : BI w.heap.size w'.heap.size w' v Y) (k : Below w.heap.size w w') : SaysIBB m Z b w (.returned (.tuple #[.int .i64 n, v, .bool a])) w' := ⟨v, by rw [h0, h2], h ▸ hb, k⟩
def mtI (F : Fm) : Int := if formB F then (F.cs.length : Int) - leastK F.letters.toNat F.cs (2 ^ F.letters.toNat) else 0
def mtL (F : Fm) : List Bool := if formB F then valsB F.letters.toNat (bestK F.letters.toNat F.cs (2 ^ F.letters.toNat)) else []
theorem mt_no {F : Fm} (h : formB F = false) : mtI F = 0 ∧ mtL F = [] := by unfold mtI mtL; rw [h]; exact ⟨rfl, rfl⟩
theorem mt_yes {F : Fm} (h : formB F = true) : mtI F = (F.cs.length : Int) - leastK F.letters.toNat F.cs (2 ^ F.letters.toNat) ∧ mtL F = valsB F.letters.toNat (bestK F.letters.toNat F.cs (2 ^ F.letters.toNat)) := by unfold mtI mtL; rw [h]; exact ⟨rfl, rfl⟩
theorem mtL_len (F : Fm) : (mtL F).length ≤ 1048576 := by
  unfold mtL
  split
  · rename_i h
    have h2 := (formB_ok h).num.L2
    unfold valsB
    rw [valK_len]
    omega
  · simp
theorem fail48 {L k : Nat} (C : List (List Int)) (n : Nat) (hk : k ≤ 48) : failK L C n k < 281474976710656 := by
  have h1 := failK_lt L C n k
  have h2 : 2 ^ k ≤ 2 ^ 48 := Nat.pow_le_pow_right (by omega) hk
  have h3 : (2 : Nat) ^ 48 = 281474976710656 := by decide
  omega
set_option maxRecDepth 100000 in
set_option maxHeartbeats 4000000 in
theorem implMostTrue_any (v : Value) (F : Fm) (w : World) (hv : FmV w v F) (o : OKFm F) :
    Calls Try.prog 38 #[v] w (SaysIBB (mtI F) (mtL F) (formB F) w) := by
  have hv0 := hv
  obtain ⟨s1, rfl, g1⟩ := hv
  have HV := Lib.hid (fun wx (hb : Below w.heap.size w wx) => hv0.below hb (Nat.le_refl _))
  have hb0 := Lib.hid (fun o => below_alloc w o)
  obtain ⟨ao, cap, rfl⟩ := g1.long
  clear hv0 g1
  cases h1 : formB F with
  | false =>
    have HN := Lib.hid (mt_no h1)
    have H1 := Lib.hid h1
    clear h1
    go_enter Try.func38, Try.ntmps38
    go_wp2_with fail
    go_at_call 22; refine (implForm_any _ F _ (HV.out _ (hb0.out _)) o).mono ?_; rintro e w1 ⟨rfl, b1⟩
    rw [H1.out]
    have HB := Lib.hid ((hb0.out _).trans (b1.mono (hb0.out _).size))
    clear b1
    go_wp2_with fail
    go_ret3
    exact saysIBB HN.out.1.symm HN.out.2.symm rfl bi_nil HB.out
  | true =>
    obtain ⟨L, hL⟩ : ∃ L, L = F.letters.toNat := ⟨_, rfl⟩
    have hm0 := mt_yes h1
    have hh0 := (formB_ok h1).num
    rw [← hL] at hm0 hh0
    obtain ⟨N, hN⟩ : ∃ N, N = 2 ^ L := ⟨_, rfl⟩
    have hp1 := hh0.p1
    have hp2 := hh0.p2
    have hL2 := hh0.L2
    have hfew := hh0.ok.few
    rw [← hN] at hm0 hp1 hp2
    have HM := Lib.hid hm0
    have HH := Lib.hid hh0
    have H1 := Lib.hid h1
    have HNN := Lib.hid hh0.n
    have hfl : (failL L F.cs F.cs.length).length = N := by rw [failL_len, hN]
    have HF : Hid (∀ n, n < N → (failL L F.cs F.cs.length).getD n 0 = (failK L F.cs n F.cs.length : Int)) := Lib.hid fun n hn => failL_at (by rw [← hN]; exact hn)
    have HCF : Hid (∀ n, popN 48 (failK L F.cs n F.cs.length) = cntF L F.cs n) := Lib.hid fun n => rfl
    have HFK := Lib.hid (fun n => fail48 (L := L) F.cs n hfew)
    have HLE := Lib.hid (fun k => leastK_le L F.cs k)
    have HBE := Lib.hid (fun k => bestK_lt L F.cs k)
    have HCL : Hid (∀ n, cntF L F.cs n ≤ 48) := Lib.hid fun n => popN_leN 48 _
    clear h1 hm0 hh0 hL hN
    go_enter Try.func38, Try.ntmps38
    go_wp2_with fail
    go_at_call 22; refine (implForm_any _ F _ (HV.out _ (hb0.out _)) o).mono ?_; rintro e w1 ⟨rfl, b1⟩
    rw [H1.out]
    have HB := Lib.hid ((hb0.out _).trans (b1.mono (hb0.out _).size))
    have HBX := Lib.hid ((Box2.mk' w (.int .i64 F.letters) (.slice ao F.cs.length cap) 31).keep b1 (by simp))
    obtain ⟨c0, c1⟩ := HBX.out
    clear b1
    go_wp2_with fail
    go_quiet (fail)
    go_wp2_with fail
    go_at_call 66; refine (failsOf_any _ F L _ (HV.out _ (below_drewN HB.out _)) o HH.out).mono ?_; rintro e w2 ⟨v2, rfl, hi2, b2⟩
    have HB2 := Lib.hid (HB.out.trans ((Below.undrew b2).mono HB.out.size))
    have HBX2 := Lib.hid (HBX.out.keep (Below.undrew b2) HBX.out.lt)
    obtain ⟨b, off, cap2, rfl, hbl, hcell⟩ := fails_cells (II.il hi2) (by rw [hfl]; omega)
    have HC := Lib.hid hcell
    rw [hfl] at HC ⊢
    clear c0 c1 b2 hi2 hcell hfl HB HBX
    go_wp2_with fail
    go_loopg [5, 6, 19] N (fun gk bs ls i wr => ∃ k : Nat, k ≤ N ∧ gk + k = N ∧ i = .int .i64 k ∧ bs = .int .i64 (bestK L F.cs k : Nat) ∧ ls = .int .i64 (leastK L F.cs k : Nat) ∧ w2 = wr)
    case atStart => exact ⟨0, Nat.zero_le _, by omega, rfl, rfl, rfl, rfl⟩
    case round =>
      obtain ⟨k, hk, hgk, rfl, rfl, rfl, rfl⟩ := hrel
      have hle := HLE.out k
      have hbe := HBE.out k
      by_cases hlt : k < N
      · have d0 := HC.out k hlt
        rw [HF.out k hlt] at d0
        have hf := HFK.out k
        have hcf := HCF.out k
        have hcl := HCL.out k
        generalize failK L F.cs k F.cs.length = f at d0 hf hcf
        have HQF := Lib.hid hcf
        have HY := Lib.hid (fun h => @least_yes L F.cs k h)
        have HX := Lib.hid (fun h => @least_no L F.cs k h)
        generalize cntF L F.cs k = c at hcl HQF HY HX
        generalize leastK L F.cs k = l at hle HY HX
        generalize bestK L F.cs k = bb at hbe HX
        clear hcf
        by_cases hcl2 : c < l
        · have hi : (c : Int) < (l : Int) := by omega
          have HN := Lib.hid (HY.out hcl2)
          go_wp2_with fail
          go_at_call 74; refine (countIn48 f _ hf).mono ?_; rintro e w' ⟨rfl, rfl⟩
          rw [HQF.out]
          go_wp2_with fail
          go_roundg (gk - 1)
          case measure => omega
          case rel => exact ⟨k + 1, by omega, by omega, by go_num, by rw [HN.out.2], by rw [HN.out.1], rfl⟩
        · have hi : ¬ (c : Int) < (l : Int) := by omega
          have HN := Lib.hid (HX.out hcl2)
          go_wp2_with fail
          go_at_call 74; refine (countIn48 f _ hf).mono ?_; rintro e w' ⟨rfl, rfl⟩
          rw [HQF.out]
          go_wp2_with fail
          go_roundg (gk - 1)
          case measure => omega
          case rel => exact ⟨k + 1, by omega, by omega, by go_num, by rw [HN.out.2], by rw [HN.out.1], rfl⟩
      · obtain rfl : k = N := by omega
        obtain ⟨c0, c1⟩ := HBX2.out
        rw [HNN.out] at c0
        have hbN : bestK L F.cs k < 1024 ∨ bestK L F.cs k = 1024 := by omega
        have hsub : IntKind.i64.wrap ((F.cs.length : Int) - (leastK L F.cs k : Int)) = (F.cs.length : Int) - (leastK L F.cs k : Int) := IntWalk.i64_in _ (by omega)
        have hb1024 : bestK L F.cs k < 1024 := by
          have h := HBE.out
          exact bestK_top L F.cs (by omega) hp2
        have HMM := Lib.hid HM.out
        generalize leastK L F.cs k = l at hle hsub HMM
        generalize bestK L F.cs k = bb at hbe hb1024 HMM hbN
        clear hbN
        go_wp2_with fail
        go_region_held3 (fun w' => w'.cell? ⟨w.heap.size, 0, none⟩ = some (.int .i64 (L : Int)) ∧ w'.cell? ⟨w.heap.size, 1, none⟩ = some (.slice ao F.cs.length cap)) (first | exact ⟨c0, c1⟩ | exact S2.out) (first
          | (go_at_call 70; refine (valuesAt_any L bb _ hL2 hb1024).mono ?_; rintro e w3 ⟨v3, rfl, hi3, b3⟩; have bz := (below_drewN (Below.refl w2.heap.size w2) 1).trans b3; have H3 := Lib.hid (HB2.out.trans (bz.mono HB2.out.size)); have HI3 := Lib.hid hi3; have HZ3 := Lib.hid HB2.out.size; have S2 : Hid (_ ∧ _) := Lib.hid ⟨keep_cell c0 bz (cell_block c0), keep_cell c1 bz (cell_block c1)⟩; clear b3 bz hi3))
        all_goals
          go_wp2_with fail
          go_ret3
          exact saysIBB (by rw [HMM.out.1]) (by rw [HMM.out.2]) rfl (SI.wide HI3.out HZ3.out (Nat.le_refl _) (Nat.le_refl _)) H3.out
set_option maxRecDepth 100000 in
set_option maxHeartbeats 4000000 in
theorem specMostTrue_any (v : Value) (F : Fm) (w : World) (hv : FmV w v F) (o : OKFm F) :
    Calls Try.prog 37 #[v] w (SaysIBB (mtI F) (mtL F) (formB F) w) := by
  obtain ⟨s1, rfl, g1⟩ := FmAt.mk' hv 31
  have G1 := Lib.hid g1
  obtain ⟨s2, hb2, hs2⟩ := g1.box
  obtain rfl : s2 = s1 := by
    have := hb2.c1
    rw [World.cell?_alloc_new] at this
    simpa using this.symm
  have HBX0 := Lib.hid hb2
  obtain ⟨ao, cap, rfl⟩ := hs2.long
  have hb0 := Lib.hid (fun o => below_alloc w o)
  clear g1 hb2 hs2 hv
  cases h1 : formB F with
  | false =>
    have HN := Lib.hid (mt_no h1)
    have H1 := Lib.hid h1
    clear h1
    go_enter Try.func37, Try.ntmps37
    go_wp2_with fail
    go_at_call 55; refine (l05Is_any w.heap.size F _ G1.out o).mono ?_; rintro e w1 ⟨rfl, b1⟩
    rw [H1.out]
    have HB := Lib.hid ((hb0.out _).trans (b1.mono (hb0.out _).size))
    clear b1
    go_wp2_with fail
    go_ret3
    exact saysIBB HN.out.1.symm HN.out.2.symm rfl bi_nil HB.out
  | true =>
    obtain ⟨L, hL⟩ : ∃ L, L = F.letters.toNat := ⟨_, rfl⟩
    have hm0 := mt_yes h1
    have hh0 := (formB_ok h1).num
    rw [← hL] at hm0 hh0
    obtain ⟨N, hN⟩ : ∃ N, N = 2 ^ L := ⟨_, rfl⟩
    have hp1 := hh0.p1
    have hp2 := hh0.p2
    have hL2 := hh0.L2
    have hfew := hh0.ok.few
    have HP : Hid ((2 : Int) ^ L = (N : Int)) := Lib.hid (by rw [hN, pow_cast])
    rw [← hN] at hm0 hp1 hp2
    have HM : Hid (mtI F = mostK L F.cs N ∧ mtL F = valsB L (bestK L F.cs N)) := Lib.hid (by
      obtain ⟨n, rfl⟩ : ∃ n, N = n + 1 := ⟨N - 1, by omega⟩
      exact hm0)
    have HH := Lib.hid hh0
    have H1 := Lib.hid h1
    have HNN := Lib.hid hh0.n
    have HBE := Lib.hid (fun k => bestK_lt L F.cs k)
    have HMI := Lib.hid (fun k => mostK_in L F.cs hfew k)
    have HHL := Lib.hid (fun n => howK_le L F.cs n F.cs.length)
    have HY := Lib.hid (fun k h => @most_up L F.cs k hfew h)
    have HX := Lib.hid (fun k h => @most_same L F.cs k hfew h)
    clear h1 hm0 hh0 hL hN
    go_enter Try.func37, Try.ntmps37
    go_wp2_with fail
    go_at_call 55; refine (l05Is_any w.heap.size F _ G1.out o).mono ?_; rintro e w1 ⟨rfl, b1⟩
    rw [H1.out]
    have HB := Lib.hid ((hb0.out _).trans (b1.mono (hb0.out _).size))
    have HG := Lib.hid (G1.out.keep b1)
    have HBX := Lib.hid (HBX0.out.keep b1 HBX0.out.lt)
    clear b1
    go_wp2_with fail
    go_loopg [5, 6, 7] N (fun gk ms at_ i wr => ∃ k : Nat, k ≤ N ∧ gk + k = N ∧ i = .int .i64 k ∧ ms = .int .i64 (mostK L F.cs k) ∧ at_ = .int .i64 (bestK L F.cs k : Nat) ∧ ∃ m, wr = w1.drewN m)
    case atStart => exact ⟨0, Nat.zero_le _, by omega, rfl, rfl, rfl, 0, rfl⟩
    case round =>
      obtain ⟨k, hk, hgk, rfl, rfl, rfl, hwr⟩ := hrel
      have HW := Lib.hid (drewM hwr)
      have hpow := HP.out
      obtain ⟨c0, c1⟩ : Box2 wr w.heap.size (.int .i64 (L : Int)) (.slice ao F.cs.length cap) := by
        obtain ⟨m, rfl⟩ := hwr
        have := HBX.out.keep (below_drewN (Below.refl _ _) m) HBX.out.lt
        rw [HNN.out] at this
        exact this
      have HAT : Hid (FmAt wr w.heap.size F) := Lib.hid (by obtain ⟨m, rfl⟩ := hwr; exact HG.out.drewN m)
      have HBW : Hid (Below w.heap.size w wr) := Lib.hid (by obtain ⟨m, rfl⟩ := hwr; exact below_drewN HB.out m)
      have hmi := HMI.out k
      have hbe := HBE.out k
      clear hwr
      by_cases hlt : k < N
      · have hhl := HHL.out k
        have HYk := Lib.hid (HY.out k)
        have HXk := Lib.hid (HX.out k)
        obtain ⟨q, hq⟩ : ∃ q, howK L F.cs k F.cs.length = q := ⟨_, rfl⟩
        have HQ := Lib.hid hq
        rw [hq] at hhl HYk HXk
        generalize mostK L F.cs k = ms at hmi HYk HXk
        generalize bestK L F.cs k = bb at hbe HXk
        clear hq
        by_cases hcl2 : ms < (q : Int)
        · have HN := Lib.hid (HYk.out hcl2)
          go_wp2_with fail
          go_at_call 73; refine (l05How_at w.heap.size F L k _ HAT.out o HH.out (by omega) q HQ.out).mono ?_; rintro e w' ⟨rfl, m, rfl⟩
          clear c0 c1
          go_wp2_with fail
          go_roundg (gk - 1)
          case measure => omega
          case rel => exact ⟨k + 1, by omega, by omega, by go_num, by rw [HN.out.1], by rw [HN.out.2], HW.out _⟩
        · have HN := Lib.hid (HXk.out (by omega))
          go_wp2_with fail
          go_at_call 73; refine (l05How_at w.heap.size F L k _ HAT.out o HH.out (by omega) q HQ.out).mono ?_; rintro e w' ⟨rfl, m, rfl⟩
          clear c0 c1
          go_wp2_with fail
          go_roundg (gk - 1)
          case measure => omega
          case rel => exact ⟨k + 1, by omega, by omega, by go_num, by rw [HN.out.1], by rw [HN.out.2], HW.out _⟩
      · obtain rfl : k = N := by omega
        have hb1024 : bestK L F.cs k < 1024 := bestK_top L F.cs (by omega) hp2
        have HMM := Lib.hid HM.out
        generalize mostK L F.cs k = ms at hmi HMM
        generalize bestK L F.cs k = bb at hbe hb1024 HMM
        go_wp2_with fail
        go_at_call 68; refine (l05Values_any L bb _ hL2 hb1024).mono ?_; rintro e w3 ⟨v3, rfl, hi3, b3⟩
        have H3 := Lib.hid (HBW.out.trans (b3.mono HBW.out.size))
        have HI3 := Lib.hid (SI.wide hi3 HBW.out.size (Nat.le_refl _) (Nat.le_refl _))
        clear b3 hi3
        go_wp2_with fail
        go_ret3
        exact saysIBB (by rw [HMM.out.1]) (by rw [HMM.out.2]) rfl HI3.out H3.out
end Go.Proofs.Ytleaaigjnniglaa
