/- The least model of a form of Horn: the model's side. -/
import Derived.Test.YtleaaigjnniglaaHoI
namespace Go.Proofs.Ytleaaigjnniglaa
open Go.RowKit Go.ChangeShapes Go.WideShapes

theorem IL.any {w : World} {v : Value} {Z : List Int} (h : IL w v Z) : ∃ ao cap, v = .slice ao Z.length cap ∧ ∀ i, i < Z.length → ∃ b off, ao = some ⟨b, off, none⟩ ∧ b < w.heap.size ∧ w.cell? ⟨b, off + i, none⟩ = some (.int .i64 (Z.getD i 0)) := by
  rcases h with ⟨rfl, ao, cap, rfl⟩ | ⟨b, off, cap, rfl, h2, h3, h4⟩
  · exact ⟨ao, cap, rfl, fun i hi => by simp at hi⟩
  · exact ⟨_, _, rfl, fun i hi => ⟨b, off, rfl, h3, h4 i hi⟩⟩
theorem LV.any {w : World} {v : Value} {C : List (List Int)} (h : LV w v C) : ∃ ao cap, v = .slice ao C.length cap ∧ ∀ i, i < C.length → ∃ b off u, ao = some ⟨b, off, none⟩ ∧ b < w.heap.size ∧ w.cell? ⟨b, off + i, none⟩ = some u ∧ IL w u (C.getD i []) := by
  rcases h with ⟨rfl, ao, cap, rfl⟩ | ⟨b, off, cap, U, rfl, h2, h3, h4⟩
  · exact ⟨ao, cap, rfl, fun i hi => by simp at hi⟩
  · exact ⟨_, _, rfl, fun i hi => ⟨b, off, U i, rfl, h3, (h4 i hi).1, (h4 i hi).2⟩⟩
theorem horn_no {F : Fm} {k : Nat} (hk : k < F.cs.length) (h : upsP (F.cs.getD k []) = true) : hornB F = false := by unfold hornB; rw [anyP_yes hk h]; rfl
theorem horn_yes {F : Fm} (h : ∀ k, k < F.cs.length → upsP (F.cs.getD k []) = false) : hornB F = true := by unfold hornB; rw [anyP_no h]; rfl
theorem firstB_of {F : Fm} (h : formB F = true) : firstB F = !(modK F.letters.toNat F.cs (2 ^ F.letters.toNat)).isEmpty := by unfold firstB; rw [modsF_yes h]
def someK (L : Nat) (C : List (List Int)) (k : Nat) : Bool := !(modK L C k).isEmpty
theorem someK_yes {L : Nat} {C : List (List Int)} {k : Nat} (h : modelB L C k = true) : someK L C (k + 1) = true := by
  unfold someK
  rw [modK_yes h]
  cases modK L C k <;> rfl
theorem someK_no {L : Nat} {C : List (List Int)} {k : Nat} (h : modelB L C k = false) : someK L C (k + 1) = someK L C k := by
  unfold someK
  rw [modK_no h]
theorem andK_yes {L : Nat} {C : List (List Int)} {k : Nat} (h : modelB L C k = true) : andK L C (k + 1) = andK L C k &&& k := by
  show (if modelB L C k then _ else _) = _
  rw [if_pos h]
theorem andK_no {L : Nat} {C : List (List Int)} {k : Nat} (h : modelB L C k = false) : andK L C (k + 1) = andK L C k := by
  show (if modelB L C k then _ else _) = _
  rw [if_neg (by rw [h]; simp)]
set_option maxRecDepth 100000 in
set_option maxHeartbeats 8000000 in
theorem specHornModel_any (v : Value) (F : Fm) (w : World) (hv : FmV w v F) (o : OKFm F) :
    Calls Try.prog 41 #[v] w (SaysBB (hoL F) (hoB F) w) := by
  obtain ⟨s1, rfl, g1⟩ := FmAt.mk' hv 31
  have G1 := Lib.hid g1
  obtain ⟨s2, hb2, hs2⟩ := g1.box
  obtain rfl : s2 = s1 := by
    have := hb2.c1
    rw [World.cell?_alloc_new] at this
    simpa using this.symm
  have HBX0 := Lib.hid hb2
  have HS0 := Lib.hid hs2
  obtain ⟨ao, cap, rfl, -⟩ := hs2.any
  have hb0 := Lib.hid (fun o => below_alloc w o)
  clear g1 hb2 hs2 hv
  cases h1 : formB F with
  | false =>
    have HN := Lib.hid (ho_no1 h1)
    have H1 := Lib.hid h1
    clear h1
    go_enter Try.func41, Try.ntmps41
    go_wp2_with fail
    go_at_call 55; refine (l05Is_any w.heap.size F _ G1.out o).mono ?_; rintro e w1 ⟨rfl, b1⟩
    rw [H1.out]
    have HB := Lib.hid ((hb0.out _).trans (b1.mono (hb0.out _).size))
    clear b1
    go_wp2_with fail
    go_ret2
    exact saysBB HN.out.1.symm HN.out.2.symm bi_nil HB.out
  | true =>
    have FO := Lib.hid (formB_ok h1)
    have hfew := FO.out.few
    obtain ⟨L, hL⟩ : ∃ L, L = F.letters.toNat := ⟨_, rfl⟩
    have hh0 := (formB_ok h1).num
    rw [← hL] at hh0
    have HH := Lib.hid hh0
    have H1 := Lib.hid h1
    have hp1 := hh0.p1
    have hp2 := hh0.p2
    have hL2 := hh0.L2
    have HNN := Lib.hid hh0.n
    have HLE := Lib.hid hL
    obtain ⟨N, hN⟩ : ∃ N, N = 2 ^ L := ⟨_, rfl⟩
    have HP : Hid ((2 : Int) ^ L = (N : Int)) := Lib.hid (by rw [hN, pow_cast])
    have HFB : Hid (firstB F = someK L F.cs N) := Lib.hid (by rw [firstB_of h1, hN, hL]; rfl)
    have HY : Hid (hornB F = true → firstB F = true → hoL F = valsB L (andK L F.cs N) ∧ hoB F = true) := Lib.hid fun h2 h3 => by
      have := ho_yes h1 h2 h3
      rw [hN, hL]
      exact this
    have HX := Lib.hid (fun h3 => @ho_no3 F h3)
    have HX2 := Lib.hid (fun h3 => @ho_no2 F h3)
    have HAL : Hid (∀ k, andK L F.cs k < 1024) := Lib.hid fun k => Nat.lt_of_lt_of_le (andK_lt L F.cs k) hp2
    have HA0 : Hid (((andK L F.cs 0 : Nat) : Int) = (N : Int) - 1) := Lib.hid (by
      have : andK L F.cs 0 = N - 1 := by rw [hN]; rfl
      rw [this]; omega)
    rw [← hN] at hp1 hp2
    clear h1 hh0 hL hN
    go_enter Try.func41, Try.ntmps41
    go_wp2_with fail
    go_at_call 55; refine (l05Is_any w.heap.size F _ G1.out o).mono ?_; rintro e w1 ⟨rfl, b1⟩
    rw [H1.out]
    have HB := Lib.hid ((hb0.out _).trans (b1.mono (hb0.out _).size))
    have HBX := Lib.hid (HBX0.out.keep b1 HBX0.out.lt)
    have HS := Lib.hid (HS0.out.below b1 (Nat.le_refl _))
    have HG := Lib.hid (G1.out.keep b1)
    obtain ⟨ax, cx, hsl, hcl⟩ := HS.out.any
    obtain ⟨rfl, -, rfl⟩ : ao = ax ∧ True ∧ cap = cx := by simpa using hsl
    have HCL := Lib.hid hcl
    obtain ⟨c0, c1⟩ := HBX.out
    clear b1 HBX0 HS0 G1 hsl hcl
    go_wp2_with fail
    clear c0 c1
    go_loopg [15] F.cs.length (fun gk i wr => ∃ k : Nat, k ≤ F.cs.length ∧ gk + k = F.cs.length ∧ i = .int .i64 k ∧ (∀ j, j < k → upsP (F.cs.getD j []) = false) ∧ w1 = wr)
    case atStart => exact ⟨0, Nat.zero_le _, by omega, rfl, fun j hj => by omega, rfl⟩
    case round =>
      obtain ⟨k, hk, hgk, rfl, hall, rfl⟩ := hrel
      have HL := Lib.hid hall
      obtain ⟨c0, c1⟩ := HBX.out
      clear hall
      by_cases hlt : k < F.cs.length
      · obtain ⟨b, off, u, hao, hbl, d0, hu⟩ := HCL.out k hlt
        subst hao
        obtain ⟨au, cu, rfl, hcu⟩ := hu.any
        have HCU := Lib.hid hcu
        have hcn := (FO.out.cl k hlt).len
        have hfn := FO.out.n2
        have hcn2 : (F.cs.getD k []).length ≤ 10 := by omega
        have HUS := Lib.hid (fun m => upsK_le (F.cs.getD k []) m)
        have HUP : Hid (∀ m, upsK (F.cs.getD k []) (m + 1) = upsK (F.cs.getD k []) m + (if 0 < (F.cs.getD k []).getD m 0 then 1 else 0)) := Lib.hid fun m => rfl
        have HPP : Hid (upsP (F.cs.getD k []) = decide (1 < upsK (F.cs.getD k []) (F.cs.getD k []).length)) := Lib.hid rfl
        generalize hcK : F.cs.getD k [] = c at d0 HCU HUS HUP HPP hcn2
        have HCK := Lib.hid hcK
        clear hu hcu hcn hfn hcK
        go_wp2_with fail
        obtain ⟨g0, rfl⟩ : ∃ x : Nat, x = gk := ⟨_, rfl⟩
        go_loopg [5, 24] c.length (fun gk ups i wr => ∃ m : Nat, m ≤ c.length ∧ gk + m = c.length ∧ i = .int .i64 m ∧ ups = .int .i64 (upsK c m : Nat) ∧ w1 = wr)
        case atStart => exact ⟨0, Nat.zero_le _, by omega, rfl, rfl, rfl⟩
        case round =>
          obtain ⟨m, hm, hgm, rfl, rfl, rfl⟩ := hrel
          have hul := HUS.out m
          by_cases hmt : m < c.length
          · obtain ⟨b2, off2, hau, hbl2, e0⟩ := HCU.out m hmt
            subst hau
            have hup := HUP.out m
            generalize c.getD m 0 = x at e0 hup
            generalize upsK c m = q at hul hup
            by_cases hx : 0 < x
            · rw [if_pos hx] at hup
              have HUQ := Lib.hid hup
              clear hup
              go_wp2_with fail
              go_roundg (gk - 1)
              case measure => omega
              case rel => exact ⟨m + 1, by omega, by omega, by go_num, by rw [HUQ.out]; go_num, rfl⟩
            · rw [if_neg hx] at hup
              have HUQ := Lib.hid hup
              clear hup
              go_wp2_with fail
              go_roundg (gk - 1)
              case measure => omega
              case rel => exact ⟨m + 1, by omega, by omega, by go_num, by rw [HUQ.out]; rfl, rfl⟩
          · obtain rfl : m = c.length := by omega
            have hpp := HPP.out
            generalize upsK c c.length = q at hul hpp
            by_cases hq : 1 < q
            · rw [decide_eq_true hq] at hpp
              have HN := Lib.hid (HX2.out (horn_no hlt (by rw [HCK.out]; exact hpp)))
              have hqi : (1 : Int) < (q : Int) := by omega
              clear hpp
              go_wp2_with fail
              go_ret2
              exact saysBB HN.out.1.symm HN.out.2.symm bi_nil HB.out
            · rw [decide_eq_false hq] at hpp
              have HPF := Lib.hid hpp
              have hqi : ¬ (1 : Int) < (q : Int) := by omega
              clear hpp
              go_wp2_with fail
              go_roundg (g0 - 1)
              case measure => omega
              case rel => exact ⟨k + 1, by omega, by omega, by go_num, fun j hj => by
                by_cases e : j = k
                · subst e; rw [HCK.out]; exact HPF.out
                · exact HL.out j (by omega), rfl⟩
      · obtain rfl : k = F.cs.length := by omega
        have HHY := Lib.hid (horn_yes HL.out)
        have hpow := HP.out
        have hnw : IntKind.i64.wrap ((N : Int) - 1) = (N : Int) - 1 := IntWalk.i64_in _ (by omega)
        rw [HNN.out] at c0
        go_wp2_with fail
        rw [← HA0.out]
        go_loopg [7, 8, 9] N (fun gk a fd i wr => ∃ n : Nat, n ≤ N ∧ gk + n = N ∧ i = .int .i64 n ∧ a = .int .i64 (andK L F.cs n : Nat) ∧ fd = .bool (someK L F.cs n) ∧ ∃ m, wr = w1.drewN m)
        case atStart => exact ⟨0, Nat.zero_le _, by omega, rfl, rfl, rfl, 0, rfl⟩
        case round =>
          obtain ⟨n, hn, hgn, rfl, rfl, rfl, hwr⟩ := hrel
          have HW := Lib.hid (drewM hwr)
          have HW0 := Lib.hid hwr
          clear c0 c1
          obtain ⟨c0, c1⟩ : Box2 wr w.heap.size (.int .i64 (L : Int)) (.slice ao F.cs.length cap) := by
            obtain ⟨m, rfl⟩ := hwr
            have := HBX.out.keep (below_drewN (Below.refl _ _) m) HBX.out.lt
            rw [HNN.out] at this
            exact this
          have HAT : Hid (FmAt wr w.heap.size F) := Lib.hid (by obtain ⟨m, rfl⟩ := hwr; exact HG.out.drewN m)
          have HBW : Hid (Below w.heap.size w wr) := Lib.hid (by obtain ⟨m, rfl⟩ := hwr; exact below_drewN HB.out m)
          have hal := HAL.out n
          clear hwr
          by_cases hlt : n < N
          · cases q : modelB L F.cs n with
            | true =>
              have HQ := Lib.hid q
              have hand := i64_and62 (andK L F.cs n) n (by omega) (by omega)
              rw [← andK_yes q] at hand
              have HSO := Lib.hid (someK_yes q)
              generalize andK L F.cs n = a1 at hand hal
              generalize hq2 : andK L F.cs (n + 1) = a2 at hand
              have HQ2 := Lib.hid hq2
              clear hq2
              clear q
              go_wp2_with fail
              go_at_call 63; refine (l05Model_at true w.heap.size F L n _ HAT.out o HH.out (by omega) HQ.out).mono ?_; rintro e w' ⟨rfl, m, rfl⟩
              clear c0 c1
              go_wp2_with fail
              go_roundg (gk - 1)
              case measure => omega
              case rel => exact ⟨n + 1, by omega, by omega, by go_num, by rw [HQ2.out], by rw [HSO.out], HW.out _⟩
            | false =>
              have HQ := Lib.hid q
              have HSO := Lib.hid (someK_no q)
              have HAN := Lib.hid (andK_no q)
              clear q
              go_wp2_with fail
              go_at_call 63; refine (l05Model_at false w.heap.size F L n _ HAT.out o HH.out (by omega) HQ.out).mono ?_; rintro e w' ⟨rfl, m, rfl⟩
              clear c0 c1
              go_wp2_with fail
              go_roundg (gk - 1)
              case measure => omega
              case rel => exact ⟨n + 1, by omega, by omega, by go_num, by rw [HAN.out], by rw [HSO.out], HW.out _⟩
          · obtain rfl : n = N := by omega
            have hfb := HFB.out
            have hpow := HP.out
            cases q : someK L F.cs n with
            | false =>
              rw [q] at hfb
              have HN := Lib.hid (HX.out hfb)
              clear hfb q
              go_wp2_with fail
              go_ret2
              exact saysBB HN.out.1.symm HN.out.2.symm bi_nil HBW.out
            | true =>
              rw [q] at hfb
              have HN := Lib.hid (HY.out HHY.out hfb)
              generalize hq2 : andK L F.cs n = a1 at hal
              have HQ2 := Lib.hid hq2
              clear hfb q hq2
              go_wp2_with fail
              go_at_call 68; refine (l05Values_any L a1 _ hL2 hal).mono ?_; rintro e w4 ⟨v4, rfl, hi4, b4⟩
              have H4 := Lib.hid (HBW.out.trans (b4.mono HBW.out.size))
              have HI4 := Lib.hid (SI.wide hi4 HBW.out.size (Nat.le_refl _) (Nat.le_refl _))
              clear b4 hi4
              go_wp2_with fail
              go_ret2
              exact saysBB (by rw [HN.out.1, HQ2.out]) HN.out.2.symm HI4.out H4.out
end Go.Proofs.Ytleaaigjnniglaa
