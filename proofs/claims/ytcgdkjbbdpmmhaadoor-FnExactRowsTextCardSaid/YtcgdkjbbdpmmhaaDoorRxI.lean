/- The texts of rows: the program. -/
import Derived.Test.YtcgdkjbbdpmmhaaDoorRx0
import Derived.Test.YtcgdkjbbdpmmhaaDoorViD
import Derived.Test.YtcgdkjbbdpmmhaaDoorBox
import Derived.Deep.LoopGhost
namespace Go.Proofs.YtcgdkjbbdpmmhaaDoor
open Go.RowKit Go.ChangeShapes Go.WideShapes

def rtV (s1 s2 s3 : Value) (k : Nat) : Value := if k = 0 then s1 else if k = 1 then s2 else s3
set_option maxRecDepth 100000 in
set_option maxHeartbeats 4000000 in
theorem implRowsText_at (v : Value) (R : Rw) (w : World) (hv : RV w v R) (hn : R.size ≤ 1048576) (hF : FitR R) (hp : RtTab w) :
    Calls Tryd.prog 21 #[v] w (SaysTB (rtD R) (okR R) w) := by
  have HP := Lib.hid hp
  obtain ⟨s1, s2, s3, rfl, g1, g2, g3⟩ := hv
  obtain ⟨a1, k1, rfl⟩ := SL.longN g1
  obtain ⟨a2, k2, rfl⟩ := SL.longN g2
  obtain ⟨a3, k3, rfl⟩ := SL.longN g3
  have HB0 := Lib.hid (below_alloc w)
  have RV0 : Hid (∀ A, RV (w.alloc A) (.agg #[.int .i64 R.vars, (.slice a1 R.N.length k1), (.slice a2 R.B.length k2), (.slice a3 R.G.length k3)]) R) := Lib.hid fun A => ⟨(.slice a1 R.N.length k1), (.slice a2 R.B.length k2), (.slice a3 R.G.length k3), rfl, g1.below (HB0.out _) (Nat.le_refl _), g2.below (HB0.out _) (Nat.le_refl _), g3.below (HB0.out _) (Nat.le_refl _)⟩
  have X0 := Lib.hid (Box4.mk' w (.int .i64 R.vars) (.slice a1 R.N.length k1) (.slice a2 R.B.length k2) (.slice a3 R.G.length k3) 38)
  have G1 := Lib.hid g1
  have G2 := Lib.hid g2
  have G3 := Lib.hid g3
  clear g1 g2 g3 hp
  cases t : okR R with
  | false =>
    have e : rtD R = [] := by unfold rtD; rw [t]; rfl
    rw [e]
    have VR := Lib.hid (fun W h => t ▸ implValid_any (.agg #[.int .i64 R.vars, (.slice a1 R.N.length k1), (.slice a2 R.B.length k2), (.slice a3 R.G.length k3)]) R W h hn)
    clear t e hF
    go_enter Tryd.func21, Tryd.ntmps21
    go_wp2_with fail
    go_at_call 51; refine (VR.out _ (RV0.out _)).mono ?_; rintro e w1 ⟨rfl, b⟩
    have H1 := Lib.hid ((HB0.out _).trans (b.mono (HB0.out _).size))
    clear b
    go_wp2_with fail
    go_ret2
    exact ⟨rfl, H1.out⟩
  | true =>
    have e : rtD R = rtK R 3 := by unfold rtD; rw [t]; rfl
    rw [e]
    have VR := Lib.hid (fun W h => t ▸ implValid_any (.agg #[.int .i64 R.vars, (.slice a1 R.N.length k1), (.slice a2 R.B.length k2), (.slice a3 R.G.length k3)]) R W h hn)
    obtain ⟨-, -, -, hv1, hv2⟩ := rt_n t
    have DC := Lib.hid (fun W h => implDecimal_any R.vars W (by omega) (by omega) h)
    have GV : Hid (∀ k W, Below w.heap.size w W → SL W (rtV (.slice a1 R.N.length k1) (.slice a2 R.B.length k2) (.slice a3 R.G.length k3) k) (rtP R k)) := Lib.hid fun k W h => by
      unfold rtV rtP
      split
      · exact G1.out.below h (Nat.le_refl _)
      · split
        · exact G2.out.below h (Nat.le_refl _)
        · exact G3.out.below h (Nat.le_refl _)
    have NT := Lib.hid (fun k v W h ht => implNumbersText_any v (rtP R k) W h (by have := rtP_len t k; omega) (rtP_few hF k) ht)
    have NE := Lib.hid (fun k => nt_of t k)
    have NS := Lib.hid (fun k => nxt_short t k)
    have KS := Lib.hid (fun k => rtK_len t k)
    have KK : Hid (∀ k, rtK R k ++ ([59] ++ nxtL (rtP R k)) = rtK R (k + 1)) := Lib.hid fun k => rfl
    have K0 : Hid (Lib.itoa R.vars = rtK R 0) := Lib.hid rfl
    rw [K0.out] at DC
    clear t e hF hv1 hv2 hn K0
    go_enter Tryd.func21, Tryd.ntmps21
    go_wp2_with fail
    go_at_call 51; refine (VR.out _ (RV0.out _)).mono ?_; rintro e w1 ⟨rfl, b⟩
    have H1 := Lib.hid ((HB0.out _).trans (b.mono (HB0.out _).size))
    have X1 := Lib.hid (X0.out.keep b X0.out.lt)
    have lx := Nat.lt_of_lt_of_le X0.out.lt b.size
    clear b RV0
    obtain ⟨c0, c1, c2, c3⟩ := X1.out
    go_wp2_with fail
    clear c0 c1 c2 c3
    go_at_call 52; refine (DC.out _ (HP.out.1.below' H1.out)).mono ?_; rintro e w2 ⟨rfl, b⟩
    have X2 := Lib.hid (X1.out.keep b lx)
    have H2 := Lib.hid (H1.out.trans (b.mono H1.out.size))
    clear b X1 lx
    obtain ⟨c0, c1, c2, c3⟩ := X2.out
    have CG : Hid (∀ T k, k < 3 → (w2.alloc (.cells #[(.slice a1 R.N.length k1), (.slice a2 R.B.length k2), (.slice a3 R.G.length k3)] T)).cell? ⟨w2.heap.size, k, none⟩ = some (rtV (.slice a1 R.N.length k1) (.slice a2 R.B.length k2) (.slice a3 R.G.length k3) k)) := Lib.hid fun T k hk => by
      rcases (by omega : k = 0 ∨ k = 1 ∨ k = 2) with rfl | rfl | rfl <;> exact World.cell?_alloc_new _ _ _ _
    have BG := Lib.hid (fun T => H2.out.alloc H2.out.size (.cells #[(.slice a1 R.N.length k1), (.slice a2 R.B.length k2), (.slice a3 R.G.length k3)] T))
    go_wp2_with fail
    clear c0 c1 c2 c3
    obtain ⟨w3, hw3⟩ : ∃ w3, w3 = w2.alloc (.cells #[(.slice a1 R.N.length k1), (.slice a2 R.B.length k2), (.slice a3 R.G.length k3)] 28) := ⟨_, rfl⟩
    have CG3 : Hid (∀ W, Below w3.heap.size w3 W → ∀ k, k < 3 → W.cell? ⟨w2.heap.size, k, none⟩ = some (rtV (.slice a1 R.N.length k1) (.slice a2 R.B.length k2) (.slice a3 R.G.length k3) k)) := Lib.hid fun W h k hk => by
      have h1 := CG.out 28 k hk
      rw [← hw3] at h1
      exact keep_cell h1 h (cell_block h1)
    have BG3 : Hid (Below w.heap.size w w3) := Lib.hid (by rw [hw3]; exact BG.out _)
    rw [← hw3]
    clear hw3 CG BG H2 X2 X0 H1
    obtain ⟨g, hg⟩ : ∃ g, g = w2.heap.size := ⟨_, rfl⟩
    rw [← hg] at CG3 ⊢
    clear hg
    go_loopg [4, 23] 3 (fun gk s i wr => ∃ k : Nat, k ≤ 3 ∧ gk + k = 3 ∧ i = .int .i64 (k : Int) ∧ s = .string ⟨(rtK R k).toArray⟩ ∧ Below w3.heap.size w3 wr)
    case atStart => exact ⟨0, by omega, by omega, rfl, rfl, Below.refl _ _⟩
    case round =>
      obtain ⟨k, hk, hgk, rfl, rfl, hB⟩ := hrel
      have HB := Lib.hid hB
      have HGK := Lib.hid hgk
      have BW := Lib.hid (BG3.out.trans (hB.mono BG3.out.size))
      by_cases hlt : k < 3
      · have c1 := CG3.out _ hB k hlt
        have hs := GV.out k _ BW.out
        have HS := Lib.hid hs
        obtain ⟨va, vc, hvv⟩ := SL.longN hs
        rw [hvv] at c1 HS
        have DEC := Lib.hid (fun v W h ht => NT.out k v W h ht)
        obtain ⟨ne1, ne2⟩ := NE.out k
        have hns := NS.out k
        have hks := KS.out k
        rw [ne1, ne2] at DEC
        have A1 := run_bs_addN [59] (nxtL (rtP R k)) (by show 1 + _ ≤ _; omega)
        have A2 := run_bs_addN (rtK R k) ([59] ++ nxtL (rtP R k)) (by rw [List.length_append]; show _ + (1 + _) ≤ _; omega)
        rw [KK.out] at A2
        generalize hD : nxtL (rtP R k) = D at *
        generalize hT : rtK R k = T at *
        generalize hE : [59] ++ D = E at *
        unfold bsOf at A1 A2
        generalize rtP R k = Y at *
        clear hB hgk hs hvv ne1 ne2 hns hks hD hT hE
        go_wp2_with fail
        go_at_call 16; refine (DEC.out _ _ HS.out (HP.out.2.below BW.out)).mono ?_; rintro e w4 ⟨rfl, b4⟩
        have B4 : Hid (Below w3.heap.size w3 w4) := Lib.hid (HB.out.trans (b4.mono HB.out.size))
        clear b4
        go_wp2_with fail
        go_roundg (gk - 1)
        case measure => have := HGK.out; omega
        case rel => exact ⟨k + 1, by omega, by have := HGK.out; omega, by go_num, rfl, B4.out⟩
      · obtain rfl : k = 3 := by omega
        clear hB hgk
        go_wp2_with fail
        go_ret2
        exact ⟨rfl, BW.out⟩
end Go.Proofs.YtcgdkjbbdpmmhaaDoor
