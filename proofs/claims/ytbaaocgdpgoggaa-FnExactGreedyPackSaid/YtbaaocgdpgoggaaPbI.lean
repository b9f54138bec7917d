/- The bound of packs: both sides. -/
import Derived.Test.YtbaaocgdpgoggaaByQ
import Derived.Test.YtbaaocgdpgoggaaCan
namespace Go.Proofs.Ytbaaocgdpgoggaa
open Go.RowKit Go.ChangeShapes Go.WideShapes

set_option maxRecDepth 100000 in
set_option maxHeartbeats 8000000 in
theorem implPb_yes (v u : Value) (S G : List Int) (r : Nat) (w : World) (hv : IL w v S) (hu : IL w u G) (hn : S.length ≤ 1048576) (hm : G.length ≤ 1048576) (h : canB S G r = true) :
    Calls Try.prog 39 #[v, u, .int .i64 r] w (SaysIB (pbI S G r) true w) := by
  have H := Lib.hid h
  have ok := canB_ok h
  have OK := Lib.hid ok
  have n2 := ok.s.l2
  have hr := ok.r1
  have HL := Lib.hid ok.l
  have htl := ok.l
  have HE := Lib.hid (pbI_yes h)
  have HV := Lib.hid hv
  have HU := Lib.hid hu
  rcases hv with ⟨hz, -⟩ | ⟨b, off, cap, rfl, hpos, hbl, hcell⟩
  · have := ok.s.l1; rw [hz] at this; simp at this
  rcases hu with ⟨hz, -⟩ | ⟨b2, off2, cap2, rfl, hpos2, hbl2, hcell2⟩
  · rw [hz] at htl; simp at htl; omega
  have HC := Lib.hid hcell
  have HC2 := Lib.hid hcell2
  have HOL := Lib.hid (thO_len S G)
  rw [HE.out, Int.toNat_natCast]
  clear hcell hcell2 h ok HE htl
  go_enter Try.func39, Try.ntmps39
  go_wp2_with fail
  go_at_call 83; refine (areThings_is true _ _ S G r _ HV.out HU.out hn hm H.out).mono ?_; rintro e w1 ⟨rfl, m1, rfl⟩
  go_wp2_with fail
  go_at_call 84; refine (byQuotient_any _ _ S G r _ (VL.drewN HV.out m1) (VL.drewN HU.out m1) OK.out).mono ?_; rintro e w2 ⟨o, rfl, io, b2o⟩
  have B0 := Lib.hid (below_drewN (Below.refl w.heap.size w) m1)
  have BW := Lib.hid (B0.out.trans (b2o.mono B0.out.size))
  obtain ⟨_, hz | ⟨b3, off3, cap3, rfl, hpos3, hge3, hbl3, hfr3, hcell3⟩⟩ := io
  · have := congrArg List.length hz.1
    rw [intsN_len, HOL.out, List.length_nil] at this
    omega
  have HC3 := Lib.hid hcell3
  have e3 : (intsN (thO S G)).length = S.length := by rw [intsN_len, HOL.out]
  rw [e3]
  have E3 := Lib.hid e3
  clear b2o hcell3 hfr3 hpos3 hge3 e3 B0
  go_wp2_with fail
  go_loopg [8, 9, 22] S.length (fun gk a c i wr => ∃ k s l : Nat, k ≤ S.length ∧ gk + k = S.length ∧ i = .int .i64 k ∧ a = .int .i64 s ∧ c = .int .i64 l ∧ wr = w2 ∧ s ≤ 1000 * k ∧ l ≤ 1000 ∧ pbL S G ((thO S G).drop k) s l = pbL S G (thO S G) 0 r)
  case atStart => exact ⟨0, 0, r, Nat.zero_le _, by omega, rfl, rfl, rfl, rfl, by omega, by omega, rfl⟩
  case round =>
    obtain ⟨k, s, l, hk, hgk, rfl, rfl, rfl, rfl, hs, hl, hE⟩ := hrel
    have HE := Lib.hid hE
    clear hE
    by_cases hlt : k < S.length
    · have hin := thO_lt (S := S) (G := G) hlt
      have y3 := (show wr.cell? ⟨b3, off3 + k, none⟩ = some (.int .i64 (((thO S G).getD k 0 : Nat) : Int)) from (HC3.out k (by rw [E3.out]; exact hlt)).trans (by rw [intsN_at (by rw [HOL.out]; exact hlt)]))
      have y1 := (show wr.cell? ⟨b, off + (thO S G).getD k 0, none⟩ = some (.int .i64 (S.getD ((thO S G).getD k 0) 0)) from (BW.out.cell (p := ⟨b, off + (thO S G).getD k 0, none⟩) hbl).trans (HC.out _ hin))
      have y2 := (show wr.cell? ⟨b2, off2 + (thO S G).getD k 0, none⟩ = some (.int .i64 (G.getD ((thO S G).getD k 0) 0)) from (BW.out.cell (p := ⟨b2, off2 + (thO S G).getD k 0, none⟩) hbl2).trans (HC2.out _ (by rw [HL.out]; exact hin)))
      have hso := OK.out.at hin
      have hi2 : (((thO S G).getD k 0 : Nat) : Int) < (S.length : Int) := by omega
      have hi3 : (((thO S G).getD k 0 : Nat) : Int) < (G.length : Int) := by have := HL.out; omega
      rw [hso.s] at y1
      rw [hso.g] at y2
      have g1 := hso.s1
      have g2 := hso.s2
      have g3 := hso.g2
      have hkt : k < (thO S G).length := by rw [HOL.out]; exact hlt
      by_cases hgt : l < szN S ((thO S G).getD k 0)
      · have hR := pbL_stop (S := S) (G := G) (s := s) hkt hgt
        rw [HE.out] at hR
        have HR := Lib.hid hR
        clear hso hR hkt
        generalize (thO S G).getD k 0 = t at y1 y2 y3 hin hi2 hi3 g1 g2 g3 hgt HR
        generalize szN S t = q at y1 g1 g2 hgt HR
        generalize szN G t = g at y2 g3 HR
        have hgt2 : (l : Int) < (q : Int) := by omega
        have hml : g * l ≤ 1000000 := Nat.le_trans (Nat.mul_le_mul g3 hl) (by decide)
        have hdv : g * l / q ≤ 1000000 := Nat.le_trans (Nat.div_le_self _ _) hml
        have wm : IntKind.i64.wrap ((g : Int) * (l : Int)) = ((g * l : Nat) : Int) := by rw [← Int.natCast_mul]; exact IntWalk.i64_in _ (by omega)
        have hq0 : ¬ q = 0 := by omega
        have hq1 : ¬ (q : Int) = 0 := by omega
        have hq2 : ((q : Int) == 0) = false := by simpa using hq0
        have wd : Int.tdiv ((g * l : Nat) : Int) (q : Int) = ((g * l / q : Nat) : Int) := (Int.ofNat_tdiv _ _).symm
        generalize g * l / q = d at hdv HR wd
        generalize g * l = gl at hml wm wd
        have wd2 : IntKind.i64.wrap ((d : Nat) : Int) = (d : Int) := IntWalk.i64_in _ (by omega)
        have ws : IntKind.i64.wrap ((s : Int) + (d : Int)) = (s : Int) + (d : Int) := IntWalk.i64_in _ (by omega)
        go_wp2_with fail
        go_quiet (fail)
        go_wp2_with fail
        go_ret2
        exact ⟨by rw [HR.out]; simp, below_drewN BW.out _⟩
      · have hR := pbL_on (S := S) (G := G) (s := s) hkt hgt
        rw [HE.out] at hR
        have HR := Lib.hid hR
        clear hso hR hkt
        generalize (thO S G).getD k 0 = t at y1 y2 y3 hin hi2 hi3 g1 g2 g3 hgt HR
        generalize szN S t = q at y1 g1 g2 hgt HR
        generalize szN G t = g at y2 g3 HR
        have hgt2 : ¬ (l : Int) < (q : Int) := by omega
        obtain ⟨l2, rfl⟩ : ∃ l2, l = q + l2 := ⟨l - q, by omega⟩
        have ws : IntKind.i64.wrap ((s : Int) + (g : Int)) = (s : Int) + (g : Int) := IntWalk.i64_in _ (by omega)
        have wl : IntKind.i64.wrap (((q + l2 : Nat) : Int) - (q : Int)) = (l2 : Int) := by rw [show ((q + l2 : Nat) : Int) - (q : Int) = (l2 : Int) by omega]; exact IntWalk.i64_in _ (by omega)
        have wl2 : IntKind.i64.wrap ((q : Int) + (l2 : Int) - (q : Int)) = (l2 : Int) := by rw [show (q : Int) + (l2 : Int) - (q : Int) = (l2 : Int) by omega]; exact IntWalk.i64_in _ (by omega)
        go_wp2_with fail
        go_roundg (gk - 1)
        case measure => omega
        case rel => exact ⟨k + 1, s + g, l2, by omega, by omega, by go_num, by simp, by simp, rfl, by omega, by omega, by rw [HR.out, Nat.add_sub_cancel_left]⟩
    · obtain rfl : k = S.length := by omega
      have HR : Hid (s = pbL S G (thO S G) 0 r) := Lib.hid (by rw [← HE.out]; exact (pbL_end (HOL.out).symm).symm)
      go_wp2_with fail
      go_ret2
      exact ⟨by rw [HR.out]; rfl, BW.out⟩
theorem pbI_nat {S G : List Int} {r : Int} (h : canB S G r = true) : ∃ q : Nat, r = (q : Int) := ⟨r.toNat, by have := (canB_ok h).r0; omega⟩
theorem implPackBound_any (v : Value) (S : List Int) (u : Value) (G : List Int) (r : Int) (w : World) (hv : IL w v S) (hu : IL w u G) (o : OKI S) (o2 : OKI G) (_ : -9223372036854775808 ≤ r ∧ r ≤ 9223372036854775807) :
    Calls Try.prog 39 #[v, u, .int .i64 r] w (SaysIB (pbI S G r) (canB S G r) w) := by
  have hn := o.size
  have hm := o2.size
  cases h1 : canB S G r with
  | false =>
    rw [pbI_no h1]
    have HV := Lib.hid hv
    have HU := Lib.hid hu
    obtain ⟨ao, cap, rfl⟩ := hv.long
    obtain ⟨ao2, cap2, rfl⟩ := hu.long
    have H1 := Lib.hid h1
    clear h1 hv hu
    go_enter Try.func39, Try.ntmps39
    go_wp2_with fail
    go_at_call 83; refine (areThings_is false _ _ S G r _ HV.out HU.out hn hm H1.out).mono ?_; rintro e w' ⟨rfl, m, rfl⟩
    go_wp2_with fail
    go_ret2
    exact ⟨rfl, below_drewN (Below.refl _ _) _⟩
  | true =>
    obtain ⟨q, rfl⟩ := pbI_nat h1
    exact implPb_yes v u S G q w hv hu hn hm h1
end Go.Proofs.Ytbaaocgdpgoggaa
