/- Packs by quotients: the program. -/
import Derived.Test.YtbaaocgdpgoggaaPbI
import Derived.Test.YtbaaocgdpgoggaaGp0
namespace Go.Proofs.Ytbaaocgdpgoggaa
open Go.RowKit Go.ChangeShapes Go.WideShapes

set_option maxRecDepth 100000 in
set_option maxHeartbeats 8000000 in
theorem implGp_yes (v u : Value) (S G : List Int) (r : Nat) (w : World) (hv : IL w v S) (hu : IL w u G) (hn : S.length ≤ 1048576) (hm : G.length ≤ 1048576) (h : canB S G r = true) :
    Calls Try.prog 35 #[v, u, .int .i64 r] w (SaysJIB (gpA S G r) (gpI S G r) true w) := by
  have H := Lib.hid h
  have ok := canB_ok h
  have OK := Lib.hid ok
  have n2 := ok.s.l2
  have hr := ok.r1
  have HL := Lib.hid ok.l
  have htl := ok.l
  have HA := Lib.hid (gpA_yes h)
  have HE := Lib.hid (gpI_yes h)
  obtain ⟨i0, hi, hz0, hz1, hz2⟩ := info_parts Try.infoI
  have HPL := Lib.hid (gpP_len S G r)
  have HV := Lib.hid hv
  have HU := Lib.hid hu
  rcases hv with ⟨hz, -⟩ | ⟨b, off, cap, rfl, hpos, hbl, hcell⟩
  · have := ok.s.l1; rw [hz] at this; simp at this
  rcases hu with ⟨hz, -⟩ | ⟨b2, off2, cap2, rfl, hpos2, hbl2, hcell2⟩
  · rw [hz] at htl; simp at htl; omega
  have HC := Lib.hid hcell
  have HC2 := Lib.hid hcell2
  have HOL := Lib.hid (thO_len S G)
  rw [HE.out, HA.out]
  clear hcell hcell2 h ok HE HA htl
  go_enter Try.func35, Try.ntmps35
  go_wp2_with fail
  go_at_call 83; refine (areThings_is true _ _ S G r _ HV.out HU.out hn hm H.out).mono ?_; rintro e w1 ⟨rfl, m1, rfl⟩
  go_wp2_with fail
  go_at_call 84; refine (byQuotient_any _ _ S G r _ (VL.drewN HV.out m1) (VL.drewN HU.out m1) OK.out).mono ?_; rintro e w2 ⟨o, rfl, io, b2o⟩
  have B0 := Lib.hid (below_drewN (Below.refl w.heap.size w) m1)
  have BW := Lib.hid (B0.out.trans (b2o.mono B0.out.size))
  obtain ⟨_, hz | ⟨b3, off3, cap3, rfl, hpos3, hge3, hbl3, hfr3, hcell3⟩⟩ := io
  · have := congrArg List.length hz.1
    rw [intsN_len, HOL.out, List.length_nil] at this
    omega
  have HC3 := Lib.hid hcell3
  have e3 : (intsN (thO S G)).length = S.length := by rw [intsN_len, HOL.out]
  rw [e3]
  have E3 := Lib.hid e3
  clear b2o hcell3 hfr3 hpos3 hge3 e3 B0
  have HN := Lib.hid (Grows.nil (Value.int .i64) 2 w2.heap.size w2)
  go_wp2_with fail
  go_loopg [9, 10, 11, 24] S.length (fun gk p a c i wr => ∃ (k s l : Nat) (T : List Nat), k ≤ S.length ∧ gk + k = S.length ∧ i = .int .i64 k ∧ a = .int .i64 s ∧ c = .int .i64 l ∧ Below w2.heap.size w2 wr ∧ Grows (Value.int .i64) 2 w2.heap.size p (intsN T) wr ∧ T.length ≤ k ∧ s ≤ 1000 * k ∧ l ≤ 1000 ∧ T ++ gpT S ((thO S G).drop k) l = gpP S G r ∧ s + gpG S G ((thO S G).drop k) l = gpG S G (thO S G) r)
  case atStart => exact ⟨0, 0, r, [], Nat.zero_le _, by omega, rfl, rfl, rfl, Below.refl _ _, HN.out, by simp, by omega, by omega, rfl, by simp⟩
  case round =>
    obtain ⟨k, s, l, T, hk, hgk, rfl, rfl, rfl, hB, hG, hTl, hs, hl, hE, hS⟩ := hrel
    have HE := Lib.hid hE
    have HS := Lib.hid hS
    have HB := Lib.hid hB
    have HG := Lib.hid hG
    have HIL := Lib.hid (intsN_len T)
    clear hE hS
    by_cases hlt : k < S.length
    · have hin := thO_lt (S := S) (G := G) hlt
      have BR := Lib.hid (BW.out.trans (hB.mono BW.out.size))
      have y3 := (show wr.cell? ⟨b3, off3 + k, none⟩ = some (.int .i64 (((thO S G).getD k 0 : Nat) : Int)) from (hB.cell (p := ⟨b3, off3 + k, none⟩) hbl3).trans ((HC3.out k (by rw [E3.out]; exact hlt)).trans (by rw [intsN_at (by rw [HOL.out]; exact hlt)])))
      have y1 := (show wr.cell? ⟨b, off + (thO S G).getD k 0, none⟩ = some (.int .i64 (S.getD ((thO S G).getD k 0) 0)) from (BR.out.cell (p := ⟨b, off + (thO S G).getD k 0, none⟩) hbl).trans (HC.out _ hin))
      have y2 := (show wr.cell? ⟨b2, off2 + (thO S G).getD k 0, none⟩ = some (.int .i64 (G.getD ((thO S G).getD k 0) 0)) from (BR.out.cell (p := ⟨b2, off2 + (thO S G).getD k 0, none⟩) hbl2).trans (HC2.out _ (by rw [HL.out]; exact hin)))
      have hso := OK.out.at hin
      have hi2 : (((thO S G).getD k 0 : Nat) : Int) < (S.length : Int) := by omega
      have hi3 : (((thO S G).getD k 0 : Nat) : Int) < (G.length : Int) := by have := HL.out; omega
      rw [hso.s] at y1
      rw [hso.g] at y2
      have g1 := hso.s1
      have g2 := hso.s2
      have g3 := hso.g2
      have hkt : k < (thO S G).length := by rw [HOL.out]; exact hlt
      clear hB hG
      by_cases hgt : l < szN S ((thO S G).getD k 0)
      · have HR : Hid (T ++ gpT S ((thO S G).drop (k + 1)) l = gpP S G r) := Lib.hid (by rw [← HE.out, gpT_no hkt hgt])
        have HR2 : Hid (s + gpG S G ((thO S G).drop (k + 1)) l = gpG S G (thO S G) r) := Lib.hid (by rw [← HS.out, gpG_no hkt hgt])
        clear hso hkt
        generalize (thO S G).getD k 0 = t at y1 y2 y3 hin hi2 hi3 g1 g2 g3 hgt
        generalize szN S t = q at y1 g1 g2 hgt
        have hgt2 : ¬ (q : Int) ≤ (l : Int) := by omega
        go_wp2_with fail
        go_roundg (gk - 1)
        case measure => omega
        case rel => exact ⟨k + 1, s, l, T, by omega, by omega, by go_num, rfl, rfl, HB.out, HG.out, by omega, by omega, hl, HR.out, HR2.out⟩
      · have hR := gpT_yes (S := S) hkt hgt
        have hR2 := gpG_yes (S := S) (G := G) hkt hgt
        have HR := Lib.hid hR
        have HR2 := Lib.hid hR2
        clear hso hR hR2 hkt
        generalize (thO S G).getD k 0 = t at y1 y2 y3 hin hi2 hi3 g1 g2 g3 hgt HR HR2
        generalize szN S t = q at y1 g1 g2 hgt HR HR2
        generalize szN G t = g at y2 g3 HR2
        have hgt2 : (q : Int) ≤ (l : Int) := by omega
        obtain ⟨l2, rfl⟩ : ∃ l2, l = q + l2 := ⟨l - q, by omega⟩
        have HR3 : Hid ((T ++ [t]) ++ gpT S ((thO S G).drop (k + 1)) l2 = gpP S G r) := Lib.hid (by rw [← HE.out, HR.out, Nat.add_sub_cancel_left, List.append_assoc]; rfl)
        have HR4 : Hid (s + g + gpG S G ((thO S G).drop (k + 1)) l2 = gpG S G (thO S G) r) := Lib.hid (by rw [← HS.out, HR2.out, Nat.add_sub_cancel_left, Nat.add_assoc])
        have ws : IntKind.i64.wrap ((s : Int) + (g : Int)) = (s : Int) + (g : Int) := IntWalk.i64_in _ (by omega)
        have wl : IntKind.i64.wrap (((q + l2 : Nat) : Int) - (q : Int)) = (l2 : Int) := by rw [show ((q + l2 : Nat) : Int) - (q : Int) = (l2 : Int) by omega]; exact IntWalk.i64_in _ (by omega)
        have wl2 : IntKind.i64.wrap ((q : Int) + (l2 : Int) - (q : Int)) = (l2 : Int) := by rw [show (q : Int) + (l2 : Int) - (q : Int) = (l2 : Int) by omega]; exact IntWalk.i64_in _ (by omega)
        have HQ1 := Lib.hid (fun wx (hb : Below w2.heap.size w2 wx) => (show wx.cell? ⟨b, off + t, none⟩ = some (.int .i64 (q : Int)) from by rw [(BW.out.trans (hb.mono BW.out.size)).cell (p := ⟨b, off + t, none⟩) hbl, ← BR.out.cell (p := ⟨b, off + t, none⟩) hbl]; exact y1))
        have HQ2 := Lib.hid (fun wx (hb : Below w2.heap.size w2 wx) => (show wx.cell? ⟨b2, off2 + t, none⟩ = some (.int .i64 (g : Int)) from by rw [(BW.out.trans (hb.mono BW.out.size)).cell (p := ⟨b2, off2 + t, none⟩) hbl2, ← BR.out.cell (p := ⟨b2, off2 + t, none⟩) hbl2]; exact y2))
        clear HR HR2 hgt
        go_wp2_with (at_builtin; refine wpList_append_own _ rfl _ _ 25 rfl w2.heap.size 2 i0 (.int .i64 0) 1 8 Try.underlying25 hi hz0 hz1 hz2 rfl (by decide) _ _ _ rfl (Grows.alloc HG.out _) ⟨wr.heap.size, 0, none⟩ 1 1 [.int .i64 (t : Int)] rfl rfl ?c1 ?c2 ?c3 ?c4 ?c5 ?_)
        case c1 => exact one_new
        case c2 => intro u hu; simp at hu; subst hu; rfl
        case c3 => have := HIL.out; unfold maxLen; omega
        case c4 => have := HIL.out; omega
        case c5 => have := HB.out.size; simp; omega
        intro v' w' hown hgrow _
        have HN3 : Hid (Below w2.heap.size w2 w' ∧ Grows (Value.int .i64) 2 w2.heap.size v' (intsN (T ++ [t])) w') := Lib.hid ⟨(HB.out.alloc HB.out.size _).grown hgrow (by have := HB.out.size; simp; omega) (fun g hg => HG.out.block g hg), by rw [intsN_app]; exact Grows.more (news := [(t : Int)]) rfl hown⟩
        have z1 := HQ1.out w' HN3.out.1
        have z2 := HQ2.out w' HN3.out.1
        clear hown hgrow y1 y2 y3
        go_wp2_with fail
        go_roundg (gk - 1)
        case measure => omega
        case rel => exact ⟨k + 1, s + g, l2, T ++ [t], by omega, by omega, by go_num, by simp, by simp, HN3.out.1, HN3.out.2, by simp; omega, by omega, by omega, HR3.out, HR4.out⟩
    · obtain rfl : k = S.length := by omega
      have hT : T = gpP S G r := by rw [← HE.out, gpT_end (HOL.out).symm, List.append_nil]
      have hS2 : s = gpG S G (thO S G) r := by rw [← HS.out, gpG_end (HOL.out).symm]; rfl
      have HF : Hid (gpF S G r S.length = sortL (intsN T)) := Lib.hid (by rw [hT]; exact (sort_filter S G r).symm)
      have HS2 := Lib.hid hS2
      have BR := Lib.hid (BW.out.trans (hB.mono BW.out.size))
      obtain ⟨-, hh⟩ := hG.si (d := (0 : Int))
      clear hB hG hT hS2
      rcases hh with ⟨hz, ao, cp, rfl⟩ | ⟨b5, off5, cap5, rfl, hpos5, hge5, hbl5, hfr5, hcell5⟩
      · have HZ : Hid (sortL (intsN T) = []) := Lib.hid (by rw [hz]; exact List.mergeSort_nil ..)
        clear hz
        go_wp2_with fail
        go_at_call 85; refine (sortI_none ao cp _).mono ?_; rintro e w5 ⟨rfl, rfl⟩
        go_wp2_with fail
        refine bodyPost_ret (v := .tuple #[.slice ao 0 cp, .int .i64 s, .bool true]) (by simp [results, Try.results35, go_sem]) rfl ?_
        rw [← HS2.out, HF.out, HZ.out]
        exact ⟨_, rfl, SI.nil _ (Nat.le_refl _) _ _, BR.out⟩
      · have HA5 := Lib.hid (show Arr (Value.int .i64) 0 wr b5 off5 (intsN T) from ⟨hcell5, hfr5⟩)
        have HSL := Lib.hid (sortL_len (intsN T))
        clear hcell5 hfr5
        go_wp2_with fail
        go_at_call 85; refine (sortI_any b5 off5 _ (intsN T) _ HA5.out hbl5 (by have := HIL.out; omega)).mono ?_; rintro e w5 ⟨rfl, t5, a5⟩
        have B5 := Lib.hid (BR.out.trans ((t5.below (Nat.le_of_lt hbl5)).mono (Nat.le_trans BW.out.size hge5)))
        have hb5 : b5 < w5.heap.size := Nat.lt_of_lt_of_le hbl5 t5.size
        have A5 := Lib.hid a5
        obtain ⟨n5, hn5⟩ : ∃ n5, n5 = (intsN T).length := ⟨_, rfl⟩
        have HN5 := Lib.hid hn5
        rw [← hn5] at hpos5 ⊢
        clear t5 a5 hn5
        go_wp2_with fail
        refine bodyPost_ret (v := .tuple #[.slice (some ⟨b5, off5, none⟩) n5 (n5 + cap5), .int .i64 s, .bool true]) (by simp [results, Try.results35, go_sem]) rfl ?_
        rw [← HS2.out, HF.out]
        exact ⟨_, rfl, ⟨Nat.le_refl _, Or.inr ⟨b5, off5, cap5, by rw [HSL.out, HN5.out], by rw [HSL.out, ← HN5.out]; exact hpos5, Nat.le_trans BW.out.size hge5, hb5, A5.out.free, A5.out.cells⟩⟩, B5.out⟩
theorem implGreedyPack_any (v : Value) (S : List Int) (u : Value) (G : List Int) (r : Int) (w : World) (hv : IL w v S) (hu : IL w u G) (o : OKI S) (o2 : OKI G) (_ : -9223372036854775808 ≤ r ∧ r ≤ 9223372036854775807) :
    Calls Try.prog 35 #[v, u, .int .i64 r] w (SaysJIB (gpA S G r) (gpI S G r) (canB S G r) w) := by
  have hn := o.size
  have hm := o2.size
  cases h1 : canB S G r with
  | false =>
    rw [gpA_no h1, gpI_no h1]
    have HV := Lib.hid hv
    have HU := Lib.hid hu
    obtain ⟨ao, cap, rfl⟩ := hv.long
    obtain ⟨ao2, cap2, rfl⟩ := hu.long
    have H1 := Lib.hid h1
    clear h1 hv hu
    go_enter Try.func35, Try.ntmps35
    go_wp2_with fail
    go_at_call 83; refine (areThings_is false _ _ S G r _ HV.out HU.out hn hm H1.out).mono ?_; rintro e w' ⟨rfl, m, rfl⟩
    go_wp2_with fail
    refine bodyPost_ret (v := .tuple #[.slice none 0 0, .int .i64 0, .bool false]) (by simp [results, Try.results35, go_sem]) rfl ?_
    exact ⟨_, rfl, SI.nil _ (Nat.le_refl _) _ _, below_drewN (Below.refl _ _) _⟩
  | true =>
    obtain ⟨q, rfl⟩ := pbI_nat h1
    exact implGp_yes v u S G q w hv hu hn hm h1
end Go.Proofs.Ytbaaocgdpgoggaa
