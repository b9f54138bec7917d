/- Packs by quotients: the model. -/
import Derived.Test.YtbaaocgdpgoggaaPbI
import Derived.Test.YtbaaocgdpgoggaaGp0
import Derived.Test.YtbaaocgdpgoggaaTk
namespace Go.Proofs.Ytbaaocgdpgoggaa
open Go.RowKit Go.ChangeShapes Go.WideShapes

set_option maxRecDepth 100000 in
set_option maxHeartbeats 8000000 in
theorem specGp_yes (v u : Value) (S G : List Int) (r : Nat) (w : World) (hv : IL w v S) (hu : IL w u G) (hn : S.length ≤ 1048576) (hm : G.length ≤ 1048576) (h : canB S G r = true) :
    Calls Try.prog 34 #[v, u, .int .i64 r] w (SaysJIB (gpA S G r) (gpI S G r) true w) := by
  have H := Lib.hid h
  have ok := canB_ok h
  have OK := Lib.hid ok
  have n2 := ok.s.l2
  have hr := ok.r1
  have HL := Lib.hid ok.l
  have htl := ok.l
  have HA := Lib.hid (gpA_yes h)
  have HE := Lib.hid (gpI_yes h)
  obtain ⟨i0, hi, hz0, hz1, hz2⟩ := info_parts Try.infoI
  have HPL := Lib.hid (gpP_len S G r)
  have HV := Lib.hid hv
  have HU := Lib.hid hu
  rcases hv with ⟨hz, -⟩ | ⟨b, off, cap, rfl, hpos, hbl, hcell⟩
  · have := ok.s.l1; rw [hz] at this; simp at this
  rcases hu with ⟨hz, -⟩ | ⟨b2, off2, cap2, rfl, hpos2, hbl2, hcell2⟩
  · rw [hz] at htl; simp at htl; omega
  have HC := Lib.hid hcell
  have HC2 := Lib.hid hcell2
  have HOL := Lib.hid (thO_len S G)
  rw [HE.out, HA.out]
  have HFL := Lib.hid (gpF_len S G r)
  have hmk2 := run_make_row' (P := Try.prog) 101 4 (.bool false) 1 Try.underlying101 Try.infoBo rfl .i64 .i64 S.length (by omega) (by omega)
  clear hcell hcell2 h ok HE HA htl
  have HTK := Lib.hid (fun m => take_start (w.drewN m) S.length 4)
  go_enter Try.func34, Try.ntmps34
  go_wp2_with fail
  go_at_call 81; refine (l04Can_is true _ _ S G r _ HV.out HU.out hn hm H.out).mono ?_; rintro e w1 ⟨rfl, m1, rfl⟩
  obtain ⟨W1, hW1⟩ : ∃ W1, W1 = (w.drewN m1).alloc (.cells (madeCells #[.bool false] S.length) 4) := ⟨_, rfl⟩
  have hB1 : Below w.heap.size w W1 := by rw [hW1]; exact below_drewN (Below.refl w.heap.size w) m1 |>.alloc (Nat.le_refl _) _
  have B1 := Lib.hid hB1
  have T1 : Hid (TakeAt W1 w.heap.size S.length (fun _ => false) W1) := Lib.hid (by rw [hW1]; exact HTK.out m1)
  have hzW : W1.heap.size = w.heap.size + 1 := by rw [hW1]; simp
  have HWW := Lib.hid hW1
  clear hW1 hB1
  go_wp2_with (rw [← HWW.out])
  go_at_call 82; refine (l04Order_any _ _ S G _ (HV.out.below B1.out (Nat.le_refl _)) (HU.out.below B1.out (Nat.le_refl _)) (by omega) HL.out OK.out.sAll OK.out.gAll).mono ?_; rintro e w2 ⟨o, rfl, io, b2o⟩
  rw [show ordN (ltQ (fun i => S.getD i 0) (fun i => G.getD i 0)) S.length = thO S G from rfl] at io
  have BW := Lib.hid (B1.out.trans (b2o.mono B1.out.size))
  have T2 := Lib.hid (T1.out.over b2o)
  have hz2w : w.heap.size < w2.heap.size := by have := b2o.size; omega
  obtain ⟨_, hz | ⟨b3, off3, cap3, rfl, hpos3, hge3, hbl3, hfr3, hcell3⟩⟩ := io
  · have := congrArg List.length hz.1
    rw [intsN_len, HOL.out, List.length_nil] at this
    omega
  have HC3 := Lib.hid hcell3
  have e3 : (intsN (thO S G)).length = S.length := by rw [intsN_len, HOL.out]
  rw [e3]
  have E3 := Lib.hid e3
  clear b2o hcell3 hfr3 hpos3 e3
  go_wp2_with fail
  go_loopg [10, 11, 13] S.length (fun gk c a i wr => ∃ (k s l : Nat) (T : List Nat), k ≤ S.length ∧ gk + k = S.length ∧ i = .int .i64 k ∧ a = .int .i64 s ∧ c = .int .i64 l ∧ TakeAt w2 w.heap.size S.length (fun j => decide (j ∈ T)) wr ∧ s ≤ 1000 * k ∧ l ≤ 1000 ∧ T ++ gpT S ((thO S G).drop k) l = gpP S G r ∧ s + gpG S G ((thO S G).drop k) l = gpG S G (thO S G) r)
  case atStart => exact ⟨0, 0, r, [], Nat.zero_le _, by omega, rfl, rfl, rfl, T2.out.to (fun j => by simp), by omega, by omega, rfl, by simp⟩
  case round =>
    obtain ⟨k, s, l, T, hk, hgk, rfl, rfl, rfl, hT, hs, hl, hE, hS⟩ := hrel
    have HE := Lib.hid hE
    have HS := Lib.hid hS
    have HT := Lib.hid hT
    have tt := hT.turned
    have hwz := hT.turned.size
    clear hE hS
    by_cases hlt : k < S.length
    · have hin := thO_lt (S := S) (G := G) hlt
      have y3 := (show wr.cell? ⟨b3, off3 + k, none⟩ = some (.int .i64 (((thO S G).getD k 0 : Nat) : Int)) from keep_cell' ((HC3.out k (by rw [E3.out]; exact hlt)).trans (by rw [intsN_at (by rw [HOL.out]; exact hlt)])) tt (by omega))
      have y1 := (show wr.cell? ⟨b, off + (thO S G).getD k 0, none⟩ = some (.int .i64 (S.getD ((thO S G).getD k 0) 0)) from keep_cell' ((BW.out.cell (p := ⟨b, off + (thO S G).getD k 0, none⟩) hbl).trans (HC.out _ hin)) tt (by omega))
      have y2 := (show wr.cell? ⟨b2, off2 + (thO S G).getD k 0, none⟩ = some (.int .i64 (G.getD ((thO S G).getD k 0) 0)) from keep_cell' ((BW.out.cell (p := ⟨b2, off2 + (thO S G).getD k 0, none⟩) hbl2).trans (HC2.out _ (by rw [HL.out]; exact hin))) tt (by omega))
      have hso := OK.out.at hin
      have hi2 : (((thO S G).getD k 0 : Nat) : Int) < (S.length : Int) := by omega
      have hi3 : (((thO S G).getD k 0 : Nat) : Int) < (G.length : Int) := by have := HL.out; omega
      rw [hso.s] at y1
      rw [hso.g] at y2
      have g1 := hso.s1
      have g2 := hso.s2
      have g3 := hso.g2
      have hkt : k < (thO S G).length := by rw [HOL.out]; exact hlt
      by_cases hgt : l < szN S ((thO S G).getD k 0)
      · have HR : Hid (T ++ gpT S ((thO S G).drop (k + 1)) l = gpP S G r) := Lib.hid (by rw [← HE.out, gpT_no hkt hgt])
        have HR2 : Hid (s + gpG S G ((thO S G).drop (k + 1)) l = gpG S G (thO S G) r) := Lib.hid (by rw [← HS.out, gpG_no hkt hgt])
        clear hso hkt hT tt
        generalize (thO S G).getD k 0 = t at y1 y2 y3 hin hi2 hi3 g1 g2 g3 hgt
        generalize szN S t = q at y1 g1 g2 hgt
        have hgt2 : ¬ (q : Int) ≤ (l : Int) := by omega
        go_wp2_with fail
        go_roundg (gk - 1)
        case measure => omega
        case rel => exact ⟨k + 1, s, l, T, by omega, by omega, by go_num, rfl, rfl, HT.out, by omega, hl, HR.out, HR2.out⟩
      · have hR := gpT_yes (S := S) hkt hgt
        have hR2 := gpG_yes (S := S) (G := G) hkt hgt
        have HR := Lib.hid hR
        have HR2 := Lib.hid hR2
        clear hso hR hR2 hkt tt
        generalize (thO S G).getD k 0 = t at y1 y2 y3 hin hi2 hi3 g1 g2 g3 hgt HR HR2
        generalize szN S t = q at y1 g1 g2 hgt HR HR2
        generalize szN G t = g at y2 g3 HR2
        have hgt2 : (q : Int) ≤ (l : Int) := by omega
        obtain ⟨l2, rfl⟩ : ∃ l2, l = q + l2 := ⟨l - q, by omega⟩
        have HR3 : Hid ((T ++ [t]) ++ gpT S ((thO S G).drop (k + 1)) l2 = gpP S G r) := Lib.hid (by rw [← HE.out, HR.out, Nat.add_sub_cancel_left, List.append_assoc]; rfl)
        have HR4 : Hid (s + g + gpG S G ((thO S G).drop (k + 1)) l2 = gpG S G (thO S G) r) := Lib.hid (by rw [← HS.out, HR2.out, Nat.add_sub_cancel_left, Nat.add_assoc])
        have ws : IntKind.i64.wrap ((s : Int) + (g : Int)) = (s : Int) + (g : Int) := IntWalk.i64_in _ (by omega)
        have wl : IntKind.i64.wrap (((q + l2 : Nat) : Int) - (q : Int)) = (l2 : Int) := by rw [show ((q + l2 : Nat) : Int) - (q : Int) = (l2 : Int) by omega]; exact IntWalk.i64_in _ (by omega)
        have wl2 : IntKind.i64.wrap ((q : Int) + (l2 : Int) - (q : Int)) = (l2 : Int) := by rw [show (q : Int) + (l2 : Int) - (q : Int) = (l2 : Int) by omega]; exact IntWalk.i64_in _ (by omega)
        have x1 := hT.ev t hin
        have x2 := hT.free t
        have HN := Lib.hid ((hT.set hin).to (f' := fun j => decide (j ∈ T ++ [t])) (fun j => by by_cases e : j = t <;> simp [e]))
        have hbw : b ≠ w.heap.size := by omega
        have hb2w : b2 ≠ w.heap.size := by omega
        generalize decide (t ∈ T) = dt at x1
        clear HR HR2 hgt hT
        go_wp2_with fail
        go_roundg (gk - 1)
        case measure => omega
        case rel => exact ⟨k + 1, s + g, l2, T ++ [t], by omega, by omega, by go_num, by simp, by simp, HN.out, by omega, by omega, HR3.out, HR4.out⟩
    · obtain rfl : k = S.length := by omega
      have hT2 : T = gpP S G r := by rw [← HE.out, gpT_end (HOL.out).symm, List.append_nil]
      have hS2 : s = gpG S G (thO S G) r := by rw [← HS.out, gpG_end (HOL.out).symm]; rfl
      have HS2 := Lib.hid hS2
      obtain ⟨w3, rfl⟩ : ∃ x : World, x = wr := ⟨_, rfl⟩
      have HT3 : Hid (TakeAt w2 w.heap.size S.length (fun j => decide (j ∈ gpP S G r)) w3) := Lib.hid (by rw [← hT2]; exact hT)
      have B3 := Lib.hid (BW.out.trans (tt.below (Nat.le_of_lt hz2w)))
      have HE3 := Lib.hid (Grows.empty (Value.int .i64) 2 w3.heap.size w3 (Nat.le_refl _))
      have HBE := Lib.hid (below_alloc w3 (.cells #[] 2))
      have hz3 : w.heap.size < w3.heap.size := by omega
      clear hT hT2 hS2 tt HT HE HS
      go_wp2_with fail
      go_loopg [15, 16] S.length (fun gk v i wr => ∃ k : Nat, k ≤ S.length ∧ gk + k = S.length ∧ i = .int .i64 k ∧ Below w3.heap.size w3 wr ∧ Grows (Value.int .i64) 2 w3.heap.size v (gpF S G r k) wr)
      case atStart => exact ⟨0, Nat.zero_le _, by omega, rfl, HBE.out, HE3.out⟩
      case round =>
        obtain ⟨k, hk, hgk, rfl, hB, hG⟩ := hrel
        have HBR := Lib.hid hB
        have HG := Lib.hid hG
        by_cases hlt : k < S.length
        · have x1 : wr.cell? ⟨w.heap.size, k, none⟩ = some (.bool (decide (k ∈ gpP S G r))) := by rw [hB.cell (p := ⟨w.heap.size, k, none⟩) hz3]; exact HT3.out.ev k hlt
          clear hB hG
          by_cases hq : k ∈ gpP S G r
          · have HN2 := Lib.hid (gpF_yes hq)
            rw [decide_eq_true hq] at x1
            clear hq
            go_wp2_with (at_builtin; refine wpList_append_own _ rfl _ _ 25 rfl w3.heap.size 2 i0 (.int .i64 0) 1 8 Try.underlying25 hi hz0 hz1 hz2 rfl (by decide) _ _ _ rfl (Grows.alloc HG.out _) ⟨wr.heap.size, 0, none⟩ 1 1 [.int .i64 (k : Int)] rfl rfl ?c1 ?c2 ?c3 ?c4 ?c5 ?_)
            case c1 => exact one_new
            case c2 => intro u hu; simp at hu; subst hu; rfl
            case c3 => have := HFL.out k; unfold maxLen; omega
            case c4 => have := HFL.out k; omega
            case c5 => have := HBR.out.size; simp; omega
            intro v' w' hown hgrow _
            have HN3 : Hid (Below w3.heap.size w3 w' ∧ Grows (Value.int .i64) 2 w3.heap.size v' (gpF S G r (k + 1)) w') := Lib.hid ⟨(HBR.out.alloc HBR.out.size _).grown hgrow (by have := HBR.out.size; simp; omega) (fun g hg => HG.out.block g hg), by rw [HN2.out]; exact Grows.more (news := [(k : Int)]) rfl hown⟩
            clear hown hgrow
            go_wp2_with fail
            go_roundg (gk - 1)
            case measure => omega
            case rel => exact ⟨k + 1, by omega, by omega, by go_num, HN3.out.1, HN3.out.2⟩
          · have HN2 := Lib.hid (gpF_no hq)
            rw [decide_eq_false hq] at x1
            clear hq
            go_wp2_with fail
            go_roundg (gk - 1)
            case measure => omega
            case rel => exact ⟨k + 1, by omega, by omega, by go_num, HBR.out, by rw [HN2.out]; exact HG.out⟩
        · obtain rfl : k = S.length := by omega
          have HR := Lib.hid (hG.si (d := (0 : Int)))
          clear hB hG
          obtain ⟨sx, sk, rfl⟩ := HR.out.len
          go_wp2_with fail
          refine bodyPost_ret (v := .tuple #[.slice sx (gpF S G r S.length).length sk, .int .i64 s, .bool true]) (by simp [results, Try.results34, go_sem]) rfl ?_
          rw [← HS2.out]
          exact ⟨_, rfl, SI.wide HR.out (lo' := w.heap.size) B3.out.size (Nat.le_refl _) (Nat.le_refl _), B3.out.trans (HBR.out.mono B3.out.size)⟩
theorem specGreedyPack_any (v : Value) (S : List Int) (u : Value) (G : List Int) (r : Int) (w : World) (hv : IL w v S) (hu : IL w u G) (o : OKI S) (o2 : OKI G) (_ : -9223372036854775808 ≤ r ∧ r ≤ 9223372036854775807) :
    Calls Try.prog 34 #[v, u, .int .i64 r] w (SaysJIB (gpA S G r) (gpI S G r) (canB S G r) w) := by
  have hn := o.size
  have hm := o2.size
  cases h1 : canB S G r with
  | false =>
    rw [gpA_no h1, gpI_no h1]
    have HV := Lib.hid hv
    have HU := Lib.hid hu
    obtain ⟨ao, cap, rfl⟩ := hv.long
    obtain ⟨ao2, cap2, rfl⟩ := hu.long
    have H1 := Lib.hid h1
    clear h1 hv hu
    go_enter Try.func34, Try.ntmps34
    go_wp2_with fail
    go_at_call 81; refine (l04Can_is false _ _ S G r _ HV.out HU.out hn hm H1.out).mono ?_; rintro e w' ⟨rfl, m, rfl⟩
    go_wp2_with fail
    refine bodyPost_ret (v := .tuple #[.slice none 0 0, .int .i64 0, .bool false]) (by simp [results, Try.results34, go_sem]) rfl ?_
    exact ⟨_, rfl, SI.nil _ (Nat.le_refl _) _ _, below_drewN (Below.refl _ _) _⟩
  | true =>
    obtain ⟨q, rfl⟩ := pbI_nat h1
    exact specGp_yes v u S G q w hv hu hn hm h1
end Go.Proofs.Ytbaaocgdpgoggaa
