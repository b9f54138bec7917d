/- Bins by the first fit: the model. -/
import Derived.Test.YtbaaocgdpgoggaaFbM
import Derived.Test.YtbaaocgdpgoggaaFbI
import Derived.Test.YtbaaocgdpgoggaaOrdQ
import Derived.StillTailTactics
import Derived.Deep.QuietTactic
import Derived.BigQuiet
namespace Go.Proofs.Ytbaaocgdpgoggaa
open Go.RowKit Go.ChangeShapes Go.WideShapes

def onesL (k : Nat) : List Int := List.replicate k 1
theorem onesL_len (k : Nat) : (onesL k).length = k := List.length_replicate
theorem onesL_up (k : Nat) : onesL (k + 1) = onesL k ++ [1] := List.replicate_succ'
theorem onesL_at {k i : Nat} (h : i < k) : (onesL k).getD i 0 = 1 := by simp [onesL, List.getD, h]
theorem onesL_in (k i : Nat) : 0 ≤ (onesL k).getD i 0 ∧ (onesL k).getD i 0 ≤ 1000 := by
  by_cases h : i < k
  · rw [onesL_at h]; omega
  · simp [onesL, List.getD, h]
set_option maxRecDepth 100000 in
set_option maxHeartbeats 16000000 in
theorem specFb_yes (v : Value) (S : List Int) (r : Nat) (w : World) (hv : IL w v S) (hn : S.length ≤ 1048576) (h : fitsB S r = true) :
    Calls Try.prog 36 #[v, .int .i64 r] w (SaysJIB (fbA S r) (fbN S r) true w) := by
  obtain ⟨i0, hi, hz0, hz1, hz2⟩ := info_parts Try.infoI
  have H := Lib.hid h
  have OK := Lib.hid (fits_fb h)
  have n1 := OK.out.n1
  have n2 := OK.out.n2
  have hr := OK.out.r2
  have HA := Lib.hid (fbA_yes h)
  have HE := Lib.hid (fbN_yes h)
  have HV := Lib.hid hv
  have HOL := Lib.hid (fbO_len S)
  have HON1 := Lib.hid (onesL_len)
  have HOU := Lib.hid (onesL_up)
  have hmk := run_make_row' (P := Try.prog) 25 2 (.int .i64 0) 8 Try.underlying25 Try.infoI rfl .i64 .i64 S.length (by omega) (by omega)
  rcases hv with ⟨hz, -⟩ | ⟨b, off, cap, rfl, hpos, hbl, hcell⟩
  · rw [hz] at n1; simp at n1
  have HC := Lib.hid hcell
  rw [HE.out, HA.out]
  clear hcell h
  go_enter Try.func36, Try.ntmps36
  go_wp2_with fail
  go_at_call 86; refine (l04Fits_is true _ S r _ HV.out hn H.out).mono ?_; rintro e w1 ⟨rfl, m1, rfl⟩
  obtain ⟨w0, hw0⟩ : ∃ w0, w0 = w.drewN m1 := ⟨_, rfl⟩
  have B0 : Hid (Below w.heap.size w w0) := Lib.hid (by rw [hw0]; exact below_drewN (Below.refl _ _) m1)
  rw [← hw0]
  have HE0 := Lib.hid (Grows.empty (Value.int .i64) 2 w0.heap.size w0 (Nat.le_refl _))
  have HBE := Lib.hid (below_alloc w0 (.cells #[] 2))
  clear hw0
  go_wp2_with fail
  go_loopg [7, 8] S.length (fun gk s i wr => ∃ k : Nat, k ≤ S.length ∧ gk + k = S.length ∧ i = .int .i64 k ∧ Below w0.heap.size w0 wr ∧ Grows (Value.int .i64) 2 w0.heap.size s (onesL k) wr)
  case atStart => exact ⟨0, Nat.zero_le _, by omega, rfl, HBE.out, HE0.out⟩
  case round =>
    obtain ⟨k, hk, hgk, rfl, hB, hG⟩ := hrel
    have HB := Lib.hid hB
    have HG := Lib.hid hG
    by_cases hlt : k < S.length
    · clear hB hG
      go_wp2_with (at_builtin; refine wpList_append_own _ rfl _ _ 25 rfl w0.heap.size 2 i0 (.int .i64 0) 1 8 Try.underlying25 hi hz0 hz1 hz2 rfl (by decide) _ _ _ rfl (Grows.alloc HG.out _) ⟨wr.heap.size, 0, none⟩ 1 1 [.int .i64 1] rfl rfl ?c1 ?c2 ?c3 ?c4 ?c5 ?_)
      case c1 => exact one_new
      case c2 => intro u hu; simp at hu; subst hu; rfl
      case c3 => rw [HON1.out]; unfold maxLen; omega
      case c4 => rw [HON1.out]; omega
      case c5 => have := HB.out.size; simp; omega
      intro v' w' hown hgrow _
      have HN3 : Hid (Below w0.heap.size w0 w' ∧ Grows (Value.int .i64) 2 w0.heap.size v' (onesL (k + 1)) w') := Lib.hid ⟨(HB.out.alloc HB.out.size _).grown hgrow (by have := HB.out.size; simp; omega) (fun g hg => HG.out.block g hg), by rw [HOU.out]; exact Grows.more (news := [(1 : Int)]) rfl hown⟩
      clear hown hgrow
      go_wp2_with fail
      go_roundg (gk - 1)
      case measure => omega
      case rel => exact ⟨k + 1, by omega, by omega, by go_num, HN3.out.1, HN3.out.2⟩
    · obtain rfl : k = S.length := by omega
      obtain ⟨w1, rfl⟩ : ∃ x : World, x = wr := ⟨_, rfl⟩
      have hI : IL w1 _ (onesL S.length) := SI.vl (Grows.si hG)
      have HI := Lib.hid hI
      have B1 := Lib.hid (B0.out.trans (hB.mono B0.out.size))
      clear hB hG hI HB HG HE0 HBE
      go_wp2_with fail
      go_at_call 82; refine (l04Order_any _ _ (onesL S.length) S _ HI.out (HV.out.below B1.out (Nat.le_refl _)) (by rw [HON1.out]; omega) (by rw [HON1.out]) (onesL_in _) OK.out.sAll).mono ?_; rintro e w2 ⟨o, rfl, io, b2o⟩
      rw [HON1.out, fbO_ones (S := S) (K := onesL S.length) (fun i hi => onesL_at hi)] at io
      have B2 := Lib.hid (B1.out.trans (b2o.mono B1.out.size))
      obtain ⟨_, hz | ⟨b3, off3, cap3, rfl, hpos3, hge3, hbl3, hfr3, hcell3⟩⟩ := io
      · have := congrArg List.length hz.1
        rw [intsN_len, HOL.out, List.length_nil] at this
        omega
      have HC3 := Lib.hid hcell3
      have e3 : (intsN (fbO S)).length = S.length := by rw [intsN_len, HOL.out]
      rw [e3]
      have E3 := Lib.hid e3
      obtain ⟨w3, hw3⟩ : ∃ w3, w3 = w2.alloc (.cells (madeCells #[.int .i64 0] S.length) 2) := ⟨_, rfl⟩
      have HW3 := Lib.hid hw3
      have B23 : Hid (Below w2.heap.size w2 w3) := Lib.hid (by rw [hw3]; exact below_alloc _ _)
      have hz3 : w3.heap.size = w2.heap.size + 1 := by rw [hw3]; simp
      have A3 : Hid (Arr (Value.int .i64) 0 w3 w2.heap.size 0 (List.replicate S.length 0)) := Lib.hid (by rw [hw3]; exact fb_start w2 S.length)
      have B3 := Lib.hid (B2.out.trans (B23.out.mono B2.out.size))
      obtain ⟨B, hBB⟩ : ∃ B, B = w2.heap.size := ⟨_, rfl⟩
      have hBl : B < w3.heap.size := by omega
      have hb3B : b3 < B := by omega
      have hbB : b < B := by have := B2.out.size; omega
      have hwB : w.heap.size ≤ B := by have := B2.out.size; omega
      rw [← hBB] at A3
      have HCb := Lib.hid (fun i (hi : i < S.length) => (show w3.cell? ⟨b, off + i, none⟩ = some (.int .i64 (S.getD i 0)) from by rw [B3.out.cell (p := ⟨b, off + i, none⟩) hbl]; exact HC.out i hi))
      have HC3b := Lib.hid (fun i (hi : i < S.length) => (show w3.cell? ⟨b3, off3 + i, none⟩ = some (.int .i64 (((fbO S).getD i 0 : Nat) : Int)) from by rw [B23.out.cell (p := ⟨b3, off3 + i, none⟩) hbl3, HC3.out i (by rw [E3.out]; exact hi), intsN_at (by rw [HOL.out]; exact hi)]))
      have ST : Hid (FbAt w3 B S.length (List.replicate S.length 0) (.slice (some ⟨w3.heap.size, 0, none⟩) 0 0) [] (w3.alloc (.cells #[] 2))) := Lib.hid ⟨Turned.of_below (below_alloc w3 _) (Nat.le_refl _) |>.wide (Nat.le_refl _) (Nat.le_refl _), hBl, A3.out.below (below_alloc w3 _) hBl, by simp, Grows.empty (Value.int .i64) 2 w3.heap.size w3 (Nat.le_refl _)⟩
      clear b2o hcell3 hfr3 hpos3 e3 hw3 hz3 HI HC HC3
      go_wp2_with (rw [← HW3.out])
      rw [← hBB]
      clear hBB hmk
      go_loopg [11, 12] S.length (fun gk p i wr => ∃ (k : Nat) (L : List Nat) (Z : List Int), k ≤ S.length ∧ gk + k = S.length ∧ i = .int .i64 k ∧ FbAt w3 B S.length Z p L wr ∧ L.length ≤ k ∧ (∀ j, j < L.length → L.getD j 0 ≤ r) ∧ fbL S r ((fbO S).drop k) L = fbL S r (fbO S) [] ∧ fbZ S r ((fbO S).drop k) L Z = fbZ S r (fbO S) [] (List.replicate S.length 0))
      case atStart => exact ⟨0, [], _, Nat.zero_le _, by omega, rfl, ST.out, by simp, fun j hj => by simp at hj, rfl, rfl⟩
      case round =>
        obtain ⟨wo, rfl⟩ : ∃ x : World, x = wr := ⟨_, rfl⟩
        obtain ⟨g2, rfl⟩ : ∃ x : Nat, x = gk := ⟨_, rfl⟩
        obtain ⟨k, L, Z, hk, hgk, rfl, hF, hLl, hmo, hEL, hEZ⟩ := hrel
        have HF := Lib.hid hF
        have HEL := Lib.hid hEL
        have HEZ := Lib.hid hEZ
        have HMO := Lib.hid hmo
        have HLL := Lib.hid hLl
        have tt := hF.turned
        have hsz := hF.turned.size
        clear hEL hEZ hmo
        obtain ⟨pa, pn, pc, rfl, hpn, hpa⟩ := hF.lit2
        have HPA := Lib.hid hpa
        have HPN := Lib.hid hpn
        by_cases hlt : k < S.length
        · have hin := fbO_lt hlt
          have y3 := (show wo.cell? ⟨b3, off3 + k, none⟩ = some (.int .i64 (((fbO S).getD k 0 : Nat) : Int)) from keep_cell' (HC3b.out k hlt) tt (by omega))
          have y1 := (show wo.cell? ⟨b, off + (fbO S).getD k 0, none⟩ = some (.int .i64 (S.getD ((fbO S).getD k 0) 0)) from keep_cell' (HCb.out _ hin) tt (by omega))
          obtain ⟨s1, s2, s3⟩ := OK.out.s _ hin
          have HKT : Hid (k < (fbO S).length) := Lib.hid (by rw [HOL.out]; exact hlt)
          rw [s1] at y1
          obtain ⟨t, ht⟩ : ∃ t, (fbO S).getD k 0 = t := ⟨_, rfl⟩
          have HT := Lib.hid ht
          rw [ht] at y1 y3 s2 s3 hin
          obtain ⟨q, hq⟩ : ∃ q, szN S t = q := ⟨_, rfl⟩
          have HSQ := Lib.hid hq
          rw [hq] at y1 s2 s3
          have HQR := Lib.hid s3
          have HY1 := Lib.hid y1
          have ht2 : (t : Int) < (S.length : Int) := by omega
          clear hF s1 ht hq tt hpa y1 hpn
          go_wp2_with fail
          go_loopg [14] L.length (fun gk i wr => ∃ j : Nat, j ≤ L.length ∧ gk + j = L.length ∧ i = .int .i64 j ∧ (∀ u, u < j → L.getD u 0 < q) ∧ ∃ m, wr = wo.drewN m)
          case atStart => exact ⟨0, Nat.zero_le _, by omega, rfl, fun u hu => by omega, 0, rfl⟩
          case round =>
            clear y3
            obtain ⟨j, hj, hgj, rfl, hno, hwr⟩ := hrel
            have HNO := Lib.hid hno
            have HW2 := Lib.hid (drew_more hwr)
            have FR : Hid (FbAt w3 B S.length Z (.slice pa pn pc) L wr) := Lib.hid (by obtain ⟨m, rfl⟩ := hwr; exact HF.out.drew m)
            have y1 : wr.cell? ⟨b, off + t, none⟩ = some (.int .i64 (q : Int)) := by obtain ⟨m, rfl⟩ := hwr; exact HY1.out
            clear hno
            by_cases hjt : j < L.length
            · obtain ⟨g7, rfl, hg1, hg2⟩ := HPA.out (by omega)
              have x9 := FR.out.at HPN.out hjt
              have hjp : j < pn := by rw [HPN.out]; exact hjt
              have hjp2 : (j : Int) < (pn : Int) := by omega
              obtain ⟨y, hy⟩ : ∃ y, y = L.getD j 0 := ⟨_, rfl⟩
              have HY := Lib.hid hy
              rw [← hy] at x9
              clear hy hwr
              by_cases hyq : y < q
              · have hyq2 : (y : Int) < (q : Int) := by omega
                go_wp2_with fail
                go_quiet (fail)
                go_wp2_with fail
                go_roundg (gk - 1)
                case measure => omega
                case rel => exact ⟨j + 1, by omega, by omega, by go_num, fun u hu => by
                  by_cases e : u = j
                  · subst e; rw [← HY.out]; exact hyq
                  · exact HNO.out u (by omega), HW2.out _⟩
              · have hyq2 : ¬ (y : Int) < (q : Int) := by omega
                have hf1 : fiB q L = j := fiB_is hjt (by rw [← HY.out]; omega) HNO.out
                subst hf1
                have HWD : Hid (wideL r q L = L) := Lib.hid (by unfold wideL; rw [if_pos hjt])
                have hjne : ((fiB q L : Int) == (pn : Int)) = false := by simp; omega
                have hjne2 : ¬ (fiB q L : Int) = (pn : Int) := by omega
                go_wp2_with fail
                go_quiet (fail)
                obtain ⟨w5, hw5⟩ : ∃ w5, w5 = wr.drewN nq := ⟨_, rfl⟩
                rw [← hw5]
                have F5 : Hid (FbAt w3 B S.length Z (.slice (some ⟨g7, 0, none⟩) pn pc) L w5) := Lib.hid (by rw [hw5]; exact FR.out.drew nq)
                have d2 : w5.cell? ⟨b, off + t, none⟩ = some (.int .i64 (q : Int)) := by rw [hw5]; exact y1
                obtain ⟨m7, hm0⟩ : ∃ m7, m7 = pn := ⟨_, rfl⟩
                have HM7 : Hid (m7 = (wideL r q L).length) := Lib.hid (by rw [HWD.out, hm0]; exact HPN.out)
                have K7 : Hid (FbAt w3 B S.length Z (.slice (some ⟨g7, 0, none⟩) m7 pc) (wideL r q L) w5) := Lib.hid (by rw [HWD.out, hm0]; exact F5.out)
                have hgb : g7 ≠ b := by omega
                have hbB2 : B ≠ b := by omega
                rw [← hm0] at hjne hjne2 ⊢
                clear hw5 x9 y1 hm0 hjp hjp2
                have hm7 : m7 = (wideL r q L).length := HM7.out
                have hbin := wideL_in r q L
                have hroom := wideL_room (L := L) HQR.out
                have hmost := wideL_most (q := q) HMO.out
                have x0 := K7.out.at hm7 hbin
                have x1 := K7.out.free hm7 (fiB q L)
                have z0 := K7.out.arr.cell0 (i := t) (by rw [K7.out.zl]; exact hin)
                have z1 := K7.out.arr.free t
                have hx9 := hmost _ hbin
                have hll := wideL_len r q L
                have K8 := Lib.hid (K7.out.left (j := fiB q L) (x := (wideL r q L).getD (fiB q L) 0 - q) hm7)
                have hgB : g7 ≠ B := by have := (World.ownsRow.lt K7.out.own g7 rfl).1; have := K7.out.lt; omega
                have hBg : B ≠ g7 := fun e => hgB e.symm
                have HPUT : Hid ((wideL r q L).set (fiB q L) ((wideL r q L).getD (fiB q L) 0 - q) = putB r q L) := Lib.hid rfl
                rw [HPUT.out] at K8
                have HLB : Hid ((putB r q L).length ≤ k + 1) := Lib.hid (Nat.le_trans (putB_len r q L) (by have := HLL.out; omega))
                have HMB := Lib.hid (putB_most (q := q) HMO.out)
                have hbm : fiB q L < m7 := by rw [hm7]; exact hbin
                obtain ⟨x, hx⟩ : ∃ x, (wideL r q L).getD (fiB q L) 0 = x := ⟨_, rfl⟩
                obtain ⟨z, hz⟩ : ∃ z, z = Z.getD t 0 := ⟨_, rfl⟩
                rw [hx] at x0 K8 hroom hx9
                rw [← hz] at z0
                have HON := Lib.hid (show fbL S r ((fbO S).drop (k + 1)) (putB r q L) = fbL S r (fbO S) [] from by rw [← HEL.out, fbL_on HKT.out, HT.out, HSQ.out])
                have HOZ := Lib.hid (show fbZ S r ((fbO S).drop (k + 1)) (putB r q L) (Z.set t (fiB q L : Nat)) = fbZ S r (fbO S) [] (List.replicate S.length 0) from by rw [← HEZ.out, fbZ_on HKT.out, HT.out, HSQ.out])
                generalize fiB q L = bin at x0 x1 K8 hbin hbm HOZ hjne hjne2
                have hbm2 : (bin : Int) < (m7 : Int) := by omega
                have wx : IntKind.i64.wrap ((x : Int) - (q : Int)) = ((x - q : Nat) : Int) := by rw [show (x : Int) - (q : Int) = ((x - q : Nat) : Int) by omega]; exact IntWalk.i64_in _ (by omega)
                generalize x - q = xq at wx K8
                have K9 := Lib.hid ((K8.out.bin (i := t) (x := (bin : Int)) hin).drew 1)
                clear hx hz hbin hroom hmost hx9 hll hm7 hbm HPUT
                go_wp2_with fail
                refine wp_region_still_tail 10 (by kernel_rfl) (by kernel_rfl) ?_
                simp only [List.take_succ_cons, List.take_zero, List.drop_succ_cons, List.drop_zero]
                repeat still_step
                refine wpStill_nil ?_
                change wpList _ _ _ _ _ w5.drew
                go_wp2_with fail
                go_roundg (g2 - 1)
                case measure => omega
                case rel => exact ⟨k + 1, _, _, by omega, by omega, by go_num, K9.out, HLB.out, HMB.out, HON.out, HOZ.out⟩
            · have hjl : j = L.length := by omega
              have hf2 : fiB q L = L.length := fiB_none (fun u hu => HNO.out u (by omega))
              have hjp : j = pn := by rw [HPN.out]; exact hjl
              have HFN : Hid (fiB q L = pn) := Lib.hid (by rw [hf2, HPN.out])
              have HWD : Hid (wideL r q L = L ++ [r]) := Lib.hid (by unfold wideL; rw [if_neg (by omega)])
              subst hjp
              have HIL := Lib.hid (intsN_len L)
              clear hwr hjl hf2 hgj hj
              go_wp2_with fail
              go_quiet (fail)
              obtain ⟨w5, hw5⟩ : ∃ w5, w5 = wr.drewN nq := ⟨_, rfl⟩
              rw [← hw5]
              have F5 : Hid (FbAt w3 B S.length Z (.slice pa j pc) L w5) := Lib.hid (by rw [hw5]; exact FR.out.drew nq)
              have d2 : w5.cell? ⟨b, off + t, none⟩ = some (.int .i64 (q : Int)) := by rw [hw5]; exact y1
              have D2 := Lib.hid d2
              have hw5s : w3.heap.size ≤ w5.heap.size := F5.out.turned.size
              have HO2 : Hid (∀ z, z < w3.heap.size → some z ≠ (Value.slice pa j pc).ownBlock) := Lib.hid fun z hz e => by have := (World.ownsRow.lt F5.out.own _ e.symm).1; omega
              clear hw5 y1 d2
              go_wp2_with (at_builtin; refine wpList_append_own_at _ rfl _ _ 25 rfl w3.heap.size 2 i0 (.int .i64 0) 1 8 Try.underlying25 hi hz0 hz1 hz2 rfl (by decide) _ _ _ rfl (Grows.alloc F5.out.own _) ⟨w5.heap.size, 0, none⟩ 1 1 [.int .i64 (r : Int)] rfl rfl ?c1 ?c2 ?c3 ?c4 ?c5 ?_)
              case c1 => exact one_new
              case c2 => intro u hu; simp at hu; subst hu; rfl
              case c3 => have := HIL.out; have := HLL.out; unfold maxLen; omega
              case c4 => have := HIL.out; have := HLL.out; omega
              case c5 => simp; omega
              intro v' w' hown hgrow _ hat
              have F7 := F5.out.more hown hgrow
              obtain ⟨g7, c7, rfl, hg1, hg2⟩ := Grows.lit F7.own (by simp)
              have e2 : w'.cell? ⟨b, off + t, none⟩ = _ := hgrow.cell (keep_cell D2.out (below_alloc w5 _) (by omega)) (HO2.out _ (by show b < _; omega))
              have hgb : g7 ≠ b := by omega
              have hbB2 : B ≠ b := by omega
              obtain ⟨m7, hm0⟩ : ∃ m7, m7 = (L ++ [r]).length := ⟨_, rfl⟩
              have HM7 : Hid (m7 = (wideL r q L).length) := Lib.hid (by rw [HWD.out]; exact hm0)
              have K7 : Hid (FbAt w3 B S.length Z (.slice (some ⟨g7, 0, none⟩) m7 c7) (wideL r q L) w') := Lib.hid (by rw [HWD.out, hm0]; exact F7)
              rw [← hm0]
              clear hown hgrow hat F7 hm0
              have hm7 : m7 = (wideL r q L).length := HM7.out
              have hbin := wideL_in r q L
              have hroom := wideL_room (L := L) HQR.out
              have hmost := wideL_most (q := q) HMO.out
              have x0 := K7.out.at hm7 hbin
              have x1 := K7.out.free hm7 (fiB q L)
              have z0 := K7.out.arr.cell0 (i := t) (by rw [K7.out.zl]; exact hin)
              have z1 := K7.out.arr.free t
              have hx9 := hmost _ hbin
              have hll := wideL_len r q L
              have K8 := Lib.hid (K7.out.left (j := fiB q L) (x := (wideL r q L).getD (fiB q L) 0 - q) hm7)
              have hgB : g7 ≠ B := by have := (World.ownsRow.lt K7.out.own g7 rfl).1; have := K7.out.lt; omega
              have hBg : B ≠ g7 := fun e => hgB e.symm
              have HPUT : Hid ((wideL r q L).set (fiB q L) ((wideL r q L).getD (fiB q L) 0 - q) = putB r q L) := Lib.hid rfl
              rw [HPUT.out] at K8
              have HLB : Hid ((putB r q L).length ≤ k + 1) := Lib.hid (Nat.le_trans (putB_len r q L) (by have := HLL.out; omega))
              have HMB := Lib.hid (putB_most (q := q) HMO.out)
              have hbm : fiB q L < m7 := by rw [hm7]; exact hbin
              obtain ⟨x, hx⟩ : ∃ x, (wideL r q L).getD (fiB q L) 0 = x := ⟨_, rfl⟩
              obtain ⟨z, hz⟩ : ∃ z, z = Z.getD t 0 := ⟨_, rfl⟩
              rw [hx] at x0 K8 hroom hx9
              rw [← hz] at z0
              have HON := Lib.hid (show fbL S r ((fbO S).drop (k + 1)) (putB r q L) = fbL S r (fbO S) [] from by rw [← HEL.out, fbL_on HKT.out, HT.out, HSQ.out])
              have HOZ := Lib.hid (show fbZ S r ((fbO S).drop (k + 1)) (putB r q L) (Z.set t (fiB q L : Nat)) = fbZ S r (fbO S) [] (List.replicate S.length 0) from by rw [← HEZ.out, fbZ_on HKT.out, HT.out, HSQ.out])
              generalize fiB q L = bin at x0 x1 K8 hbin hbm HOZ HFN
              have hbm2 : (bin : Int) < (m7 : Int) := by omega
              have wx : IntKind.i64.wrap ((x : Int) - (q : Int)) = ((x - q : Nat) : Int) := by rw [show (x : Int) - (q : Int) = ((x - q : Nat) : Int) by omega]; exact IntWalk.i64_in _ (by omega)
              generalize x - q = xq at wx K8
              have K9 := Lib.hid ((K8.out.bin (i := t) (x := (bin : Int)) hin).drew 1)
              clear hx hz hbin hroom hmost hx9 hll hm7 hbm HPUT
              obtain rfl := HFN.out
              go_wp2_with fail
              refine wp_region_still_tail 10 (by kernel_rfl) (by kernel_rfl) ?_
              simp only [List.take_succ_cons, List.take_zero, List.drop_succ_cons, List.drop_zero]
              repeat still_step
              refine wpStill_nil ?_
              change wpList _ _ _ _ _ w'.drew
              go_wp2_with fail
              go_roundg (g2 - 1)
              case measure => omega
              case rel => exact ⟨k + 1, _, _, by omega, by omega, by go_num, K9.out, HLB.out, HMB.out, HON.out, HOZ.out⟩
        · obtain rfl : k = S.length := by omega
          have hL2 : L = fbL S r (fbO S) [] := by rw [← HEL.out, fbL_end (HOL.out).symm]
          have hZ2 : Z = fbZ S r (fbO S) [] (List.replicate S.length 0) := by rw [← HEZ.out, fbZ_end (HOL.out).symm]
          have HL2 := Lib.hid hL2
          have HZ2 := Lib.hid hZ2
          have BR := Lib.hid (B3.out.trans (tt.below (Nat.le_of_lt hBl) |>.mono (by omega)))
          have hzl := hF.zl
          have hBr : B < wo.heap.size := by omega
          have HR := Lib.hid (hF.arr.si (lo := w.heap.size) (by omega) hBr)
          rw [hzl] at HR
          clear hF hL2 hZ2 tt hzl HEL HEZ HF hpa hpn
          go_wp2_with fail
          refine bodyPost_ret (v := .tuple #[.slice (some ⟨B, 0, none⟩) S.length S.length, .int .i64 (pn : Int), .bool true]) (by simp [results, Try.results36, go_sem]) rfl ?_
          rw [← HZ2.out, ← HL2.out, ← HPN.out]
          exact ⟨_, rfl, HR.out, BR.out⟩
theorem specFirstBins_any (v : Value) (S : List Int) (r : Int) (w : World) (hv : IL w v S) (o : OKI S) (_ : -9223372036854775808 ≤ r ∧ r ≤ 9223372036854775807) :
    Calls Try.prog 36 #[v, .int .i64 r] w (SaysJIB (fbA S r) (fbN S r) (fitsB S r) w) := by
  have hn := o.size
  cases h1 : fitsB S r with
  | false =>
    rw [fbA_no h1, fbN_no h1]
    have HV := Lib.hid hv
    obtain ⟨ao, cap, rfl⟩ := hv.long
    have H1 := Lib.hid h1
    clear h1 hv
    go_enter Try.func36, Try.ntmps36
    go_wp2_with fail
    go_at_call 86; refine (l04Fits_is false _ S r _ HV.out hn H1.out).mono ?_; rintro e w' ⟨rfl, m, rfl⟩
    go_wp2_with fail
    refine bodyPost_ret (v := .tuple #[.slice none 0 0, .int .i64 0, .bool false]) (by simp [results, Try.results36, go_sem]) rfl ?_
    exact ⟨_, rfl, SI.nil _ (Nat.le_refl _) _ _, below_drewN (Below.refl _ _) _⟩
  | true =>
    obtain ⟨q, rfl⟩ := fits_nat h1
    exact specFb_yes v S q w hv hn h1
end Go.Proofs.Ytbaaocgdpgoggaa
