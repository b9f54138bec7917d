/- Clauses that have no model together: the program's walk. -/
import Derived.Test.YtleaaigjnniglaaCrM
namespace Go.Proofs.Ytleaaigjnniglaa
open Go.RowKit Go.ChangeShapes Go.WideShapes

set_option maxRecDepth 100000 in
set_option maxHeartbeats 4000000 in
theorem implCoreOf_any (v : Value) (F : Fm) (w : World) (hv : FmV w v F) (o : OKFm F) :
    Calls Try.prog 48 #[v] w (SaysJB (crL F) (noneB F) w) := by
  obtain ⟨i0, hi, hz0, hz1, hz2⟩ := info_parts Try.infoI
  have hv0 := hv
  obtain ⟨s1, rfl, g1⟩ := hv
  have HV := Lib.hid (fun wx (hb : Below w.heap.size w wx) => hv0.below hb (Nat.le_refl _))
  have hb0 := Lib.hid (fun o => below_alloc w o)
  obtain ⟨ao, cap, rfl⟩ := g1.long
  clear hv0 g1
  cases h1 : noneB F with
  | false =>
    have HN := Lib.hid (cr_no h1)
    have H1 := Lib.hid h1
    clear h1
    go_enter Try.func48, Try.ntmps48
    go_wp2_with fail
    go_at_call 83; refine (hasNo_any _ F _ (HV.out _ (hb0.out _)) o).mono ?_; rintro e w1 ⟨rfl, b1⟩
    rw [H1.out]
    have HB := Lib.hid ((hb0.out _).trans (b1.mono (hb0.out _).size))
    clear b1
    go_wp2_with fail
    go_ret2
    exact ⟨_, rfl, by rw [HN.out]; exact ⟨Nat.le_refl _, Or.inl ⟨rfl, _, _, rfl⟩⟩, HB.out⟩
  | true =>
    obtain ⟨L, hL⟩ : ∃ L, L = F.letters.toNat := ⟨_, rfl⟩
    have hm0 := cr_yes h1
    have hh0 := (formB_ok (noneB_form h1)).num
    rw [← hL] at hm0 hh0
    have hfew := hh0.ok.few
    have HM := Lib.hid hm0
    have HH := Lib.hid hh0
    have H1 := Lib.hid h1
    have hp2 := hh0.p2
    have HFL : Hid ((failL L F.cs F.cs.length).length ≤ 1048576) := Lib.hid (by rw [failL_len]; omega)
    have HFX : Hid (∀ k, k < (failL L F.cs F.cs.length).length → ∃ x : Nat, x < 4611686018427387904 ∧ (failL L F.cs F.cs.length).getD k 0 = (x : Int)) := Lib.hid fun k hk => ⟨failK L F.cs k F.cs.length, fail62 F.cs k hfew, failL_at (by rw [failL_len] at hk; exact hk)⟩
    have HLT := Lib.hid (fun k => left48 (L := L) hfew k)
    have HCL := Lib.hid (fun k => coreK_len L F.cs k)
    have HY := Lib.hid (fun k h => @core_yes L F.cs k h)
    have HX := Lib.hid (fun k h => @core_no L F.cs k h)
    have HFB : Hid (∀ s, anyI (clearP s) (failL L F.cs F.cs.length) = freeB L F.cs s) := Lib.hid fun s => rfl
    clear h1 hm0 hh0 hL hp2
    go_enter Try.func48, Try.ntmps48
    go_wp2_with fail
    go_at_call 83; refine (hasNo_any _ F _ (HV.out _ (hb0.out _)) o).mono ?_; rintro e w1 ⟨rfl, b1⟩
    rw [H1.out]
    have HB := Lib.hid ((hb0.out _).trans (b1.mono (hb0.out _).size))
    have HBX := Lib.hid ((Box2.mk' w (.int .i64 F.letters) (.slice ao F.cs.length cap) 31).keep b1 (by simp))
    obtain ⟨c0, c1⟩ := HBX.out
    clear b1
    go_wp2_with fail
    go_at_call 66; refine (failsOf_any _ F L _ (HV.out _ HB.out) o HH.out).mono ?_; rintro e w2 ⟨v2, rfl, hi2, b2⟩
    have HB2 := Lib.hid (HB.out.trans (b2.mono HB.out.size))
    have HBX2 := Lib.hid (HBX.out.keep b2 HBX.out.lt)
    have HFI := Lib.hid (II.il hi2)
    generalize failL L F.cs F.cs.length = FL at HFI HFL HFX HFB
    obtain ⟨a2, cap2, rfl⟩ := HFI.out.long
    clear c0 c1 b2 hi2 HB HBX
    obtain ⟨c0, c1⟩ := HBX2.out
    have hlo : w.heap.size ≤ w2.heap.size := HB2.out.size
    go_wp2_with fail
    go_at_call 78; refine (setOfAll48 (F.cs.length : Int) F.cs.length _ rfl hfew).mono ?_; rintro e w' ⟨rfl, rfl⟩
    have h00 : ((2 ^ F.cs.length - 1 : Nat) : Int) = (leftK L F.cs 0 : Nat) := rfl
    rw [h00]
    clear h00
    go_wp2_with fail
    go_loopg [5, 6, 21] F.cs.length (fun gk ls cs i wr => ∃ k : Nat, k ≤ F.cs.length ∧ gk + k = F.cs.length ∧ i = .int .i64 k ∧ ls = .int .i64 (leftK L F.cs k : Nat) ∧ Below w2.heap.size w2 wr ∧ Grows (Value.int .i64) 2 w2.heap.size cs (coreK L F.cs k) wr)
    case atStart => exact ⟨0, Nat.zero_le _, by omega, rfl, rfl, Below.refl _ _, Grows.nil _ _ _ _⟩
    case round =>
      obtain ⟨k, hk, hgk, rfl, rfl, hB, hG⟩ := hrel
      have HBk := Lib.hid hB
      have HGk := Lib.hid hG
      by_cases hlt : k < F.cs.length
      · obtain ⟨hl, hl2⟩ := HLT.out k
        have hlo2 := hl2 k
        obtain ⟨k1, k2⟩ := pow48 (k := k) (by omega)
        have hand : bits .andNot .i64 (leftK L F.cs k : Nat) ((2 ^ k : Nat) : Int) = ((outK (leftK L F.cs k) k : Nat) : Int) := i64_andNot62 (leftK L F.cs k) (2 ^ k) (by omega) (by omega)
        have HQ := Lib.hid (HFB.out (outK (leftK L F.cs k) k))
        have HYk := Lib.hid (HY.out k)
        have HXk := Lib.hid (HX.out k)
        have q1 : (1 : Int) ≤ 2 ^ k := by rw [← pow_cast]; omega
        have q2 : (2 : Int) ^ k ≤ 140737488355328 := by rw [← pow_cast]; omega
        rw [pow_cast] at hand
        have hk48 : k < 48 := by omega
        generalize leftK L F.cs k = l at hl hand HQ HYk HXk hlo2
        generalize outK l k = o2 at hand HQ HYk HXk hlo2
        clear hl2 hB hG k1 k2
        have HAL : Hid (Below w2.heap.size w2 (wr.alloc (.cells #[.int .i64 (o2 : Int)] 2))) := Lib.hid (HBk.out.alloc HBk.out.size _)
        have HGA : Hid (Grows (Value.int .i64) 2 w2.heap.size u6 (coreK L F.cs k) (wr.alloc (.cells #[.int .i64 (o2 : Int)] 2))) := Lib.hid (Grows.alloc HGk.out _)
        have HCE : Hid ((wr.alloc (.cells #[.int .i64 (o2 : Int)] 2)).cell? ⟨wr.heap.size, 0, none⟩ = some (.int .i64 (o2 : Int))) := Lib.hid (by rw [World.cell?_alloc_new]; rfl)
        have HSZ : Hid (wr.heap.size < (wr.alloc (.cells #[.int .i64 (o2 : Int)] 2)).heap.size) := Lib.hid (by simp)
        cases hfr : freeB L F.cs o2 with
        | true =>
          have HF := Lib.hid hfr
          have HUP := Lib.hid (HYk.out hfr)
          have HML := Lib.hid (HCL.out k)
          clear hfr
          go_wp2_with fail
          go_at_call 84; refine (ctCr_any wr.heap.size o2 _ FL _ (HFI.out.below HAL.out (Nat.le_refl _)) HFL.out (by omega) HFX.out HCE.out).mono ?_; rintro e w3 ⟨rfl, b3⟩
          rw [HQ.out, HF.out]
          have HB3 := Lib.hid (HAL.out.trans (b3.mono HAL.out.size))
          have HG3 := Lib.hid (HGA.out.below b3 (Nat.le_refl _))
          clear b3 HAL HGA HCE HSZ hand
          go_wp2_with (at_builtin; refine wpList_append_own _ rfl _ _ 22 rfl w2.heap.size 2 i0 (.int .i64 0) 1 8 Try.underlying22 hi hz0 hz1 hz2 rfl (by decide) _ _ _ rfl (Grows.alloc HG3.out _) ⟨w3.heap.size, 0, none⟩ 1 1 [.int .i64 (k : Int)] rfl rfl ?c1 ?c2 ?c3 ?c4 ?c5 ?_)
          case c1 => exact one_new
          case c2 => intro u hu; simp at hu; subst hu; rfl
          case c3 => have := HML.out; unfold maxLen; omega
          case c4 => have := HML.out; omega
          case c5 => have := HB3.out.size; simp; omega
          intro v' w' hown hgrow _
          have HN2 : Hid (Below w2.heap.size w2 w' ∧ Grows (Value.int .i64) 2 w2.heap.size v' (coreK L F.cs (k + 1)) w') := Lib.hid ⟨(HB3.out.alloc HB3.out.size _).grown hgrow (by have := HB3.out.size; simp; omega) (fun g hg => HG3.out.block g hg), by rw [HUP.out.2]; exact Grows.more (news := [(k : Int)]) rfl hown⟩
          clear hown hgrow
          go_wp2_with fail
          go_roundg (gk - 1)
          case measure => omega
          case rel => exact ⟨k + 1, by omega, by omega, by go_num, by rw [HUP.out.1], HN2.out.1, HN2.out.2⟩
        | false =>
          have HF := Lib.hid hfr
          have HUP := Lib.hid (HXk.out hfr)
          clear hfr
          go_wp2_with fail
          go_at_call 84; refine (ctCr_any wr.heap.size o2 _ FL _ (HFI.out.below HAL.out (Nat.le_refl _)) HFL.out (by omega) HFX.out HCE.out).mono ?_; rintro e w3 ⟨rfl, b3⟩
          rw [HQ.out, HF.out]
          have HB3 := Lib.hid (HAL.out.trans (b3.mono HAL.out.size))
          have HG3 := Lib.hid (HGA.out.below b3 (Nat.le_refl _))
          have d0 : w3.cell? ⟨wr.heap.size, 0, none⟩ = some (.int .i64 (o2 : Int)) := by rw [b3.cell (p := ⟨wr.heap.size, 0, none⟩) HSZ.out]; exact HCE.out
          clear b3 HAL HGA HCE HSZ hand
          go_wp2_with fail
          go_roundg (gk - 1)
          case measure => omega
          case rel => exact ⟨k + 1, by omega, by omega, by go_num, by rw [HUP.out.1], HB3.out, by rw [HUP.out.2]; exact HG3.out⟩
      · obtain rfl : k = F.cs.length := by omega
        clear hB hG
        go_wp2_with fail
        go_ret2
        exact ⟨_, rfl, by rw [HM.out]; exact II.wide' HGk.out.si hlo, HB2.out.trans (HBk.out.mono hlo)⟩
end Go.Proofs.Ytleaaigjnniglaa
