/- The library's insertion with a method as comparison: jobs by their quotients. -/
import Derived.Test.YtcnfmphokobgiaaSmiI
import Derived.BigRegion
import Derived.Deep.RegionWith
namespace Go.Proofs.Ytcnfmphokobgiaa
open Go.RowKit Go.ChangeShapes Go.WideShapes

structure StAt (w : World) (g off : Nat) (Y : List Nat) (wr : World) : Prop where
  turned : Turned g (g + 1) w wr
  arr : Arr (Value.int .i64) 0 wr g off (intsN Y)
theorem StAt.drew {w wr : World} {g off : Nat} {Y : List Nat} (h : StAt w g off Y wr) (n : Nat) : StAt w g off Y (wr.drewN n) := ⟨h.turned.drewN n, h.arr.drewN n⟩
theorem ints_swN (Y : List Nat) (j : Nat) : ((intsN Y).set j ((Y.getD (j - 1) 0 : Nat) : Int)).set (j - 1) ((Y.getD j 0 : Nat) : Int) = intsN (swN Y j) := by
  unfold swN intsN
  rw [List.map_set, List.map_set]
theorem StAt.swap {w wr : World} {g off j : Nat} {Y : List Nat} (h : StAt w g off Y wr) (hj : j < Y.length) :
    StAt w g off (swN Y j) ((wr.setCell ⟨g, off + j, none⟩ (.int .i64 ((Y.getD (j - 1) 0 : Nat) : Int))).setCell ⟨g, off + (j - 1), none⟩ (.int .i64 ((Y.getD j 0 : Nat) : Int))) := by
  refine ⟨(h.turned.setCell (Nat.le_refl _) (Nat.lt_succ_self _) _).setCell (Nat.le_refl _) (Nat.lt_succ_self _) _, ?_⟩
  rw [← ints_swN Y j]
  exact (h.arr.set (by rw [intsN_len]; exact hj) _).set (by rw [List.length_set, intsN_len]; omega) _
set_option maxRecDepth 100000 in
set_option maxHeartbeats 8000000 in
theorem insM_any (v : Value) (Z : List Ac) (n g off cap : Nat) (w : World) (hJ : JobsOk Z) (hn : Z.length = n) (hA : Arr (Value.int .i64) 0 w g off (numL n)) (hAV : ∀ W, Turned g (g + 1) w W → AV W v Z) :
    Calls Try.prog 155 #[.slice (some ⟨g, off, none⟩) n cap, .int .i64 0, .int .i64 n, .func (.func 58) #[v] #[]] w (PutO g off (ordN (ltQ (lonK Z) (wgtK Z)) n) w) := by
  have h1 : 1 ≤ n := by have := hJ.n1; omega
  have h2 : n ≤ 12 := by have := hJ.n2; omega
  obtain ⟨lt, hlt⟩ : ∃ lt, lt = ltQ (lonK Z) (wgtK Z) := ⟨_, rfl⟩
  rw [← hlt]
  have HLT : Hid (∀ x y, lt x y = decide (smiC Z x y < 0)) := Lib.hid fun x y => by rw [hlt, ← smiC_lt]; rfl
  have HBQ := Lib.hid fun (W : World) (t : Turned g (g + 1) w W) (x y : Nat) (hx : x < n) (hy : y < n) => byQuot_any v Z x y W (hAV W t) hJ (by rw [hn]; exact hx) (by rw [hn]; exact hy)
  have H0 : Hid (StAt w g off (insS lt n 1) w) := Lib.hid ⟨Turned.refl _ _ _, hA⟩
  obtain ⟨ao, vcap, rfl⟩ := (hAV w (Turned.refl _ _ _)).long
  clear hlt hA hAV hn hJ
  go_enter Try.func155, Try.ntmps155
  go_wp2_with fail
  go_loopg [8] n (fun gk s wr => ∃ i : Nat, 1 ≤ i ∧ i ≤ n ∧ gk + i = n + 1 ∧ s = .int .i64 i ∧ StAt w g off (insS lt n i) wr)
  case atStart => exact ⟨1, Nat.le_refl _, h1, by omega, rfl, H0.out⟩
  case round =>
    clear H0
    obtain ⟨i, hi1, hi, hgi, rfl, hat⟩ := hrel
    have HS := Lib.hid hat
    have HFIN : Hid (insI lt i (insS lt n i) = insS lt n (i + 1)) := Lib.hid rfl
    have HSL := Lib.hid (insS_len lt n i)
    have HLTN : Hid (∀ k, k < n → (insS lt n i).getD k 0 < n) := Lib.hid fun k hk => insS_lt lt hi hk
    clear hat
    by_cases hlt2 : i < n
    · go_wp2_with fail
      obtain ⟨wo, rfl⟩ : ∃ x : World, x = wr := ⟨_, rfl⟩
      obtain ⟨g2, rfl⟩ : ∃ x : Nat, x = gk := ⟨_, rfl⟩
      go_loopg [9] i (fun gk s wr => ∃ (j : Nat) (Y : List Nat), j ≤ i ∧ j = gk ∧ s = .int .i64 j ∧ Y.length = n ∧ insI lt j Y = insS lt n (i + 1) ∧ (∀ k, k < n → Y.getD k 0 < n) ∧ StAt w g off Y wr)
      case atStart => exact ⟨i, _, Nat.le_refl _, rfl, rfl, HSL.out, HFIN.out, HLTN.out, HS.out⟩
      case round =>
        clear HS HFIN HLTN
        obtain ⟨j, Y, hj, rfl, rfl, hYl, hfin, hY, hat⟩ := hrel
        have HS := Lib.hid hat
        have HYL := Lib.hid hYl
        have HF := Lib.hid hfin
        have HYN := Lib.hid hY
        clear hYl hfin hY
        by_cases hj0 : j = 0
        · subst hj0
          have HD : Hid (Y = insS lt n (i + 1)) := Lib.hid HF.out
          clear hat
          go_wp2_with fail
          go_quiet (fail)
          go_wp2_with fail
          go_roundg (g2 - 1)
          case measure => omega
          case rel => exact ⟨i + 1, by omega, by omega, by omega, by go_num, by rw [← HD.out]; exact HS.out.drew _⟩
        · obtain ⟨p, rfl⟩ : ∃ p, j = p + 1 := ⟨j - 1, by omega⟩
          have hjp : decide ((0 : Int) < (p : Int) + 1) = true := decide_eq_true (by omega)
          have hjp2 : decide (0 < p + 1) = true := decide_eq_true (by omega)
          have x0 := hat.arr.cells (p + 1) (by rw [intsN_len, HYL.out]; omega)
          rw [intsN_at (by rw [HYL.out]; omega)] at x0
          have x1 := hat.arr.cells p (by rw [intsN_len, HYL.out]; omega)
          rw [intsN_at (by rw [HYL.out]; omega)] at x1
          have hw1 : IntKind.i64.wrap ((p : Int) + 1 - 1) = (p : Int) := by rw [show (p : Int) + 1 - 1 = (p : Int) by omega]; exact IntWalk.i64_in _ (by omega)
          have hw2 : (0 : Int) ≤ (p : Int) + 1 := by omega
          have hw3 : ((p : Int) + 1).toNat = p + 1 := by omega
          have f0 := hat.arr.free (off + (p + 1))
          have f1 := hat.arr.free (off + p)
          have lj : (p : Int) + 1 < (n : Int) := by omega
          have lp : (p : Int) < (n : Int) := by omega
          have hwp : IntKind.i64.wrap (p : Int) = (p : Int) := IntWalk.i64_in _ (by omega)
          have lp2 : p < n := by omega
          have lp3 : p + 1 < n := by omega
          have lp4 : (p : Int) + 1 - 1 = (p : Int) := by omega
          have hx := HYN.out (p + 1) (by omega)
          have hy := HYN.out p (by omega)
          have HSW := Lib.hid fun m => (hat.drew m).swap (j := p + 1) (by rw [HYL.out]; omega)
          have HYES := Lib.hid fun h => (insI_yes (lt := lt) (j := p) (Y := Y) h).symm.trans HF.out
          have HNO := Lib.hid fun h => (insI_no (lt := lt) (j := p) (Y := Y) h).symm.trans HF.out
          have HSWL := Lib.hid (swN_len Y (p + 1))
          have HSWN : Hid (∀ k, k < n → (swN Y (p + 1)).getD k 0 < n) := Lib.hid fun k hk => by
            rw [swN_at (by omega) (by rw [HYL.out]; omega)]
            split
            · exact hx
            · split
              · exact hy
              · exact HYN.out k hk
          have HCMP := Lib.hid fun m => HBQ.out (wr.drewN m) (hat.turned.drewN m) _ _ hx hy
          have HQ := Lib.hid (HLT.out (Y.getD (p + 1) 0) (Y.getD p 0))
          simp only [Nat.add_sub_cancel] at HSW
          generalize Y.getD (p + 1) 0 = x at x0 HSW HYES HNO HCMP HQ hx
          generalize Y.getD p 0 = y at x1 HSW HYES HNO HCMP HQ hy
          generalize smiC Z x y = c at HCMP HQ
          have hne : ¬ p + 1 = p := by omega
          have hne2 : ¬ p = p + 1 := by omega
          clear hat
          by_cases hsw : c < 0
          · have HF2 := Lib.hid (HYES.out (by rw [HQ.out]; simpa using hsw))
            have dc : decide (c < 0) = true := by simpa using hsw
            go_wp2_with fail
            go_quiet ((go_at_call 58; with_reducible exact Calls.quiet_of (HCMP.out _)))
            go_wp2_with fail
            go_region_with (fail)
            all_goals
              go_wp2_with fail
              go_roundg p
              case measure => omega
              case rel => exact ⟨p, _, by omega, rfl, by go_num, HSWL.out.trans HYL.out, HF2.out, HSWN.out, HSW.out _⟩
          · have HD := Lib.hid (HNO.out (by rw [HQ.out]; simpa using hsw))
            have dc : decide (c < 0) = false := by simpa using hsw
            go_wp2_with fail
            go_quiet ((go_at_call 58; with_reducible exact Calls.quiet_of (HCMP.out _)))
            go_wp2_with fail
            go_roundg (g2 - 1)
            case measure => omega
            case rel => exact ⟨i + 1, by omega, by omega, by omega, by go_num, by rw [← HD.out]; exact HS.out.drew _⟩
    · obtain rfl : i = n := by omega
      go_wp2_with fail
      refine bodyPost_ret (v := .tuple #[]) (by simp [results, Try.results155, go_sem]) rfl ?_
      exact ⟨rfl, HS.out.turned, HS.out.arr⟩
end Go.Proofs.Ytcnfmphokobgiaa
