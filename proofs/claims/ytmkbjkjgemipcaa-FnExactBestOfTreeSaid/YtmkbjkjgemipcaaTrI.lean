/- Valid trees: the program. -/
import Derived.Test.YtmkbjkjgemipcaaTr
import Derived.Test.YtmkbjkjgemipcaaTr0
import Derived.Test.YtmkbjkjgemipcaaArF
namespace Go.Proofs.Ytmkbjkjgemipcaa
open Go.RowKit Go.ChangeShapes Go.WideShapes

theorem isIx_is (t : Bool) (k : Nat) (x : Int) (w : World) (hk : k ≤ 1048576) (h : inB x 0 ((k : Int) - 1) = t) : Calls Try.prog 67 #[.int .i64 k, .int .i64 x] w (Tells t w) := by
  have H := Lib.hid (show (decide (0 ≤ x) && decide (x ≤ (k : Int) - 1)) = t from h)
  clear h
  have hw : IntKind.i64.wrap ((k : Int) - 1) = (k : Int) - 1 := by rw [IntKind.wrap_i64]; omega
  go_enter Try.func67, Try.ntmps67
  go_wp2_with fail
  go_at_call 64; refine (isFrom_is t x 0 _ _ H.out).mono ?_; rintro e w' ⟨rfl, m, rfl⟩
  go_wp2_with fail
  go_ret
  exact tells _ rfl
theorem drew_at {W wr : World} (h : ∃ m, wr = W.drewN m) {b o : Nat} {x : Value} (c : W.cell? ⟨b, o, none⟩ = some x) : wr.cell? ⟨b, o, none⟩ = some x := by
  obtain ⟨m, rfl⟩ := h
  exact c
theorem drew_below {w W wr : World} (hb : Below w.heap.size w W) (h : ∃ m, wr = W.drewN m) : Below w.heap.size w wr := by
  obtain ⟨m, rfl⟩ := h
  exact below_drewN hb m
set_option maxHeartbeats 2000000 in
theorem implValidTree_any (v : Value) (T : Tr) (w : World) (hv : TrV w v T) (o : OKTr T) :
    Calls Try.prog 22 #[v] w (Says (treeB T.P T.V) w) := by
  obtain ⟨P, V⟩ := T
  obtain ⟨s1, s2, rfl, g1, g2⟩ := hv
  have op := o.okp.size
  have ov := o.okv.size
  simp only at g1 g2 op ov ⊢
  obtain ⟨x2, y2, rfl⟩ := g2.long
  obtain ⟨W, hW⟩ : ∃ W, W = w.alloc (.cells #[s1, .slice x2 V.length y2] 32) := ⟨_, rfl⟩
  have HB : Hid (Below w.heap.size w W) := Lib.hid (by rw [hW]; exact below_alloc w _)
  have X := Lib.hid (show Box2 W w.heap.size s1 (.slice x2 V.length y2) from by rw [hW]; exact Box2.mk' _ _ _ _)
  have G2 : Hid (IL W (.slice x2 V.length y2) V) := Lib.hid (g2.below HB.out (Nat.le_refl _))
  clear g2 o
  rcases g1 with ⟨rfl, ao, cap, rfl⟩ | ⟨b, off, cap, rfl, hpos, hbl, hcell⟩
  · clear hW
    go_enter Try.func22, Try.ntmps22
    go_wp2_with fail
    refine wp_loop_rounds 1 ?_
    rw [rounds_succ]
    go_wp2_with fail
    go_at_call 64; refine (isFrom_is false _ 1 64 _ rfl).mono ?_; rintro e w' ⟨rfl, m, rfl⟩
    go_wp2_with fail
    go_ret
    exact says rfl (below_drewN (below_alloc w _) _)
  · have HC : Hid (∀ i, i < P.length → W.cell? ⟨b, off + i, none⟩ = some (.int .i64 (P.getD i 0))) := Lib.hid (fun i hi => by rw [HB.out.cell (p := ⟨b, off + i, none⟩) hbl]; exact hcell i hi)
    have HWW := Lib.hid hW
    clear hcell hW
    go_enter Try.func22, Try.ntmps22
    go_wp2_with fail
    go_loopg [8] P.length (fun gk i wr => ∃ k : Nat, k ≤ P.length ∧ gk + k = P.length ∧ i = .int .i64 k ∧ (∀ j, j < k → parB P j = true) ∧ ∃ m, wr = W.drewN m)
    case atStart => exact ⟨0, Nat.zero_le _, by omega, rfl, fun j hj => by omega, 0, HWW.out.symm⟩
    case round =>
      obtain ⟨k, hk, hgk, rfl, hall, hwr⟩ := hrel
      have HL := Lib.hid hall
      have HW := Lib.hid hwr
      have HM := Lib.hid (drew_more hwr)
      clear hall
      by_cases hlt : k < P.length
      · have c1 : wr.cell? ⟨b, off + k, none⟩ = some (.int .i64 (P.getD k 0)) := drew_at hwr (HC.out k hlt)
        clear hwr
        obtain ⟨y, hy⟩ : ∃ y, y = P.getD k 0 := ⟨_, rfl⟩
        by_cases h0 : k = 0
        · subst h0
          have hq : parB P 0 = decide (y = -1) := by unfold parB; rw [if_pos rfl, hy]
          have HQ := Lib.hid hq
          rw [← hy, Nat.add_zero] at c1
          clear hq hy
          by_cases hy1 : y = -1
          · have HP : Hid (parB P 0 = true) := Lib.hid (by rw [HQ.out, hy1]; rfl)
            subst hy1
            go_wp2_with fail
            go_roundg (gk - 1)
            case measure => omega
            case rel => exact ⟨0 + 1, by omega, by omega, by go_num, fun j hj => by obtain rfl : j = 0 := (by omega); exact HP.out, HW.out⟩
          · have HP : Hid (false = treeB P V) := Lib.hid (treeB_par hlt (by rw [HQ.out]; exact decide_eq_false hy1)).symm
            have hy2 : (y != -1) = true := by simpa using hy1
            go_wp2_with fail
            go_ret
            exact says HP.out (drew_below HB.out HW.out)
        · have hq : parB P k = inB y 0 ((k : Int) - 1) := by unfold parB; rw [if_neg h0, hy]
          have HQ := Lib.hid hq
          have hk0 : decide ((0 : Int) < (k : Int)) = true := by simp; omega
          have hk1 : ((k : Int) == 0) = false := by simp; omega
          have hk2 : (0 : Int) < (k : Int) := by omega
          have hk3 : ¬ (k : Int) = 0 := by omega
          rw [← hy] at c1
          clear hq hy
          cases ht : inB y 0 ((k : Int) - 1) with
          | true =>
            have HT := Lib.hid ht
            clear ht
            go_wp2_with fail
            go_at_call 67; refine (isIx_is true k y _ (by omega) HT.out).mono ?_; rintro e w' ⟨rfl, m, rfl⟩
            go_wp2_with fail
            go_roundg (gk - 1)
            case measure => omega
            case rel => exact ⟨k + 1, by omega, by omega, by go_num, fun j hj => by
              by_cases e : j = k
              · subst e; rw [HQ.out]; exact HT.out
              · exact HL.out j (by omega), HM.out _⟩
          | false =>
            have HT := Lib.hid ht
            have HP : Hid (false = treeB P V) := Lib.hid (treeB_par hlt (by rw [HQ.out]; exact ht)).symm
            clear ht
            go_wp2_with fail
            go_at_call 67; refine (isIx_is false k y _ (by omega) HT.out).mono ?_; rintro e w' ⟨rfl, m, rfl⟩
            go_wp2_with fail
            go_ret
            exact says HP.out (drew_below HB.out (HM.out _))
      · obtain rfl : k = P.length := by omega
        obtain ⟨c0, c1⟩ := X.out
        have d0 := drew_at hwr c0
        have d1 := drew_at hwr c1
        have G3 : Hid (IL wr (.slice x2 V.length y2) V) := Lib.hid (by obtain ⟨m, rfl⟩ := hwr; exact G2.out.drewN m)
        have HBW := Lib.hid (drew_below HB.out hwr)
        have HE : Hid (treeB P V = (treeLB P V && allIn V (-1000000) 1000000)) := Lib.hid (by unfold treeB; rw [show parsB P = true from rngAll HL.out, Bool.true_and])
        clear c0 c1 hwr
        cases h1 : (decide (1 ≤ (P.length : Int)) && decide ((P.length : Int) ≤ 64)) with
        | false =>
          have H1 := Lib.hid h1
          have HR : Hid (false = treeB P V) := Lib.hid (by rw [HE.out]; unfold treeLB; rw [h1]; rfl)
          clear h1
          go_wp2_with fail
          go_at_call 64; refine (isFrom_is false _ 1 64 _ H1.out).mono ?_; rintro e w' ⟨rfl, m, rfl⟩
          go_wp2_with fail
          go_ret
          exact says HR.out (below_drewN HBW.out _)
        | true =>
          have H1 := Lib.hid h1
          by_cases h2 : (V.length : Int) = (P.length : Int)
          · have HR : Hid (allIn V (-1000000) 1000000 = treeB P V) := Lib.hid (by rw [HE.out]; unfold treeLB; rw [h1, decide_eq_true h2]; rfl)
            have h3 : ((V.length : Int) == (P.length : Int)) = true := by simpa using h2
            clear h1
            go_wp2_with fail
            go_at_call 64; refine (isFrom_is true _ 1 64 _ H1.out).mono ?_; rintro e w' ⟨rfl, m, rfl⟩
            go_wp2_with fail
            go_at_call 68; refine (areFrom_any (-1000000) _ V 1000000 _ (VL.drewN G3.out _) ov).mono ?_; rintro e w' ⟨rfl, m2, rfl⟩
            go_wp2_with fail
            go_ret
            exact says HR.out (below_drewN HBW.out _)
          · have HR : Hid (false = treeB P V) := Lib.hid (by rw [HE.out]; unfold treeLB; rw [h1, decide_eq_false h2]; rfl)
            have h3 : ((V.length : Int) == (P.length : Int)) = false := by simpa using h2
            clear h1
            go_wp2_with fail
            go_at_call 64; refine (isFrom_is true _ 1 64 _ H1.out).mono ?_; rintro e w' ⟨rfl, m, rfl⟩
            go_wp2_with fail
            go_ret
            exact says HR.out (below_drewN HBW.out _)
end Go.Proofs.Ytmkbjkjgemipcaa
