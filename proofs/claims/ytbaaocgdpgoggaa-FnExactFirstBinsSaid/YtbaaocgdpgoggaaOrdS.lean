/- Orders by keys: the model. -/
import Derived.Test.YtbaaocgdpgoggaaIns1
import Derived.Test.YtbaaocgdpgoggaaGrw
import Derived.Laws.OwnMore
import Derived.Deep.AppendLies
import Derived.Deep.QuietTactic
import Derived.BigQuiet
namespace Go.Proofs.Ytbaaocgdpgoggaa
open Go.RowKit Go.ChangeShapes Go.WideShapes

theorem drewO {w wr : World} (h : ∃ m, wr = w.drewN m) : ∀ n, ∃ m, wr.drewN n = w.drewN m := by
  obtain ⟨m, rfl⟩ := h
  exact fun n => ⟨_, World.drewN_drewN _ _ _⟩
/-- The row of an order that grows. -/
structure OrdAt (w : World) (g cap : Nat) (k : Nat) (Y : List Nat) (wr : World) : Prop where
  below : Below w.heap.size w wr
  own : wr.ownsRow w.heap.size 2 1 (.slice (some ⟨g, 0, none⟩) k cap) k ((intsN (Y.take k)).map (Value.int .i64))
theorem OrdAt.cell {w wr : World} {g cap k i : Nat} {Y : List Nat} (h : OrdAt w g cap k Y wr) (hi : i < k) (hk : k ≤ Y.length) : wr.cell? ⟨g, i, none⟩ = some (.int .i64 ((Y.getD i 0 : Nat) : Int)) := by
  rw [h.own.cellAt i (by omega)]
  have h1 : i < (Y.take k).length := by rw [List.length_take]; omega
  simp [intsN, hi, List.getD, show i < Y.length by omega]
theorem OrdAt.free {w wr : World} {g cap k : Nat} {Y : List Nat} (h : OrdAt w g cap k Y wr) (i : Nat) : wr.frozen? ⟨g, i, none⟩ = false := h.own.frozenAt i
theorem OrdAt.ge {w wr : World} {g cap k : Nat} {Y : List Nat} (h : OrdAt w g cap k Y wr) : w.heap.size ≤ g ∧ g < wr.heap.size := h.own.lt g rfl
theorem OrdAt.drew {w wr : World} {g cap k : Nat} {Y : List Nat} (h : OrdAt w g cap k Y wr) (n : Nat) : OrdAt w g cap k Y (wr.drewN n) := ⟨below_drewN h.below n, h.own⟩
theorem OrdAt.swap {w wr : World} {g cap k : Nat} {Y : List Nat} (h : OrdAt w g cap k Y wr) (j : Nat) :
    OrdAt w g cap k (swN Y j) ((wr.setCell ⟨g, j, none⟩ (.int .i64 ((Y.getD (j - 1) 0 : Nat) : Int))).setCell ⟨g, j - 1, none⟩ (.int .i64 ((Y.getD j 0 : Nat) : Int))) := by
  obtain ⟨hg, -⟩ := h.ge
  refine ⟨(h.below.setCell hg _).setCell hg _, ?_⟩
  rw [← swN_take Y j k]
  exact ((h.own.stored j _).1.stored (j - 1) _).1
set_option maxRecDepth 100000 in
set_option maxHeartbeats 8000000 in
theorem l06Order_any (kv : Value) (KL : List Int) (w : World) (hv : IL w kv KL) (hn : KL.length ≤ 64) :
    Calls Try.prog 104 #[kv] w (Made (Value.int .i64) (0 : Int) (intsN (ordN (ltK fun i => KL.getD i 0) KL.length)) w) := by
  obtain ⟨i0, hi, hz0, hz1, hz2⟩ := info_parts Try.infoI
  obtain ⟨N, hN⟩ : ∃ N, N = KL.length := ⟨_, rfl⟩
  obtain ⟨lt, hlt⟩ : ∃ lt, lt = ltK fun i => KL.getD i 0 := ⟨_, rfl⟩
  rw [← hN, ← hlt]
  have HCL : Hid (∀ i, i < N → ∃ b off, kv = kv ∧ True) := Lib.hid fun _ _ => ⟨0, 0, rfl, trivial⟩
  clear HCL
  rcases hv with ⟨hz, ao, cap, rfl⟩ | ⟨b, off, cap, rfl, hpos, hbl, hcell⟩
  · have hN0 : N = 0 := by rw [hN, hz]; rfl
    subst hN0
    have HE := Lib.hid (Grows.empty (Value.int .i64) 2 w.heap.size w (Nat.le_refl _))
    clear hz hN hlt
    go_enter Try.func104, Try.ntmps104
    go_wp2_with fail
    refine wp_loop_rounds 1 ?_
    rw [rounds_succ]
    go_wp2_with fail
    refine bodyPost_ret (results_tmp rfl _ _ _) rfl ?_
    exact ⟨_, rfl, HE.out.si, below_alloc w _⟩
  have HC := Lib.hid hcell
  have HN := Lib.hid hN
  have HLT := Lib.hid hlt
  rw [← hN] at hn ⊢
  have HE := Lib.hid (Grows.empty (Value.int .i64) 2 w.heap.size w (Nat.le_refl _))
  have HB0 := Lib.hid (below_alloc w (.cells #[] 2))
  clear hcell hN hlt hpos
  go_enter Try.func104, Try.ntmps104
  go_wp2_with fail
  go_loopg [3, 4] N (fun gk v i wr => ∃ k : Nat, k ≤ N ∧ gk + k = N ∧ i = .int .i64 k ∧ Below w.heap.size w wr ∧ Grows (Value.int .i64) 2 w.heap.size v (intsN ((insS lt N k).take k)) wr)
  case atStart => exact ⟨0, Nat.zero_le _, by omega, rfl, HB0.out, HE.out⟩
  case round =>
    clear HE HB0
    obtain ⟨k, hk, hgk, rfl, hB, hG⟩ := hrel
    have HB := Lib.hid hB
    have HG := Lib.hid hG
    have HSL := Lib.hid (insS_len lt N k)
    have HML : Hid ((intsN ((insS lt N k).take k)).length = k) := Lib.hid (by rw [intsN_len, List.length_take, HSL.out]; omega)
    clear hB hG
    by_cases hlt2 : k < N
    · have HUP : Hid (intsN ((insS lt N k).take (k + 1)) = intsN ((insS lt N k).take k) ++ [(k : Int)]) := Lib.hid (by
        have e : (insS lt N k).take (k + 1) = (insS lt N k).take k ++ [k] := by
          rw [List.take_succ_eq_append_getElem (by rw [HSL.out]; exact hlt2)]
          have h2 := insS_tail lt N k k hk (Nat.le_refl _) hlt2
          rw [List.getD, List.getElem?_eq_getElem (by rw [HSL.out]; exact hlt2)] at h2
          simp only [Option.getD_some] at h2
          rw [h2]
        rw [e]; simp [intsN])
      have HFIN : Hid (insI lt k (insS lt N k) = insS lt N (k + 1)) := Lib.hid rfl
      have HLTN : Hid (∀ i, i < N → (insS lt N k).getD i 0 < N) := Lib.hid fun i hi => insS_lt lt hk hi
      obtain ⟨wo, rfl⟩ : ∃ x : World, x = wr := ⟨_, rfl⟩
      obtain ⟨g2, rfl⟩ : ∃ x : Nat, x = gk := ⟨_, rfl⟩
      go_wp2_with (at_builtin; refine wpList_append_own _ rfl _ _ 25 rfl w.heap.size 2 i0 (.int .i64 0) 1 8 Try.underlying25 hi hz0 hz1 hz2 rfl (by decide) _ _ _ rfl (Grows.alloc HG.out _) ⟨wo.heap.size, 0, none⟩ 1 1 [.int .i64 (k : Int)] rfl rfl ?c1 ?c2 ?c3 ?c4 ?c5 ?_)
      case c1 => exact one_new
      case c2 => intro u hu; simp at hu; subst hu; rfl
      case c3 => rw [HML.out]; unfold maxLen; omega
      case c4 => rw [HML.out]; omega
      case c5 => have := HB.out.size; simp; omega
      intro v' w' hown hgrow _
      have HN2 : Hid (Below w.heap.size w w' ∧ Grows (Value.int .i64) 2 w.heap.size v' (intsN ((insS lt N k).take (k + 1))) w') := Lib.hid ⟨(HB.out.alloc HB.out.size _).grown hgrow (by have := HB.out.size; simp; omega) (fun g hg => HG.out.block g hg), by rw [HUP.out]; exact Grows.more (news := [(k : Int)]) rfl hown⟩
      have hml2 : (intsN ((insS lt N k).take (k + 1))).length = k + 1 := by rw [intsN_len, List.length_take, HSL.out]; omega
      have hform := HN2.out.2
      unfold Grows at hform
      rw [hml2] at hform
      obtain ⟨g, capg, hv', hbg⟩ : ∃ g capg, v' = .slice (some ⟨g, 0, none⟩) (k + 1) capg ∧ True := by
        rcases hform.2 with ⟨_, h0⟩ | ⟨g, capg, _, h, _⟩
        · omega
        · exact ⟨g, capg, h, trivial⟩
      subst hv'
      have HO := Lib.hid (⟨HN2.out.1, hform⟩ : OrdAt w g capg (k + 1) (insS lt N k) w')
      clear hown hgrow HN2 hform hml2 hbg
      go_wp2_with fail
      go_loopg [5] k (fun gk s wr => ∃ (p : Nat) (Y : List Nat), s = .int .i64 p ∧ gk = p ∧ p ≤ k ∧ Y.length = N ∧ insI lt p Y = insS lt N (k + 1) ∧ (∀ i, i < N → Y.getD i 0 < N) ∧ OrdAt w g capg (k + 1) Y wr)
      case atStart => exact ⟨k, insS lt N k, rfl, rfl, Nat.le_refl _, HSL.out, HFIN.out, HLTN.out, HO.out⟩
      case round =>
        clear HO HFIN HLTN
        obtain ⟨p, Y, rfl, rfl, hp, hYl, hfin, hY, hat⟩ := hrel
        have HYL := Lib.hid hYl
        have HF := Lib.hid hfin
        have HYN := Lib.hid hY
        have HA := Lib.hid hat
        clear hYl hfin hY
        by_cases h0 : gk = 0
        · subst h0
          have HD : Hid (Y = insS lt N (k + 1)) := Lib.hid HF.out
          have n0 : decide ((0 : Int) < 0) = false := by decide
          have HEND : Hid (∀ m, Below w.heap.size w (wr.drewN m) ∧ Grows (Value.int .i64) 2 w.heap.size (.slice (some ⟨g, 0, none⟩) (k + 1) capg) (intsN ((insS lt N (k + 1)).take (k + 1))) (wr.drewN m)) := Lib.hid fun m => by
            have h := HA.out.drew m
            rw [HD.out] at h
            exact ⟨h.below, by unfold Grows; rw [intsN_len, List.length_take, insS_len, Nat.min_eq_left (by omega)]; exact h.own⟩
          clear hat
          go_wp2_with fail
          go_quiet (fail)
          go_wp2_with fail
          go_roundg (g2 - 1)
          case measure => omega
          case rel => exact ⟨k + 1, by omega, by omega, by go_num, (HEND.out _).1, (HEND.out _).2⟩
        · obtain ⟨q, rfl⟩ : ∃ q, gk = q + 1 := ⟨gk - 1, by omega⟩
          have c1 := hat.cell (i := q + 1) (by omega) (by rw [HYL.out]; omega)
          have c2 := hat.cell (i := q) (by omega) (by rw [HYL.out]; omega)
          have f1 := hat.free (q + 1)
          have f2 := hat.free q
          have hx := HYN.out (q + 1) (by omega)
          have hy := HYN.out q (by omega)
          have hbx := hat.below
          have k1 : wr.cell? ⟨b, off + Y.getD (q + 1) 0, none⟩ = some (.int .i64 (KL.getD (Y.getD (q + 1) 0) 0)) := by rw [hbx.cell (p := ⟨b, off + Y.getD (q + 1) 0, none⟩) hbl]; exact HC.out _ (by rw [← HN.out]; exact hx)
          have k2 : wr.cell? ⟨b, off + Y.getD q 0, none⟩ = some (.int .i64 (KL.getD (Y.getD q 0) 0)) := by rw [hbx.cell (p := ⟨b, off + Y.getD q 0, none⟩) hbl]; exact HC.out _ (by rw [← HN.out]; exact hy)
          have HSW := Lib.hid fun m => (hat.drew m).swap (q + 1)
          have HLT2 : Hid (lt (Y.getD (q + 1) 0) (Y.getD q 0) = decide (KL.getD (Y.getD (q + 1) 0) 0 < KL.getD (Y.getD q 0) 0)) := Lib.hid (by rw [HLT.out]; rfl)
          have HYES := Lib.hid fun h => (insI_yes (lt := lt) (j := q) (Y := Y) h).symm.trans HF.out
          have HNO := Lib.hid fun h => (insI_no (lt := lt) (j := q) (Y := Y) h).symm.trans HF.out
          have HSWL := Lib.hid (swN_len Y (q + 1))
          have HSWN : Hid (∀ i, i < N → (swN Y (q + 1)).getD i 0 < N) := Lib.hid fun i hi => by
            rw [swN_at (by omega) (by rw [HYL.out]; omega)]
            split
            · exact hx
            · split
              · exact hy
              · exact HYN.out i hi
          simp only [Nat.add_sub_cancel] at HSW
          generalize Y.getD (q + 1) 0 = x at c1 k1 hx HSW HLT2 HYES HNO
          generalize Y.getD q 0 = y at c2 k2 hy HSW HLT2 HYES HNO
          generalize KL.getD x 0 = kx at k1 HLT2
          generalize KL.getD y 0 = ky at k2 HLT2
          have lx : (x : Int) < (N : Int) := by omega
          have ly : (y : Int) < (N : Int) := by omega
          have wq : IntKind.i64.wrap ((q : Int) + 1 - 1) = (q : Int) := by rw [Int.add_sub_cancel]; exact IntWalk.i64_in _ (by omega)
          have n1 : decide ((0 : Int) < (q : Int) + 1) = true := by simp <;> omega
          have n2 : decide (0 < q + 1) = true := by simp
          have hgr := hat.ge
          clear hat hbx h0
          by_cases hc : kx < ky
          · have dc : decide (kx < ky) = true := by simp; omega
            have HFN := Lib.hid (HYES.out (by rw [HLT2.out, dc]))
            go_wp2_with fail
            go_quiet (fail)
            go_wp2_with fail
            go_roundg q
            case measure => omega
            case rel => exact ⟨q, _, rfl, rfl, by omega, HSWL.out.trans HYL.out, HFN.out, HSWN.out, HSW.out _⟩
          · have dc : decide (kx < ky) = false := by simp; omega
            have HD := Lib.hid (HNO.out (by rw [HLT2.out, dc]))
            have HEND : Hid (∀ m, Below w.heap.size w (wr.drewN m) ∧ Grows (Value.int .i64) 2 w.heap.size (.slice (some ⟨g, 0, none⟩) (k + 1) capg) (intsN ((insS lt N (k + 1)).take (k + 1))) (wr.drewN m)) := Lib.hid fun m => by
              have h := HA.out.drew m
              rw [HD.out] at h
              exact ⟨h.below, by unfold Grows; rw [intsN_len, List.length_take, insS_len, Nat.min_eq_left (by omega)]; exact h.own⟩
            go_wp2_with fail
            go_quiet (fail)
            go_wp2_with fail
            go_roundg (g2 - 1)
            case measure => omega
            case rel => exact ⟨k + 1, by omega, by omega, by go_num, (HEND.out _).1, (HEND.out _).2⟩
    · obtain rfl : k = N := by omega
      go_wp2_with fail
      refine bodyPost_ret (results_tmp rfl _ _ _) rfl ?_
      have e : (insS lt k k).take k = insS lt k k := List.take_of_length_le (by rw [insS_len]; exact Nat.le_refl _)
      have h := HG.out.si (d := (0 : Int))
      rw [e] at h
      exact ⟨_, rfl, h, HB.out⟩
end Go.Proofs.Ytbaaocgdpgoggaa
