/- The children of an index: the model. -/
import Derived.Test.YtmkbjkjgemipcaaTrS
import Derived.Test.YtmkbjkjgemipcaaCh0
import Derived.Test.YtmkbjkjgemipcaaGrw
import Derived.Laws.OwnMore
namespace Go.Proofs.Ytmkbjkjgemipcaa
open Go.RowKit Go.ChangeShapes Go.WideShapes

set_option maxRecDepth 100000 in
set_option maxHeartbeats 2000000 in
theorem l07Children_any (g a : Nat) (T : Tr) (w : World) (hg : TrAt w g T) (hn : T.P.length ≤ 64) :
    Calls Try.prog 71 #[.pointer (some ⟨g, 0, none⟩), .int .i64 a] w (Made (Value.int .i64) (0 : Int) (chL T.P a) w) := by
  obtain ⟨i0, hi, hz0, hz1, hz2⟩ := info_parts Try.infoI
  obtain ⟨P, V⟩ := T
  obtain ⟨s1, s2, hb, g1, -⟩ := hg.box
  simp only at g1 hn ⊢
  have hgl := hb.lt
  have HX := Lib.hid hb
  have HE := Lib.hid (Grows.empty (Value.int .i64) 2 w.heap.size w (Nat.le_refl _))
  have HB0 := Lib.hid (below_alloc w (.cells #[] 2))
  have HLN := Lib.hid (fun k => chN_len P a k)
  unfold chL
  clear hg
  rcases g1 with ⟨rfl, ao, cap, rfl⟩ | ⟨b, off, cap, rfl, hpos, hbl, hcell⟩
  · obtain ⟨c0, -⟩ := hb
    go_enter Try.func71, Try.ntmps71
    go_wp2_with fail
    refine wp_loop_rounds 1 ?_
    rw [rounds_succ]
    go_wp2_with fail
    go_ret
    exact ⟨_, rfl, HE.out.si, HB0.out⟩
  have HC := Lib.hid hcell
  obtain ⟨c0, -⟩ := hb
  clear hcell
  go_enter Try.func71, Try.ntmps71
  go_wp2_with fail
  go_loopg [5, 13] P.length (fun gk s i wr => ∃ k : Nat, k ≤ P.length ∧ gk + k = P.length ∧ i = .int .i64 k ∧ Below w.heap.size w wr ∧ Grows (Value.int .i64) 2 w.heap.size s (chN P a k) wr)
  case atStart => exact ⟨0, Nat.zero_le _, by omega, rfl, HB0.out, HE.out⟩
  case round =>
    clear c0 HE HB0
    obtain ⟨k, hk, hgk, rfl, hB, hG⟩ := hrel
    have HB := Lib.hid hB
    have HG := Lib.hid hG
    by_cases hlt : k < P.length
    · obtain ⟨c0, -⟩ := HX.out.keep hB hgl
      have d0 : wr.cell? ⟨b, off + k, none⟩ = some (.int .i64 (P.getD k 0)) := by rw [hB.cell (p := ⟨b, off + k, none⟩) hbl]; exact HC.out k hlt
      obtain ⟨y, hy⟩ : ∃ y, y = P.getD k 0 := ⟨_, rfl⟩
      rw [← hy] at d0
      clear hB hG
      by_cases e : y = (a : Int)
      · have e1 : ((y : Int) == (a : Int)) = true := by simpa using e
        by_cases h0 : k = 0
        · subst h0
          have HN : Hid (chN P a 1 = chN P a 0) := Lib.hid (by rw [chN_one, chN_zero])
          clear hy e
          rw [Nat.add_zero] at d0
          go_wp2_with fail
          go_roundg (gk - 1)
          case measure => omega
          case rel => exact ⟨0 + 1, by omega, by omega, by go_num, HB.out, by rw [HN.out]; exact HG.out⟩
        · have HN : Hid (chN P a (k + 1) = chN P a k ++ [(k : Int)]) := Lib.hid (chN_yes (by unfold isChild; rw [decide_eq_true (show 0 < k by omega), ← hy, decide_eq_true e]; rfl))
          have hk0 : decide ((0 : Int) < (k : Int)) = true := by simp; omega
          have hk2 : (0 : Int) < (k : Int) := by omega
          clear hy e
          go_wp2_with (at_builtin; refine wpList_append_own _ rfl _ _ 27 rfl w.heap.size 2 i0 (.int .i64 0) 1 8 Try.underlying27 hi hz0 hz1 hz2 rfl (by decide) _ _ _ rfl (Grows.alloc HG.out _) ⟨wr.heap.size, 0, none⟩ 1 1 [.int .i64 (k : Int)] rfl rfl ?c1 ?c2 ?c3 ?c4 ?c5 ?_)
          case c1 => exact one_new
          case c2 => intro u hu; simp at hu; subst hu; rfl
          case c3 => have := HLN.out k; unfold maxLen; omega
          case c4 => have := HLN.out k; omega
          case c5 => have := HB.out.size; simp; omega
          intro v' w' hown hgrow _
          have HN2 : Hid (Below w.heap.size w w' ∧ Grows (Value.int .i64) 2 w.heap.size v' (chN P a (k + 1)) w') := Lib.hid ⟨(HB.out.alloc HB.out.size _).grown hgrow (by have := HB.out.size; simp; omega) (fun g hg => HG.out.block g hg), by rw [HN.out]; exact Grows.more (news := [(k : Int)]) rfl hown⟩
          clear hown hgrow
          go_wp2_with fail
          go_roundg (gk - 1)
          case measure => omega
          case rel => exact ⟨k + 1, by omega, by omega, by go_num, HN2.out.1, HN2.out.2⟩
      · have e1 : ((y : Int) == (a : Int)) = false := by simpa using e
        have HN : Hid (chN P a (k + 1) = chN P a k) := Lib.hid (chN_no (by unfold isChild; rw [← hy, decide_eq_false e, Bool.and_false]))
        clear hy e
        go_wp2_with fail
        go_roundg (gk - 1)
        case measure => omega
        case rel => exact ⟨k + 1, by omega, by omega, by go_num, HB.out, by rw [HN.out]; exact HG.out⟩
    · obtain rfl : k = P.length := by omega
      clear hB hG
      go_wp2_with fail
      go_ret
      exact ⟨_, rfl, HG.out.si, HB.out⟩
end Go.Proofs.Ytmkbjkjgemipcaa
