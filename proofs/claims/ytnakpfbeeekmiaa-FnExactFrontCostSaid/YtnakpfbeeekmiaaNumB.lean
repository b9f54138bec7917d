/- The numbers below a number, as the program makes them. -/
import Derived.Test.YtnakpfbeeekmiaaGrw
import Derived.Test.YtnakpfbeeekmiaaMix
import Derived.Deep.LoopGhost
namespace Go.Proofs.Ytnakpfbeeekmiaa
open Go.RowKit Go.ChangeShapes Go.WideShapes

def numL (n : Nat) : List Int := allF (fun i => (i : Int)) n
theorem numL_len (n : Nat) : (numL n).length = n := allF_len _ _
theorem numL_up (n : Nat) : numL (n + 1) = numL n ++ [(n : Int)] := by unfold numL allF; rw [List.range_succ, List.map_append]; rfl
/-- A list of the call's own, that may grow. -/
def MadeG (Z : List Int) (w : World) (e : Ending) (w' : World) : Prop := ∃ v, e = .returned v ∧ Grows (Value.int .i64) 2 w.heap.size v Z w' ∧ Below w.heap.size w w'
set_option maxRecDepth 100000 in
set_option maxHeartbeats 4000000 in
theorem numbersBelowG_any (n : Nat) (w : World) (hn : n ≤ 1000) :
    Calls Try.prog 89 #[.int .i64 n] w (MadeG (numL n) w) := by
  obtain ⟨i0, hi, hz0, hz1, hz2⟩ := info_parts Try.infoI
  go_enter Try.func89, Try.ntmps89
  go_wp2_with fail
  go_loopg [3, 6] n (fun gk v i wr => ∃ k : Nat, k ≤ n ∧ gk + k = n ∧ i = .int .i64 k ∧ Below w.heap.size w wr ∧ Grows (Value.int .i64) 2 w.heap.size v (numL k) wr)
  case atStart => exact ⟨0, Nat.zero_le _, by omega, rfl, Below.refl _ _, Grows.nil _ _ _ _⟩
  case round =>
    obtain ⟨k, hk, hgk, rfl, hB, hG⟩ := hrel
    have HB := Lib.hid hB
    have HG := Lib.hid hG
    have HML := Lib.hid (numL_len k)
    have HUP := Lib.hid (numL_up k)
    clear hB hG
    by_cases hlt : k < n
    · go_wp2_with (at_builtin; refine wpList_append_own _ rfl _ _ 25 rfl w.heap.size 2 i0 (.int .i64 0) 1 8 Try.underlying25 hi hz0 hz1 hz2 rfl (by decide) _ _ _ rfl (Grows.alloc HG.out _) ⟨wr.heap.size, 0, none⟩ 1 1 [.int .i64 (k : Int)] rfl rfl ?c1 ?c2 ?c3 ?c4 ?c5 ?_)
      case c1 => exact one_new
      case c2 => intro u hu; simp at hu; subst hu; rfl
      case c3 => rw [HML.out]; unfold maxLen; omega
      case c4 => rw [HML.out]; omega
      case c5 => have := HB.out.size; simp; omega
      intro v' w' hown hgrow _
      have HN2 : Hid (Below w.heap.size w w' ∧ Grows (Value.int .i64) 2 w.heap.size v' (numL (k + 1)) w') := Lib.hid ⟨(HB.out.alloc HB.out.size _).grown hgrow (by have := HB.out.size; simp; omega) (fun g hg => HG.out.block g hg), by rw [HUP.out]; exact Grows.more (news := [(k : Int)]) rfl hown⟩
      clear hown hgrow
      go_wp2_with fail
      go_roundg (gk - 1)
      case measure => omega
      case rel => exact ⟨k + 1, by omega, by omega, by go_num, HN2.out.1, HN2.out.2⟩
    · obtain rfl : k = n := by omega
      go_wp2_with fail
      refine bodyPost_ret (results_tmp rfl _ _ _) rfl ?_
      exact ⟨_, rfl, HG.out, HB.out⟩
theorem numbersBelow_any (n : Nat) (w : World) (hn : n ≤ 1000) :
    Calls Try.prog 89 #[.int .i64 n] w (Made (Value.int .i64) (0 : Int) (numL n) w) :=
  (numbersBelowG_any n w hn).mono fun _ _ ⟨v, he, hg, hb⟩ => ⟨v, he, hg.si, hb⟩
end Go.Proofs.Ytnakpfbeeekmiaa
