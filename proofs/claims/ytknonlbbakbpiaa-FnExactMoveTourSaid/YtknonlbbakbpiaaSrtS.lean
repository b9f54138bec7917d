/- slices.Sort of few integers. -/
import Derived.Test.YtknonlbbakbpiaaSrt
namespace Go.Proofs.Ytknonlbbakbpiaa
open Go.RowKit Go.ChangeShapes Go.WideShapes

set_option maxRecDepth 100000 in
set_option maxHeartbeats 2000000 in
theorem pdq_any (g off cap : Nat) (k : Int) (Z : List Int) (w : World) (hA : Arr (Value.int .i64) 0 w g off Z) (h1 : 1 ≤ Z.length) (hn : Z.length ≤ 12) :
    Calls Try.prog 217 #[.slice (some ⟨g, off, none⟩) Z.length (Z.length + cap), .int .i64 0, .int .i64 Z.length, .int .i64 k] w (Sorted g off Z w) := by
  have HA := Lib.hid hA
  have h12 : decide ((Z.length : Int) ≤ 12) = true := decide_eq_true (by omega)
  have h13 : decide (Z.length ≤ 12) = true := decide_eq_true hn
  have INS := Lib.hid (insSort_any g off cap Z w hA h1 (by omega))
  clear hA
  go_enter Try.func217, Try.ntmps217
  go_wp2_with fail
  refine wp_loop_rounds 1 ?_
  rw [rounds_succ]
  go_wp2_with fail
  go_at_call 241; refine (INS.out).mono ?_; rintro e w' ⟨rfl, Y, hY⟩
  have HY := Lib.hid hY
  clear hY
  go_wp2_with fail
  refine bodyPost_ret (v := .tuple #[]) (by simp [results, Try.results217, go_sem]) rfl ?_
  exact ⟨rfl, Y, HY.out⟩
end Go.Proofs.Ytknonlbbakbpiaa
