/- slices.Sort of few integers, whole. -/
import Derived.Test.YtknonlbbakbpiaaSrtS
namespace Go.Proofs.Ytknonlbbakbpiaa
open Go.RowKit Go.ChangeShapes Go.WideShapes

theorem few12 {k : Nat} (h1 : 1 ≤ k) (h2 : k ≤ 12) : k = 1 ∨ k = 2 ∨ k = 3 ∨ k = 4 ∨ k = 5 ∨ k = 6 ∨ k = 7 ∨ k = 8 ∨ k = 9 ∨ k = 10 ∨ k = 11 ∨ k = 12 := by omega
set_option maxRecDepth 100000 in
set_option maxHeartbeats 4000000 in
theorem len64_any (x : Nat) (w : World) (h1 : 1 ≤ x) (h2 : x ≤ 12) : Calls Try.prog 233 #[.int .u64 x] w (fun e w' => (∃ k : Int, e = .returned (.int .i64 k)) ∧ w = w') := by
  rcases few12 h1 h2 with rfl | rfl | rfl | rfl | rfl | rfl | rfl | rfl | rfl | rfl | rfl | rfl
  all_goals
    clear h1 h2
    go_enter Try.func233, Try.ntmps233
    go_wp2_with fail
    go_ret
    exact ⟨⟨_, rfl⟩, rfl⟩
theorem len_any (x : Nat) (w : World) (h1 : 1 ≤ x) (h2 : x ≤ 12) : Calls Try.prog 202 #[.int .u64 x] w (fun e w' => (∃ k : Int, e = .returned (.int .i64 k)) ∧ w = w') := by
  have L := Lib.hid (len64_any x w h1 h2)
  have wx : IntKind.u64.wrap (x : Int) = (x : Int) := by rw [IntKind.wrap_u64]; omega
  clear h1 h2
  go_enter Try.func202, Try.ntmps202
  go_wp2_with fail
  go_at_call 233; refine (L.out).mono ?_; rintro e w' ⟨⟨k, rfl⟩, rfl⟩
  go_wp2_with fail
  go_ret
  exact ⟨⟨_, rfl⟩, rfl⟩
set_option maxHeartbeats 2000000 in
theorem sort_any (g off cap : Nat) (Z : List Int) (w : World) (hA : Arr (Value.int .i64) 0 w g off Z) (h1 : 1 ≤ Z.length) (hn : Z.length ≤ 12) :
    Calls Try.prog 193 #[.slice (some ⟨g, off, none⟩) Z.length (Z.length + cap)] w (Sorted g off Z w) := by
  have wx : IntKind.u64.wrap (Z.length : Int) = (Z.length : Int) := by rw [IntKind.wrap_u64]; omega
  have L := Lib.hid (len_any Z.length w h1 hn)
  have P := Lib.hid fun k => pdq_any g off cap k Z w hA h1 hn
  clear hA
  go_enter Try.func193, Try.ntmps193
  go_wp2_with fail
  go_at_call 202; refine (L.out).mono ?_; rintro e w' ⟨⟨k, rfl⟩, rfl⟩
  go_wp2_with fail
  go_at_call 217; refine (P.out _).mono ?_; rintro e w' ⟨rfl, Y, hY⟩
  have HY := Lib.hid hY
  clear hY
  go_wp2_with fail
  refine bodyPost_ret (v := .tuple #[]) (by simp [results, Try.results193, go_sem]) rfl ?_
  exact ⟨rfl, Y, HY.out⟩
end Go.Proofs.Ytknonlbbakbpiaa
