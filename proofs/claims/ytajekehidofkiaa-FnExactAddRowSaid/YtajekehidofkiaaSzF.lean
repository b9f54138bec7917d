/- How long a list of singles is. -/
import Derived.Test.YtajekehidofkiaaF2
namespace Go.Proofs.Ytajekehidofkiaa
open Go.RowKit Go.ChangeShapes Go.WideShapes

/-! ### szFloat32S -/
theorem szF32_yes (v : Value) (n : Nat) (m : Int) (w : World) (h : ∃ ao cap, v = .slice ao n cap) (hm : (n : Int) ≤ m) (hb : m ≤ 1048576) :
    Calls Try.prog 52 #[v, .int .i64 m] w fun e w' => e = .returned (.int .i64 (m - n)) ∧ w = w' := by
  obtain ⟨ao, cap, rfl⟩ := h
  go_enter Try.func52, Try.ntmps52
  go_wp2
  go_ret
  exact ⟨rfl, rfl⟩
theorem szF32_no (v : Value) (n : Nat) (m : Int) (w : World) (h : ∃ ao cap, v = .slice ao n cap) (hm : m < n) (h0 : 0 ≤ m) (hb : m ≤ 1048576) (hn : n ≤ maxLen) :
    Calls Try.prog 52 #[v, .int .i64 m] w fun e w' => e = .returned (.int .i64 (-1)) ∧ w = w' := by
  obtain ⟨ao, cap, rfl⟩ := h
  unfold maxLen at hn
  go_enter Try.func52, Try.ntmps52
  go_wp2
  go_ret
  exact ⟨rfl, rfl⟩

end Go.Proofs.Ytajekehidofkiaa
