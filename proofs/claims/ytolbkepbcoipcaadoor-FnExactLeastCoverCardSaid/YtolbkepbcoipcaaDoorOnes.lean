/- How many binary digits are 1: both sides. -/
import Derived.Test.YtolbkepbcoipcaaDoorIl
import Derived.Test.YtolbkepbcoipcaaDoorPop
import Derived.Test.YtolbkepbcoipcaaDoorGc0
import Derived.Laws.ShiftsVar
import Derived.Deep.LoopGhost
namespace Go.Proofs.YtolbkepbcoipcaaDoor
open Go.RowKit Go.ChangeShapes Go.WideShapes

theorem popN_succ (k y : Nat) : popN (k + 1) y = y % 2 + popN k (y / 2) := rfl
theorem l04Ones_any (x : Nat) (w : World) (h : x < 65536) :
    Calls Tryd.prog 27 #[.int .i64 x] w (fun e w' => e = .returned (.int .i64 (pop x)) ∧ w = w') := by
  go_enter Tryd.func27, Tryd.ntmps27
  go_wp2_with fail
  go_loopg [0, 3] 16 (fun gk xx n wr => ∃ a y : Nat, xx = .int .i64 y ∧ n = .int .i64 a ∧ y < 2 ^ gk ∧ a + popN gk y = pop x ∧ gk ≤ 16 ∧ w = wr)
  case atStart => exact ⟨0, x, rfl, rfl, by simpa using h, by simp [pop], by omega, rfl⟩
  case round =>
    obtain ⟨a, y, rfl, rfl, hy, ha, hg, rfl⟩ := hrel
    have HY := Lib.hid hy
    have HA := Lib.hid ha
    have a1 : a ≤ 16 := by have := pop_le x; omega
    have y1 : y < 65536 := Nat.lt_of_lt_of_le hy (by have : 2 ^ gk ≤ 2 ^ 16 := Nat.pow_le_pow_right (by omega) hg; simpa using this)
    clear hy ha
    by_cases h0 : y = 0
    · subst h0
      have HZ : Hid (a = pop x) := Lib.hid (by have h1 := HA.out; rw [(popN_zero gk 0 HY.out).2 rfl] at h1; omega)
      go_wp2_with fail
      go_ret
      exact ⟨ret_int (by rw [HZ.out]), rfl⟩
    · obtain ⟨g, rfl⟩ : ∃ g, gk = g + 1 := ⟨gk - 1, by
        cases gk with
        | zero => have := HY.out; simp at this; omega
        | succ g => rfl⟩
      have hpos : decide ((0 : Int) < (y : Int)) = true := by simp; omega
      have HN : Hid (y / 2 < 2 ^ g ∧ a + y % 2 + popN g (y / 2) = pop x) := Lib.hid ⟨by have h1 := HY.out; rw [Nat.pow_succ] at h1; omega, by have h1 := HA.out; rw [popN_succ] at h1; omega⟩
      go_wp2_with fail
      go_roundg g
      case measure => omega
      case rel => exact ⟨a + y % 2, y / 2, by congr 1, by congr 1, HN.out.1, HN.out.2, by omega, rfl⟩
theorem l04Ones_same (x : Nat) (w : World) (h : x < 65536) :
    Calls Tryd.prog 27 #[.int .i64 x] w (fun e w' => e = .returned (.int .i64 (pop x)) ∧ w' = w) := (l04Ones_any x w h).mono fun _ _ ⟨h1, h2⟩ => ⟨h1, h2.symm⟩
end Go.Proofs.YtolbkepbcoipcaaDoor
