/- Check numbers of texts: both sides. -/
import Derived.Test.YtcgdkjbbdpmmhaaDoorFrame
import Derived.Test.YtcgdkjbbdpmmhaaDoorChecked
import Derived.WalkKit
import Derived.WalkSpells
import Derived.WalkLawsBesides
import Derived.Lib.Hide
import Derived.ProofKit
namespace Go.Proofs.YtcgdkjbbdpmmhaaDoor
open Go.ChangeShapes Go.WideShapes Go.ChangeAt Go.RowKit Go.ChangeMaps

def chk (c : Int) (b : UInt8) : Int := (907 * c + (b.toNat : Int) + 179) % 65003
def chkTo (c : Int) (s : ByteArray) (k : Nat) : Int := (s.data.toList.take k).foldl chk c
theorem chkTo_zero (c : Int) (s : ByteArray) : chkTo c s 0 = c := rfl
theorem chkTo_succ (c : Int) (s : ByteArray) (k : Nat) (h : k < s.size) : chkTo c s (k + 1) = chk (chkTo c s k) (s[k]'h) := by
  unfold chkTo
  have hl : k < s.data.toList.length := by simpa using h
  rw [List.take_succ_eq_append_getElem hl, List.foldl_append]; rfl
theorem chk_in (c : Int) (b : UInt8) : 0 ≤ chk c b ∧ chk c b < 65003 := by unfold chk; omega
theorem chkTo_in (c : Int) (s : ByteArray) (h0 : 0 ≤ c) (h1 : c < 65003) : ∀ k, k ≤ s.size → 0 ≤ chkTo c s k ∧ chkTo c s k < 65003
  | 0, _ => ⟨h0, h1⟩
  | k + 1, h => by rw [chkTo_succ c s k h]; exact chk_in _ _

set_option maxHeartbeats 400000 in
theorem l01Check_any (c : Int) (s : ByteArray) (hs : s.size ≤ maxLen) (h0 : 0 ≤ c) (h1 : c < 65003) (w : World) :
    Calls Tryd.prog 64 #[.int .i64 c, .string s] w fun e w' => e = .returned (.int .i64 (chkTo c s s.size)) ∧ w = w' := by
  unfold maxLen at hs
  go_enter Tryd.func64, Tryd.ntmps64
  go_wp2
  go_loop [0, 5] (fun n i => ∃ k : Nat, k ≤ s.size ∧ i = .int .i64 k ∧ n = .int .i64 (chkTo c s k)) (fun _ i => s.size - (intOf i).toNat)
  case atStart => exact ⟨0, Nat.zero_le _, rfl, rfl⟩
  case round =>
    obtain ⟨k, hk, rfl, rfl⟩ := hrel
    obtain ⟨r0, r1⟩ := chkTo_in c s h0 h1 k hk
    by_cases hp : k < s.size
    · have hst := Lib.hid (chkTo_succ c s k hp)
      generalize chkTo c s k = x at r0 r1 hst ⊢
      have hb := (s[k]'hp).toNat_lt
      go_wp2
      go_round
      case rel => exact ⟨k + 1, by omega, by go_num, by rw [hst.out]; unfold chk; first | rfl | go_num⟩
      case measure => simp [intOf]; omega
    · obtain rfl : k = s.size := by omega
      go_wp2
      go_ret
      exact ⟨rfl, rfl⟩
set_option maxHeartbeats 400000 in
theorem implCheck_yes (c : Int) (s : ByteArray) (hs : s.size ≤ maxLen) (h0 : 0 ≤ c) (h1 : c < 65003) (w : World) :
    Calls Tryd.prog 70 #[.int .i64 c, .string s] w fun e w' => e = .returned (.tuple #[.int .i64 (chkTo c s s.size), .bool true]) ∧ w = w' := by
  unfold maxLen at hs
  go_enter Tryd.func70, Tryd.ntmps70
  go_wp2
  go_loop [6, 17] (fun n i => ∃ k : Nat, k ≤ s.size ∧ i = .int .i64 k ∧ n = .int .i64 (chkTo c s k)) (fun _ i => s.size - (intOf i).toNat)
  case atStart => exact ⟨0, Nat.zero_le _, rfl, rfl⟩
  case round =>
    obtain ⟨k, hk, rfl, rfl⟩ := hrel
    obtain ⟨r0, r1⟩ := chkTo_in c s h0 h1 k hk
    by_cases hp : k < s.size
    · have hst := Lib.hid (chkTo_succ c s k hp)
      generalize chkTo c s k = x at r0 r1 hst ⊢
      have hb := (s[k]'hp).toNat_lt
      go_wp2
      go_round
      case rel => exact ⟨k + 1, by omega, by go_num, by rw [hst.out]; unfold chk; first | rfl | go_num⟩
      case measure => simp [intOf]; omega
    · obtain rfl : k = s.size := by omega
      go_wp2
      go_ret2
      exact ⟨rfl, rfl⟩
theorem implCheck_no (c : Int) (s : ByteArray) (h : c < 0 ∨ 65002 < c) (w : World) :
    Calls Tryd.prog 70 #[.int .i64 c, .string s] w fun e w' => e = .returned (.tuple #[.int .i64 0, .bool false]) ∧ w = w' := by
  rcases h with h | h
  all_goals
    go_enter Tryd.func70, Tryd.ntmps70
    go_wp2
    go_ret2
    exact ⟨rfl, rfl⟩
end Go.Proofs.YtcgdkjbbdpmmhaaDoor
