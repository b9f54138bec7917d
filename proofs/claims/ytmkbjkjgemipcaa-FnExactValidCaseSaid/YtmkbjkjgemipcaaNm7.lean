/- Names: the model's test of cases. -/
import Derived.Test.YtmkbjkjgemipcaaName
namespace Go.Proofs.Ytmkbjkjgemipcaa
open Go.RowKit

set_option maxHeartbeats 400000 in
theorem l07Name_any (s : ByteArray) (hs : s.size ≤ maxLen) (w : World) :
    Calls Try.prog 114 #[.string s] w fun e w' => e = .returned (.bool (nameB s)) ∧ w = w' := by
  unfold maxLen at hs
  go_enter Try.func114, Try.ntmps114
  go_wp2
  go_loop [3] (fun i => ∃ k : Nat, k ≤ s.size ∧ i = .int .i64 k ∧ AllLow s k) (fun i => s.size - (intOf i).toNat)
  case atStart => exact ⟨0, Nat.zero_le _, rfl, allLow_zero s⟩
  case round =>
    obtain ⟨k, hk, rfl, hok⟩ := hrel
    by_cases hp : k < s.size
    · by_cases hb : 97 ≤ (s[k]'hp).toNat ∧ (s[k]'hp).toNat ≤ 122
      · have hok2 := allLow_succ hok hp hb
        obtain ⟨hb1, hb2⟩ := hb
        go_wp2
        go_round
        case rel => exact ⟨k + 1, by omega, by go_num, hok2⟩
        case measure => simp [intOf]; omega
      · have hf := Lib.hid (name_no hp hb)
        by_cases hb1 : (s[k]'hp).toNat < 97
        · clear hb
          go_wp2
          go_ret
          exact ⟨ret_boolN (by rw [hf.out]; first | done | rfl | (simp <;> omega)), rfl⟩
        · have hb2 : 122 < (s[k]'hp).toNat := by omega
          clear hb
          go_wp2
          go_ret
          exact ⟨ret_boolN (by rw [hf.out]; first | done | rfl | (simp <;> omega)), rfl⟩
    · obtain rfl : k = s.size := by omega
      by_cases h1 : 1 ≤ s.size
      · by_cases h2 : s.size ≤ 8
        · have hf := Lib.hid (name_yes hok h1 h2)
          have hd : decide (s.size ≤ 8) = true := by simpa using h2
          go_wp2
          go_ret
          exact ⟨ret_boolN (by rw [hf.out]; first | done | rfl | (simp <;> omega)), rfl⟩
        · have hf := Lib.hid (name_small (s := s) (by omega))
          have hd : decide ((s.size : Int) ≤ 8) = false := by simp; omega
          go_wp2
          go_ret
          exact ⟨ret_boolN (by rw [hf.out]; first | done | rfl | (simp <;> omega)), rfl⟩
      · have hf := Lib.hid (name_small (s := s) (by omega))
        have hd : decide (1 ≤ (s.size : Int)) = false := by simp; omega
        go_wp2
        go_ret
        exact ⟨ret_boolN (by rw [hf.out]; first | done | rfl | (simp <;> omega)), rfl⟩
end Go.Proofs.Ytmkbjkjgemipcaa
