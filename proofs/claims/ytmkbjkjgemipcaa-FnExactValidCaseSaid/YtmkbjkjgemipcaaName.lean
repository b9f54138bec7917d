/- IsName: the loop over bytes and the loop over runes. -/
import Derived.Test.YtmkbjkjgemipcaaExt
import Derived.Laws.RangeAny
namespace Go.Proofs.Ytmkbjkjgemipcaa
open Go.RowKit

def lowB (c : UInt8) : Bool := decide (97 ≤ c.toNat ∧ c.toNat ≤ 122)
def nameB (s : ByteArray) : Bool := s.data.toList.all lowB && (decide (1 ≤ s.size) && decide (s.size ≤ 8))
def AllLow (s : ByteArray) (k : Nat) : Prop := ∀ j (h : j < s.size), j < k → lowB (s[j]'h) = true

theorem allLow_zero (s : ByteArray) : AllLow s 0 := fun _ _ h => by omega
theorem allLow_succ {s : ByteArray} {k : Nat} (h : AllLow s k) (hk : k < s.size) (hb : 97 ≤ (s[k]'hk).toNat ∧ (s[k]'hk).toNat ≤ 122) : AllLow s (k + 1) := by
  intro j hj hlt
  by_cases e : j = k
  · subst e; simpa [lowB] using hb
  · exact h j hj (by omega)
theorem all_low {s : ByteArray} (h : AllLow s s.size) : s.data.toList.all lowB = true := by
  rw [List.all_eq_true]
  intro c hc
  obtain ⟨j, hj, rfl⟩ := List.getElem_of_mem hc
  have hj2 : j < s.size := by simpa using hj
  have h3 : lowB s.data[j] = true := h j hj2 hj2
  simpa using h3
theorem name_no {s : ByteArray} {k : Nat} (hk : k < s.size) (hb : ¬ (97 ≤ (s[k]'hk).toNat ∧ (s[k]'hk).toNat ≤ 122)) : nameB s = false := by
  unfold nameB
  have : s.data.toList.all lowB = false := by
    rw [List.all_eq_false]
    refine ⟨s[k]'hk, ?_, by simpa [lowB] using hb⟩
    show s.data[k] ∈ s.data.toList
    simp
  rw [this]; rfl
theorem name_yes {s : ByteArray} (h : AllLow s s.size) (h1 : 1 ≤ s.size) (h2 : s.size ≤ 8) : nameB s = true := by
  unfold nameB; rw [all_low h]; simp [h1, h2]
theorem name_small {s : ByteArray} (h : ¬ (1 ≤ s.size ∧ s.size ≤ 8)) : nameB s = false := by
  unfold nameB
  have : (decide (1 ≤ s.size) && decide (s.size ≤ 8)) = false := by
    simp only [Bool.and_eq_false_iff, decide_eq_false_iff_not]
    omega
  rw [this]; simp
theorem ret_boolN {a b : Bool} (h : a = b) : Ending.returned (.bool a) = .returned (.bool b) := by rw [h]

set_option maxHeartbeats 400000 in
theorem implName_any (s : ByteArray) (hs : s.size ≤ maxLen) (w : World) :
    Calls Try.prog 88 #[.string s] w fun e w' => e = .returned (.bool (nameB s)) ∧ Below w.heap.size w w' := by
  unfold maxLen at hs
  by_cases h1 : s.size < 1
  · have hf := Lib.hid (name_small (s := s) (by omega))
    go_enter Try.func88, Try.ntmps88
    go_wp2
    go_ret
    exact ⟨ret_boolN (by rw [hf.out]), Below.refl _ _⟩
  by_cases h2 : 8 < s.size
  · have hf := Lib.hid (name_small (s := s) (by omega))
    go_enter Try.func88, Try.ntmps88
    go_wp2
    go_ret
    exact ⟨ret_boolN (by rw [hf.out]), Below.refl _ _⟩
  go_enter Try.func88, Try.ntmps88
  go_wp2
  go_loopw [4] (fun _ wr => ∃ pos : Nat, pos ≤ s.size ∧ wr = w.iter s pos ∧ AllLow s pos) (fun _ wr => s.size - wr.iterPos w.heap.size)
  case atStart => exact ⟨0, Nat.zero_le _, rfl, allLow_zero s⟩
  case round =>
    obtain ⟨pos, hps, rfl, hok⟩ := hrel
    have hbel : ∀ k, Below w.heap.size w (w.iter s k) := fun k => (Below.refl _ _).alloc (Nat.le_refl _) _
    have HB := Lib.hid hbel
    clear hbel
    by_cases hp : pos < s.size
    · by_cases ha : (s[pos]'hp).toNat < 128
      · have hnx := fun ty => run_next_ascii (P := Try.prog) w s pos ty hp ha
        by_cases hb : 97 ≤ (s[pos]'hp).toNat ∧ (s[pos]'hp).toNat ≤ 122
        · have hok2 := allLow_succ hok hp hb
          obtain ⟨hb1, hb2⟩ := hb
          go_wp2
          go_roundw
          case rel => exact ⟨pos + 1, by omega, rfl, hok2⟩
          case measure => simp; omega
        · have hf := Lib.hid (name_no hp hb)
          by_cases hb1 : (s[pos]'hp).toNat < 97
          · clear hb
            go_wp2
            go_ret
            exact ⟨ret_boolN (by rw [hf.out]), HB.out _⟩
          · have hb2 : 122 < (s[pos]'hp).toNat := by omega
            clear hb
            go_wp2
            go_ret
            exact ⟨ret_boolN (by rw [hf.out]), HB.out _⟩
      · have hnx := fun ty => run_next_any (P := Try.prog) w s pos ty hp
        have hd := (decode_high s pos hp (by omega)).1
        have hf := Lib.hid (name_no hp (by omega))
        generalize Utf8.decode s pos = d at hnx hd
        go_wp2
        go_ret
        exact ⟨ret_boolN (by rw [hf.out]), HB.out _⟩
    · obtain rfl : pos = s.size := by omega
      have hnx := fun ty => run_next_end (P := Try.prog) w s s.size ty (by omega)
      have hf := Lib.hid (name_yes hok (by omega) (by omega))
      go_wp2
      go_ret
      exact ⟨ret_boolN (by rw [hf.out]), HB.out _⟩

end Go.Proofs.Ytmkbjkjgemipcaa
