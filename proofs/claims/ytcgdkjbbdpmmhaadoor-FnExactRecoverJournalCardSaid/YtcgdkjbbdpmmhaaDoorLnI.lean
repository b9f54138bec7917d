/- The library's walk over the lines of a text, and what is behind a blank. -/
import Derived.Test.YtcgdkjbbdpmmhaaDoorRgS
import Derived.Test.YtcgdkjbbdpmmhaaDoorRj0
import Derived.Test.YtcgdkjbbdpmmhaaDoorIbI
import Derived.Test.YtcgdkjbbdpmmhaaDoorIxI
import Derived.Test.YtcgdkjbbdpmmhaaDoorTsfI
import Derived.OwnWalkIn
import Derived.TacticsInMore
import Derived.LoopIn
import Derived.Deep.QuietTactic
import Derived.BigQuiet
import Derived.Deep.RegionWith
import Derived.Lib.Hide
namespace Go.Proofs.YtcgdkjbbdpmmhaaDoor
open Go.RowKit Go.ChangeShapes Go.WideShapes Go.Shelf

theorem bs_eq' (s : ByteArray) : bsOf s.data.toList = s := by
  apply ByteArray.ext
  simp [bsOf]
theorem extract_zero (s : ByteArray) (b : Nat) : s.extract 0 b = bsOf (s.data.toList.take b) := by
  rw [← bs_eq' (s.extract 0 b), extract_list, List.drop_zero]
theorem extract_end (s : ByteArray) (a : Nat) : (s.extract a s.size).data.toList = s.data.toList.drop a := by
  rw [extract_list, List.take_of_length_le (by rw [Array.length_toList]; exact Nat.le_refl _)]
theorem aft_yes : ∀ {l : List UInt8} {i : Nat}, Lib.indexByte l 32 = (i : Int) → aftL l = l.drop (i + 1)
  | [], i, h => by simp [Lib.indexByte] at h
  | b :: l, i, h => by
    unfold Lib.indexByte at h
    unfold aftL
    by_cases hb : b = 32
    · subst hb
      rw [if_pos rfl]
      simp at h
      have : i = 0 := by omega
      subst this; rfl
    · rw [if_neg hb]
      have hb2 : (b == 32) = false := by simp [hb]
      rw [hb2] at h
      simp only [Bool.false_eq_true, if_false] at h
      have hg := Lib.indexByte_ge l 32
      split at h
      · omega
      · obtain ⟨j, hj⟩ : ∃ j : Nat, Lib.indexByte l 32 = (j : Int) := ⟨(Lib.indexByte l 32).toNat, by
          rename_i hne
          simp at hne
          omega⟩
        have : i = j + 1 := by omega
        subst this
        rw [aft_yes hj]; rfl
theorem aft_miss {l : List UInt8} (h : Lib.indexByte l 32 = -1) : aftL l = [] := by
  have hn := Lib.indexByte_none h
  exact (aft_none (fun hm => by
    obtain ⟨j, hj, e⟩ := List.getElem_of_mem hm
    exact hn j (by rw [List.getElem?_eq_getElem hj, e]))).1
theorem indexByte_any (s : ByteArray) (w : World) :
    Calls Tryd.prog 67 #[.string s, .int .u8 10] w fun e w' => e = .returned (.int .i64 (Lib.indexByte s.data.toList 10)) ∧ w = w' :=
  (Any.strings_IndexByte Tryd.lays137 s 10 w).mono fun _ _ ⟨he, hw⟩ => ⟨he, hw.symm⟩
theorem trimNl_any (s : ByteArray) (w : World) (hs : s.size ≤ 1048576) :
    Calls Tryd.prog 40 #[.string s, .string ⟨#[10]⟩] w fun e w' => e = .returned (.string (bsOf (Lib.trimSuffix s.data.toList [10]))) ∧ w = w' :=
  (Any.strings_TrimSuffix Tryd.lays102 s ⟨#[10]⟩ w (by omega)).mono fun _ _ ⟨he, hw⟩ => ⟨he, hw.symm⟩
def SaysCut (s : ByteArray) (w : World) (e : Ending) (w' : World) : Prop := ∃ (x : ByteArray) (b : Bool) (n : Nat), e = .returned (.tuple #[.string x, .string (aftB s), .bool b]) ∧ w' = w.drewN n
set_option maxRecDepth 100000 in
set_option maxHeartbeats 2000000 in
theorem cutLite_any (s : ByteArray) (w : World) (hs : s.size ≤ 1048576) :
    Calls Tryd.prog 68 #[.string s, .string ⟨#[32]⟩] w (SaysCut s w) := by
  have IX := Lib.hid (fun w => (Any.stringslite_Index_one Tryd.lays219 s 32 w).mono (fun e w' (h : _ ∧ w' = w) => (⟨h.1, h.2.symm⟩ : _ ∧ w = w')))
  have hge := Lib.indexByte_ge s.data.toList 32
  rcases Int.lt_or_le (Lib.indexByte s.data.toList 32) 0 with h | h
  · have h1 : Lib.indexByte s.data.toList 32 = -1 := by omega
    have HE : Hid (aftB s = bsOf []) := Lib.hid (by unfold aftB; rw [aft_miss h1])
    have IX2 := Lib.hid (fun w => h1 ▸ IX.out w)
    clear h h1 hge IX
    go_enter Tryd.func68, Tryd.ntmps68
    go_wp2_with fail
    go_at_call 98; refine (IX2.out _).mono ?_; rintro e w2 ⟨rfl, rfl⟩
    go_wp2_with fail
    refine bodyPost_ret (v := .tuple #[.string s, .string ⟨#[]⟩, .bool false]) (by simp [results, Tryd.results68, go_sem]) rfl ?_
    exact ⟨_, _, 0, by rw [HE.out]; rfl, rfl⟩
  · obtain ⟨i, hi⟩ : ∃ i : Nat, Lib.indexByte s.data.toList 32 = (i : Int) := ⟨(Lib.indexByte s.data.toList 32).toNat, by omega⟩
    have hlt : i < s.size := by
      have := (List.getElem?_eq_some_iff.1 (Lib.indexByte_some hi).1).1
      rwa [Array.length_toList] at this
    have HE : Hid (aftB s = s.extract (i + 1) s.size) := Lib.hid (by unfold aftB; rw [aft_yes hi, ← extract_end, bs_eq'])
    have IX2 := Lib.hid (fun w => hi ▸ IX.out w)
    have wi : IntKind.i64.wrap ((i : Int) + 1) = (i : Int) + 1 := by rw [IntKind.wrap_i64]; omega
    have hz : (⟨#[32]⟩ : ByteArray).size = 1 := rfl
    have i0 : (0 : Int) ≤ (i : Int) := by omega
    have i1 : (i : Int) ≤ (s.size : Int) := by omega
    have i2 : (i : Int) + 1 ≤ (s.size : Int) := by omega
    have i3 : (0 : Int) ≤ (i : Int) + 1 := by omega
    have i4 : ((i : Int) + 1).toNat = i + 1 := by omega
    have i5 : i ≤ s.size := by omega
    have i6 : i + 1 ≤ s.size := by omega
    clear h hge IX hi
    go_enter Tryd.func68, Tryd.ntmps68
    go_wp2_with fail
    go_at_call 98; refine (IX2.out _).mono ?_; rintro e w2 ⟨rfl, rfl⟩
    go_wp2_with fail
    go_quiet (fail)
    go_wp2_with fail
    refine bodyPost_ret (v := .tuple #[.string (s.extract 0 i), .string (s.extract (i + 1) s.size), .bool true]) (by simp [results, Tryd.results68, go_sem]) rfl ?_
    exact ⟨_, _, _, by rw [HE.out], rfl⟩
theorem cutBlank_any (s : ByteArray) (w : World) (hs : s.size ≤ 1048576) :
    Calls Tryd.prog 39 #[.string s, .string ⟨#[32]⟩] w (SaysCut s w) := by
  have CL := Lib.hid (fun w => cutLite_any s w hs)
  go_enter Tryd.func39, Tryd.ntmps39
  go_wp2_with fail
  go_at_call 68; refine (CL.out _).mono ?_; rintro e w2 ⟨x, b, n, rfl, rfl⟩
  go_wp2_with fail
  go_ret3
  exact ⟨_, _, _, rfl, rfl⟩
end Go.Proofs.YtcgdkjbbdpmmhaaDoor
