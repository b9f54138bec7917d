/- A list of numbers that is read (plain). -/
import Derived.Test.YtcgdkjbbdpmmhaaDoorSpm0
import Derived.Test.YtcgdkjbbdpmmhaaDoorRd0
namespace Go.Proofs.YtcgdkjbbdpmmhaaDoor
open Go

/-- Part k of a text. -/
def ptK (s : ByteArray) (k : Nat) : ByteArray := (ptY 44 s).getD k (bsOf [])
def noneS : ByteArray := ⟨#[110, 111, 110, 101]⟩
def rlG (s : ByteArray) : Bool := (List.range (ptY 44 s).length).all fun i => rdB (ptK s i).data.toList
def rlB (s : ByteArray) : Bool := decide (s = noneS) || (decide ((ptY 44 s).length ≤ 64) && rlG s)
/-- The first k numbers. -/
def rlK (s : ByteArray) (k : Nat) : List Int := (List.range k).map fun i => rdN (ptK s i).data.toList
def rlL (s : ByteArray) : List Int := if s = noneS then [] else if rlB s then rlK s (ptY 44 s).length else []
theorem rlK_len (s : ByteArray) (k : Nat) : (rlK s k).length = k := by simp [rlK]
theorem rlK_succ (s : ByteArray) (k : Nat) : rlK s (k + 1) = rlK s k ++ [rdN (ptK s k).data.toList] := by simp [rlK, List.range_succ]
theorem rl_none {s : ByteArray} (h : s = noneS) : rlB s = true ∧ rlL s = [] := by
  unfold rlB rlL
  rw [if_pos h, decide_eq_true h]
  exact ⟨rfl, rfl⟩
theorem rl_no {s : ByteArray} (h : s ≠ noneS) (h2 : rlB s = false) : rlL s = [] := by
  unfold rlL
  rw [if_neg h, h2]; rfl
theorem rl_long {s : ByteArray} (h : s ≠ noneS) (h2 : 64 < (ptY 44 s).length) : rlB s = false ∧ rlL s = [] := by
  have : rlB s = false := by unfold rlB; rw [decide_eq_false h, decide_eq_false (by omega)]; rfl
  exact ⟨this, rl_no h this⟩
theorem rl_bad {s : ByteArray} {k : Nat} (h : s ≠ noneS) (hk : k < (ptY 44 s).length) (h2 : rdB (ptK s k).data.toList = false) : rlB s = false ∧ rlL s = [] := by
  have hg : rlG s = false := by
    rw [Bool.eq_false_iff]
    intro hc
    unfold rlG at hc
    have := List.all_eq_true.1 hc k (List.mem_range.2 hk)
    rw [h2] at this; cases this
  have : rlB s = false := by unfold rlB; rw [decide_eq_false h, hg, Bool.and_false]; rfl
  exact ⟨this, rl_no h this⟩
theorem rl_good {s : ByteArray} (h : s ≠ noneS) (hl : (ptY 44 s).length ≤ 64) (h2 : ∀ k, k < (ptY 44 s).length → rdB (ptK s k).data.toList = true) : rlB s = true ∧ rlL s = rlK s (ptY 44 s).length := by
  have hg : rlG s = true := by
    unfold rlG
    rw [List.all_eq_true]
    intro k hk
    exact h2 k (List.mem_range.1 hk)
  have : rlB s = true := by unfold rlB; rw [hg, decide_eq_true hl, Bool.and_true, Bool.or_true]
  refine ⟨this, ?_⟩
  unfold rlL
  rw [if_neg h, this]; rfl
theorem rlL_len (s : ByteArray) : (rlL s).length ≤ 64 := by
  by_cases h : s = noneS
  · rw [(rl_none h).2]; simp
  · cases hb : rlB s with
    | false => rw [rl_no h hb]; simp
    | true =>
      have hl : (ptY 44 s).length ≤ 64 := by
        unfold rlB at hb
        rw [decide_eq_false h, Bool.false_or, Bool.and_eq_true] at hb
        exact of_decide_eq_true hb.1
      unfold rlL
      rw [if_neg h, hb, if_pos rfl, rlK_len]
      exact hl
theorem none_iff (s : ByteArray) : s.toList = [110, 111, 110, 101] ↔ s = noneS := by
  rw [ByteArray.toList_eq]
  exact ⟨fun h => ByteArray.ext (Array.toList_inj.1 h), fun h => by rw [h]; rfl⟩
end Go.Proofs.YtcgdkjbbdpmmhaaDoor
