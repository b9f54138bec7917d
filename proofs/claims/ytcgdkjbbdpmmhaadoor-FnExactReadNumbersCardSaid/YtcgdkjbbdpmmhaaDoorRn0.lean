/- A list of numbers with digits of bits that is read (plain). -/
import Derived.Test.YtcgdkjbbdpmmhaaDoorPt0
import Derived.Test.YtcgdkjbbdpmmhaaDoorHx0
namespace Go.Proofs.YtcgdkjbbdpmmhaaDoor
open Go

def rnG (s : ByteArray) : Bool := (List.range (ptY 44 s).length).all fun i => hxOk (ptK s i).data.toList
def rnB (s : ByteArray) : Bool := decide (s = noneS) || (decide ((ptY 44 s).length ≤ 256) && rnG s)
/-- The first k numbers. -/
def rnK (s : ByteArray) (k : Nat) : List Nat := (List.range k).map fun i => hxR (ptK s i).data.toList
def rnL (s : ByteArray) : List Nat := if s = noneS then [] else if rnB s then rnK s (ptY 44 s).length else []
theorem rnK_len (s : ByteArray) (k : Nat) : (rnK s k).length = k := by simp [rnK]
theorem rnK_succ (s : ByteArray) (k : Nat) : rnK s (k + 1) = rnK s k ++ [hxR (ptK s k).data.toList] := by simp [rnK, List.range_succ]
theorem rn_none {s : ByteArray} (h : s = noneS) : rnB s = true ∧ rnL s = [] := by
  unfold rnB rnL
  rw [if_pos h, decide_eq_true h]
  exact ⟨rfl, rfl⟩
theorem rn_no {s : ByteArray} (h : s ≠ noneS) (h2 : rnB s = false) : rnL s = [] := by
  unfold rnL
  rw [if_neg h, h2]; rfl
theorem rn_long {s : ByteArray} (h : s ≠ noneS) (h2 : 256 < (ptY 44 s).length) : rnB s = false ∧ rnL s = [] := by
  have : rnB s = false := by unfold rnB; rw [decide_eq_false h, decide_eq_false (by omega)]; rfl
  exact ⟨this, rn_no h this⟩
theorem rn_bad {s : ByteArray} {k : Nat} (h : s ≠ noneS) (hk : k < (ptY 44 s).length) (h2 : hxOk (ptK s k).data.toList = false) : rnB s = false ∧ rnL s = [] := by
  have hg : rnG s = false := by
    rw [Bool.eq_false_iff]
    intro hc
    unfold rnG at hc
    have := List.all_eq_true.1 hc k (List.mem_range.2 hk)
    rw [h2] at this; cases this
  have : rnB s = false := by unfold rnB; rw [decide_eq_false h, hg, Bool.and_false]; rfl
  exact ⟨this, rn_no h this⟩
theorem rn_good {s : ByteArray} (h : s ≠ noneS) (hl : (ptY 44 s).length ≤ 256) (h2 : ∀ k, k < (ptY 44 s).length → hxOk (ptK s k).data.toList = true) : rnB s = true ∧ rnL s = rnK s (ptY 44 s).length := by
  have hg : rnG s = true := by
    unfold rnG
    rw [List.all_eq_true]
    intro k hk
    exact h2 k (List.mem_range.1 hk)
  have : rnB s = true := by unfold rnB; rw [hg, decide_eq_true hl, Bool.and_true, Bool.or_true]
  refine ⟨this, ?_⟩
  unfold rnL
  rw [if_neg h, this]; rfl
theorem rnL_len (s : ByteArray) : (rnL s).length ≤ 256 := by
  by_cases h : s = noneS
  · rw [(rn_none h).2]; simp
  · cases hb : rnB s with
    | false => rw [rn_no h hb]; simp
    | true =>
      have hl : (ptY 44 s).length ≤ 256 := by
        unfold rnB at hb
        rw [decide_eq_false h, Bool.false_or, Bool.and_eq_true] at hb
        exact of_decide_eq_true hb.1
      unfold rnL
      rw [if_neg h, hb, if_pos rfl, rnK_len]
      exact hl
end Go.Proofs.YtcgdkjbbdpmmhaaDoor
