/- The children of the indices of a tree (plain). -/
import Derived.Test.YtmkbjkjgemipcaaTr0
namespace Go.Proofs.Ytmkbjkjgemipcaa

def isChild (P : List Int) (a j : Nat) : Bool := decide (0 < j) && decide (P.getD j 0 = (a : Int))
/-- The children of a among the first i indices. -/
def chN (P : List Int) (a i : Nat) : List Int := ((List.range i).filter (isChild P a)).map fun (x : Nat) => (x : Int)
def chL (P : List Int) (a : Nat) : List Int := chN P a P.length
theorem chN_zero (P : List Int) (a : Nat) : chN P a 0 = [] := rfl
theorem chN_yes {P : List Int} {a i : Nat} (h : isChild P a i = true) : chN P a (i + 1) = chN P a i ++ [(i : Int)] := by
  unfold chN; rw [List.range_succ, List.filter_append, List.map_append]; simp [h]
theorem chN_no {P : List Int} {a i : Nat} (h : isChild P a i = false) : chN P a (i + 1) = chN P a i := by
  unfold chN; rw [List.range_succ, List.filter_append, List.map_append]; simp [h]
theorem chN_len (P : List Int) (a i : Nat) : (chN P a i).length ≤ i := by
  unfold chN
  rw [List.length_map]
  exact Nat.le_trans (List.length_filter_le _ _) (by simp)
/-- The first index has no parent among the indices. -/
theorem chN_one {P : List Int} {a : Nat} : chN P a 1 = [] := by
  have : isChild P a 0 = false := by unfold isChild; simp
  rw [chN_no this, chN_zero]
theorem isChild_at {P : List Int} {a j p : Nat} (h0 : 0 < j) (hp : P.getD j 0 = (p : Int)) : isChild P a j = decide (p = a) := by
  unfold isChild
  rw [decide_eq_true h0, hp, Bool.true_and]
  by_cases e : p = a
  · subst e; simp
  · rw [decide_eq_false e, decide_eq_false (by omega)]
def noKid (P : List Int) (a : Nat) : Bool := decide ((chL P a).length = 0)
/-- The ends among the first i indices. -/
def lvN (P : List Int) (i : Nat) : List Int := ((List.range i).filter (noKid P)).map fun (x : Nat) => (x : Int)
theorem lvN_yes {P : List Int} {i : Nat} (h : noKid P i = true) : lvN P (i + 1) = lvN P i ++ [(i : Int)] := by
  unfold lvN; rw [List.range_succ, List.filter_append, List.map_append]; simp [h]
theorem lvN_no {P : List Int} {i : Nat} (h : noKid P i = false) : lvN P (i + 1) = lvN P i := by
  unfold lvN; rw [List.range_succ, List.filter_append, List.map_append]; simp [h]
theorem lvN_len (P : List Int) (i : Nat) : (lvN P i).length ≤ i := by
  unfold lvN
  rw [List.length_map]
  exact Nat.le_trans (List.length_filter_le _ _) (by simp)
def lvL (P V : List Int) : List Int := if treeB P V then lvN P P.length else []
theorem lvL_no {P V : List Int} (h : treeB P V = false) : lvL P V = [] := by unfold lvL; rw [h]; rfl
theorem lvL_yes {P V : List Int} (h : treeB P V = true) : lvL P V = lvN P P.length := by unfold lvL; rw [if_pos h]
theorem lvL_len (P V : List Int) : (lvL P V).length ≤ 1048576 := by
  unfold lvL
  split
  · rename_i h
    have := (treeB_ok h).l2
    have := lvN_len P P.length
    omega
  · simp
/-- Whether an index is an even number of steps from the first one. -/
def evF (P : List Int) : Nat → Nat → Bool
  | 0, _ => true
  | f + 1, i => if i = 0 then true else !evF P f (P.getD i 0).toNat
def evB (P : List Int) (i : Nat) : Bool := evF P i i
theorem evF_enough {P : List Int} (hp : ∀ i, 0 < i → i < P.length → 0 ≤ P.getD i 0 ∧ P.getD i 0 < i) : ∀ f i, i < P.length → i ≤ f → evF P f i = evF P i i
  | 0, i, _, h => by obtain rfl : i = 0 := by omega
                     rfl
  | f + 1, i, hl, h => by
    by_cases h0 : i = 0
    · subst h0; show (if (0 : Nat) = 0 then true else _) = true; rw [if_pos rfl]
    · obtain ⟨m, rfl⟩ : ∃ m, i = m + 1 := ⟨i - 1, by omega⟩
      have hq := hp (m + 1) (by omega) hl
      have e1 : evF P (f + 1) (m + 1) = !evF P f (P.getD (m + 1) 0).toNat := if_neg (by omega)
      have e2 : evF P (m + 1) (m + 1) = !evF P m (P.getD (m + 1) 0).toNat := if_neg (by omega)
      rw [e1, e2, evF_enough hp f _ (by omega) (by omega), evF_enough hp m _ (by omega) (by omega)]
theorem evB_zero (P : List Int) : evB P 0 = true := rfl
theorem evB_step {P : List Int} (hp : ∀ i, 0 < i → i < P.length → 0 ≤ P.getD i 0 ∧ P.getD i 0 < i) {i p : Nat} (h0 : 0 < i) (hi : i < P.length) (e : P.getD i 0 = (p : Int)) : evB P i = !evB P p := by
  obtain ⟨m, rfl⟩ : ∃ m, i = m + 1 := ⟨i - 1, by omega⟩
  have hq := hp (m + 1) (by omega) hi
  unfold evB
  have e2 : evF P (m + 1) (m + 1) = !evF P m (P.getD (m + 1) 0).toNat := if_neg (by omega)
  rw [e2, e, Int.toNat_natCast, evF_enough hp m p (by omega) (by omega)]
end Go.Proofs.Ytmkbjkjgemipcaa
