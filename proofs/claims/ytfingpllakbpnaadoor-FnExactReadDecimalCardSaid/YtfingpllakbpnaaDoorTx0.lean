/- The texts of lists of numbers (plain). -/
import Derived.Test.YtfingpllakbpnaaDoorDc0
import Derived.Lib.Join
namespace Go.Proofs.YtfingpllakbpnaaDoor
open Go

def bsOf (D : List UInt8) : ByteArray := ⟨D.toArray⟩
theorem bs_list (D : List UInt8) : (bsOf D).data.toList = D := by simp [bsOf]
theorem bs_size (D : List UInt8) : (bsOf D).size = D.length := by simp [bsOf, ByteArray.size]
theorem bs_append (a b : List UInt8) : bsOf a ++ bsOf b = bsOf (a ++ b) := by
  apply ByteArray.ext
  simp [bsOf]
theorem dec_len {u : Nat} (hu : u ≤ 9223372036854775808) : (Lib.decDigits u).length ≤ 19 := by
  have h : DcAt u 0 (Lib.decDigits u) := by
    refine ⟨fun h => ?_, fun _ _ => rfl, by simp⟩
    rcases h with h | h
    · exact absurd rfl h
    · exfalso
      rw [Lib.decDigits_eq] at h
      have := Lib.nDigits_pos u
      have h2 := congrArg List.length h
      simp at h2; omega
  rcases dcAt_len2 h hu with h1 | h1
  · exact h1
  · exact absurd rfl h1
theorem itoa_len {n : Int} (h : -9223372036854775808 ≤ n ∧ n ≤ 9223372036854775807) : (Lib.itoa n).length ≤ 20 := by
  have := dec_len (u := n.natAbs) (by omega)
  by_cases hn : n < 0
  · rw [itoa_neg hn, List.length_cons]; omega
  · rw [itoa_pos hn]; omega
def noneD : List UInt8 := [110, 111, 110, 101]
/-- The text of a list. -/
def txtL (L : List Int) : List UInt8 := if L.length = 0 then noneD else Lib.join (L.map Lib.itoa) [44]
/-- The text of the first k + 1. -/
def txtK (L : List Int) : Nat → List UInt8
  | 0 => Lib.itoa (L.getD 0 0)
  | k + 1 => txtK L k ++ ([44] ++ Lib.itoa (L.getD (k + 1) 0))
theorem txtK_cons (x : Int) (r : List Int) : ∀ k, k ≤ r.length → txtK (x :: r) k = Lib.itoa x ++ Lib.joinTail [44] ((r.map Lib.itoa).take k)
  | 0, _ => by simp [txtK, Lib.joinTail, List.getD]
  | k + 1, h => by
    have hk : k < r.length := by omega
    have hy : (r.map Lib.itoa)[k]? = some (Lib.itoa (r.getD k 0)) := by simp [List.getD, hk]
    rw [Lib.joinTail_take_succ _ _ _ _ hy]
    show txtK (x :: r) k ++ ([44] ++ Lib.itoa ((x :: r).getD (k + 1) 0)) = _
    rw [txtK_cons x r k (by omega), show (x :: r).getD (k + 1) 0 = r.getD k 0 by simp [List.getD]]
    simp [List.append_assoc]
theorem txtK_end {L : List Int} (h : 0 < L.length) : txtK L (L.length - 1) = txtL L := by
  cases L with
  | nil => simp at h
  | cons x r =>
    unfold txtL
    rw [if_neg (by simp), List.map_cons, Lib.join_cons, show (x :: r).length - 1 = r.length by simp, txtK_cons x r _ (Nat.le_refl _)]
    congr 2
    rw [List.take_of_length_le (by simp)]
theorem txtK_len {L : List Int} (hL : ∀ i, i < L.length → -9223372036854775808 ≤ L.getD i 0 ∧ L.getD i 0 ≤ 9223372036854775807) : ∀ k, k < L.length → (txtK L k).length ≤ 21 * (k + 1)
  | 0, h => by
    have := itoa_len (hL 0 h)
    show (Lib.itoa (L.getD 0 0)).length ≤ _
    omega
  | k + 1, h => by
    have h1 := txtK_len hL k (by omega)
    have h2 := itoa_len (hL (k + 1) h)
    show (txtK L k ++ ([44] ++ Lib.itoa (L.getD (k + 1) 0))).length ≤ _
    have e : ([44] : List UInt8).length = 1 := rfl
    rw [List.length_append, List.length_append, e]
    omega
theorem txtL_len {L : List Int} (hL : ∀ i, i < L.length → -9223372036854775808 ≤ L.getD i 0 ∧ L.getD i 0 ≤ 9223372036854775807) : (txtL L).length ≤ 21 * L.length + 4 := by
  by_cases h : 0 < L.length
  · rw [← txtK_end h]
    have := txtK_len hL (L.length - 1) (by omega)
    omega
  · unfold txtL
    rw [if_pos (by omega)]
    show 4 ≤ _
    omega
/-- The texts, k of which are made. -/
def txS (L : List Int) (k : Nat) : List ByteArray := (List.range L.length).map fun i => if i < k then bsOf (Lib.itoa (L.getD i 0)) else bsOf []
theorem txS_len (L : List Int) (k : Nat) : (txS L k).length = L.length := by simp [txS]
theorem txS_start (L : List Int) : List.replicate L.length (bsOf []) = txS L 0 := by
  refine List.ext_getElem (by simp [txS]) fun i h1 h2 => ?_
  simp [txS]
theorem txS_step (L : List Int) (k : Nat) : (txS L k).set k (bsOf (Lib.itoa (L.getD k 0))) = txS L (k + 1) := by
  refine List.ext_getElem (by simp [txS]) fun i h1 h2 => ?_
  rw [List.getElem_set]
  simp only [txS, List.getElem_map, List.getElem_range]
  by_cases e : k = i
  · subst e; rw [if_pos rfl, if_pos (by omega)]
  · rw [if_neg e]
    by_cases e2 : i < k
    · rw [if_pos e2, if_pos (by omega)]
    · rw [if_neg e2, if_neg (by omega)]
theorem txS_end (L : List Int) : (txS L L.length).map (·.data.toList) = L.map Lib.itoa := by
  refine List.ext_getElem (by simp [txS]) fun i h1 h2 => ?_
  simp only [txS, List.getElem_map, List.getElem_range]
  have h : i < L.length := by simpa using h2
  rw [if_pos h, bs_list]
  simp [List.getD, h]
theorem getD_tail {α : Type} (Z : List α) (d : α) {j : Nat} {x : α} (h : Z[j]? = some x) : j < Z.length ∧ Z.getD j d = x := by
  have hj : j < Z.length := (List.getElem?_eq_some_iff.1 h).1
  exact ⟨hj, by simp [List.getD, h]⟩
end Go.Proofs.YtfingpllakbpnaaDoor
