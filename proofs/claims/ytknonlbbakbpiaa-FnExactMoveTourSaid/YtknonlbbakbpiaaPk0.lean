/- The best pack (plain). -/
import Derived.Test.YtknonlbbakbpiaaMix
namespace Go.Proofs.Ytknonlbbakbpiaa

/-- Things that the best pack of the first k things takes, with so much room left, the last one first. -/
def packL (S G : List Int) : Nat → Nat → List Int
  | 0, _ => []
  | k + 1, l => if bestG S G k l < bestG S G (k + 1) l then (k : Int) :: packL S G k (l - (S.getD k 0).toNat) else packL S G k l
theorem packL_len (S G : List Int) : ∀ k l, (packL S G k l).length ≤ k
  | 0, _ => by simp [packL]
  | k + 1, l => by
    have h1 := packL_len S G k l
    have h2 := packL_len S G k (l - (S.getD k 0).toNat)
    unfold packL
    split
    · rw [List.length_cons]; omega
    · omega
theorem packL_yes {S G : List Int} {k l s : Nat} (hs : S.getD k 0 = (s : Int)) (h : bestG S G k l < bestG S G (k + 1) l) : packL S G (k + 1) l = (k : Int) :: packL S G k (l - s) := by
  show (if bestG S G k l < bestG S G (k + 1) l then (k : Int) :: packL S G k (l - (S.getD k 0).toNat) else _) = _
  rw [if_pos h, hs, Int.toNat_natCast]
theorem packL_no {S G : List Int} {k l : Nat} (h : ¬ bestG S G k l < bestG S G (k + 1) l) : packL S G (k + 1) l = packL S G k l := by
  show (if bestG S G k l < bestG S G (k + 1) l then _ else packL S G k l) = _
  rw [if_neg h]
/-- What is taken has room. -/
theorem take_room {S G : List Int} {k l s : Nat} (hs : S.getD k 0 = (s : Int)) (h : bestG S G k l < bestG S G (k + 1) l) : s ≤ l := by
  rcases Nat.lt_or_ge l s with h1 | h1
  · rw [best_no hs h1] at h; omega
  · exact h1
def packA (S G : List Int) (r : Int) : List Int := if canB S G r then (packL S G S.length r.toNat).reverse else []
def packG (S G : List Int) (r : Int) : Int := if canB S G r then bestG S G S.length r.toNat else 0
theorem packA_len {S G : List Int} {r : Int} : (packA S G r).length ≤ 1048576 := by
  unfold packA
  split
  · rename_i h
    have := (canB_ok h).s.l2
    have := packL_len S G S.length r.toNat
    rw [List.length_reverse]; omega
  · simp
/-- A list turned around, as far as it was appended. -/
theorem back_step {Z : List Int} {k : Nat} (h : k < Z.length) : (Z.drop k).reverse = (Z.drop (k + 1)).reverse ++ [Z.getD k 0] := by
  rw [List.drop_eq_getElem_cons h, List.reverse_cons]
  simp [List.getD, h]
theorem back_len {Z : List Int} {k : Nat} : (Z.drop k).reverse.length = Z.length - k := by simp
/-- A list whose first i and last i elements are turned around. -/
def turnP (Z : List Int) (i : Nat) : List Int := (List.range Z.length).map fun x => if x < i ∨ Z.length - i ≤ x then Z.getD (Z.length - 1 - x) 0 else Z.getD x 0
theorem turnP_len (Z : List Int) (i : Nat) : (turnP Z i).length = Z.length := by simp [turnP]
theorem turnP_at {Z : List Int} {i x : Nat} (h : x < Z.length) : (turnP Z i).getD x 0 = if x < i ∨ Z.length - i ≤ x then Z.getD (Z.length - 1 - x) 0 else Z.getD x 0 := by simp [turnP, List.getD, h]
theorem turnP_old {Z : List Int} {i x : Nat} (h : x < Z.length) (h1 : i ≤ x) (h2 : x < Z.length - i) : (turnP Z i).getD x 0 = Z.getD x 0 := by rw [turnP_at h, if_neg (by omega)]
theorem turnP_0 (Z : List Int) : turnP Z 0 = Z := by
  refine List.ext_getElem (by simp [turnP]) fun i h1 h2 => ?_
  simp only [turnP, List.getElem_map, List.getElem_range]
  rw [if_neg (by omega)]
  simp [List.getD, h2]
theorem turnP_end {Z : List Int} {i : Nat} (h : Z.length ≤ 2 * i + 1) : turnP Z i = Z.reverse := by
  refine List.ext_getElem (by simp [turnP]) fun x h1 h2 => ?_
  have hx : x < Z.length := by simpa [turnP] using h1
  simp only [turnP, List.getElem_map, List.getElem_range, List.getElem_reverse]
  by_cases c : x < i ∨ Z.length - i ≤ x
  · rw [if_pos c]
    have : Z.length - 1 - x < Z.length := by omega
    simp [List.getD, this]
  · rw [if_neg c]
    have e : Z.length - 1 - x = x := by omega
    simp only [e]
    simp [List.getD, hx]
theorem turnP_step {Z : List Int} {i : Nat} (h : i < Z.length - 1 - i) : ((turnP Z i).set i (Z.getD (Z.length - 1 - i) 0)).set (Z.length - 1 - i) (Z.getD i 0) = turnP Z (i + 1) := by
  refine List.ext_getElem (by simp [turnP]) fun x h1 h2 => ?_
  have hx : x < Z.length := by simpa [turnP] using h2
  rw [List.getElem_set, List.getElem_set]
  simp only [turnP, List.getElem_map, List.getElem_range]
  by_cases e1 : Z.length - 1 - i = x
  · rw [if_pos e1, if_pos (by omega)]
    congr 1
    omega
  · rw [if_neg e1]
    by_cases e2 : i = x
    · rw [if_pos e2, if_pos (by omega)]
      congr 1
      omega
    · rw [if_neg e2]
      by_cases c : x < i ∨ Z.length - i ≤ x
      · rw [if_pos c, if_pos (by omega)]
      · rw [if_neg c, if_neg (by omega)]
end Go.Proofs.Ytknonlbbakbpiaa
