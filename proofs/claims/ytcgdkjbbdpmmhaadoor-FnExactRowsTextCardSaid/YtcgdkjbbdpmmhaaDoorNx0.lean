/- The texts of lists of numbers with digits of bits (plain). -/
import Derived.Test.YtcgdkjbbdpmmhaaDoorHt0
import Derived.Test.YtcgdkjbbdpmmhaaDoorExt
namespace Go.Proofs.YtcgdkjbbdpmmhaaDoor
open Go

/-- The digits of a number. -/
def hxT (x : Nat) : List UInt8 := hx8 (Fl.told x)
theorem hxT_8 (x : Nat) : (hxT x).length = 8 := hx8_len _
theorem hxT_len (x : Nat) : (hxT x).length ≤ 20 := by rw [hxT_8]; omega
theorem told_lt {x : Nat} (h : x < 4294967296) : Fl.told x < 4294967296 := by
  cases hn : (Ieee.single.read x).isNaN with
  | true => rw [Fl.told_nan hn]; omega
  | false => rw [Fl.told_num hn]; exact h
/-- The text of a list. -/
def nxtL (L : List Nat) : List UInt8 := if L.length = 0 then noneD else Lib.join (L.map hxT) [44]
/-- The text of the first k + 1. -/
def nxtK (L : List Nat) : Nat → List UInt8
  | 0 => hxT (L.getD 0 0)
  | k + 1 => nxtK L k ++ ([44] ++ hxT (L.getD (k + 1) 0))
theorem nxtK_cons (x : Nat) (r : List Nat) : ∀ k, k ≤ r.length → nxtK (x :: r) k = hxT x ++ Lib.joinTail [44] ((r.map hxT).take k)
  | 0, _ => by simp [nxtK, Lib.joinTail, List.getD]
  | k + 1, h => by
    have hk : k < r.length := by omega
    have hy : (r.map hxT)[k]? = some (hxT (r.getD k 0)) := by simp [List.getD, hk]
    rw [Lib.joinTail_take_succ _ _ _ _ hy]
    show nxtK (x :: r) k ++ ([44] ++ hxT ((x :: r).getD (k + 1) 0)) = _
    rw [nxtK_cons x r k (by omega), show (x :: r).getD (k + 1) 0 = r.getD k 0 by simp [List.getD]]
    simp [List.append_assoc]
theorem nxtK_end {L : List Nat} (h : 0 < L.length) : nxtK L (L.length - 1) = nxtL L := by
  cases L with
  | nil => simp at h
  | cons x r =>
    unfold nxtL
    rw [if_neg (by simp), List.map_cons, Lib.join_cons, show (x :: r).length - 1 = r.length by simp, nxtK_cons x r _ (Nat.le_refl _)]
    congr 2
    rw [List.take_of_length_le (by simp)]
theorem nxtK_len {L : List Nat} : ∀ k, k < L.length → (nxtK L k).length ≤ 21 * (k + 1)
  | 0, h => by
    have := hxT_len (L.getD 0 0)
    show (hxT (L.getD 0 0)).length ≤ _
    omega
  | k + 1, h => by
    have h1 := nxtK_len (L := L) k (by omega)
    have h2 := hxT_len (L.getD (k + 1) 0)
    show (nxtK L k ++ ([44] ++ hxT (L.getD (k + 1) 0))).length ≤ _
    have e : ([44] : List UInt8).length = 1 := rfl
    rw [List.length_append, List.length_append, e]
    omega
theorem nxtL_len (L : List Nat) : (nxtL L).length ≤ 21 * L.length + 4 := by
  by_cases h : 0 < L.length
  · rw [← nxtK_end h]
    have := nxtK_len (L := L) (L.length - 1) (by omega)
    omega
  · unfold nxtL
    rw [if_pos (by omega)]
    show 4 ≤ _
    omega
/-- The texts, k of which are made. -/
def nxS (L : List Nat) (k : Nat) : List ByteArray := (List.range L.length).map fun i => if i < k then bsOf (hxT (L.getD i 0)) else bsOf []
theorem nxS_len (L : List Nat) (k : Nat) : (nxS L k).length = L.length := by simp [nxS]
theorem nxS_start (L : List Nat) : List.replicate L.length (bsOf []) = nxS L 0 := by
  refine List.ext_getElem (by simp [nxS]) fun i h1 h2 => ?_
  simp [nxS]
theorem nxS_step (L : List Nat) (k : Nat) : (nxS L k).set k (bsOf (hxT (L.getD k 0))) = nxS L (k + 1) := by
  refine List.ext_getElem (by simp [nxS]) fun i h1 h2 => ?_
  rw [List.getElem_set]
  simp only [nxS, List.getElem_map, List.getElem_range]
  by_cases e : k = i
  · subst e; rw [if_pos rfl, if_pos (by omega)]
  · rw [if_neg e]
    by_cases e2 : i < k
    · rw [if_pos e2, if_pos (by omega)]
    · rw [if_neg e2, if_neg (by omega)]
theorem nxS_end (L : List Nat) : (nxS L L.length).map (·.data.toList) = L.map hxT := by
  refine List.ext_getElem (by simp [nxS]) fun i h1 h2 => ?_
  simp only [nxS, List.getElem_map, List.getElem_range]
  have h : i < L.length := by simpa using h2
  rw [if_pos h, bs_list]
  simp [List.getD, h]
end Go.Proofs.YtcgdkjbbdpmmhaaDoor
