/- A list of indices, put in order by insertion: equal ones stay as they are (plain). -/
import Derived.Test.YtnakpfbeeekmiaaNumB
import Derived.Sort.Defs
namespace Go.Proofs.Ytnakpfbeeekmiaa
open Go.Sort

def swN (Y : List Nat) (j : Nat) : List Nat := (Y.set j (Y.getD (j - 1) 0)).set (j - 1) (Y.getD j 0)
theorem swN_len (Y : List Nat) (j : Nat) : (swN Y j).length = Y.length := by simp [swN]
theorem swN_perm {Y : List Nat} {j : Nat} (h : j < Y.length) : (swN Y j).Perm Y := by
  unfold swN
  have h1 : j - 1 < Y.length := by omega
  rw [show Y.getD (j - 1) 0 = Y[j - 1] by simp [List.getD, h1], show Y.getD j 0 = Y[j] by simp [List.getD, h]]
  exact List.set_set_perm h h1
theorem swN_at {Y : List Nat} {j i : Nat} (h0 : 0 < j) (h : j < Y.length) : (swN Y j).getD i 0 = if i = j - 1 then Y.getD j 0 else if i = j then Y.getD (j - 1) 0 else Y.getD i 0 := by
  unfold swN
  simp only [List.getD, List.getElem?_set, List.length_set]
  by_cases e1 : i = j - 1
  · rw [if_pos e1.symm, if_pos (by omega), if_pos e1]; rfl
  · rw [if_neg (fun e => e1 e.symm), if_neg e1]
    by_cases e2 : i = j
    · rw [if_pos e2.symm, if_pos h, if_pos e2]; rfl
    · rw [if_neg (fun e => e2 e.symm), if_neg e2]
/-- The number at j goes down as far as it is less than those below it. -/
def insI (lt : Nat → Nat → Bool) : Nat → List Nat → List Nat
  | 0, Y => Y
  | j + 1, Y => if lt (Y.getD (j + 1) 0) (Y.getD j 0) then insI lt j (swN Y (j + 1)) else Y
theorem insI_yes {lt : Nat → Nat → Bool} {j : Nat} {Y : List Nat} (h : lt (Y.getD (j + 1) 0) (Y.getD j 0) = true) : insI lt (j + 1) Y = insI lt j (swN Y (j + 1)) := by
  show (if lt (Y.getD (j + 1) 0) (Y.getD j 0) then _ else _) = _
  rw [if_pos h]
theorem insI_no {lt : Nat → Nat → Bool} {j : Nat} {Y : List Nat} (h : lt (Y.getD (j + 1) 0) (Y.getD j 0) = false) : insI lt (j + 1) Y = Y := by
  show (if lt (Y.getD (j + 1) 0) (Y.getD j 0) then _ else _) = _
  rw [h]; rfl
theorem insI_len (lt : Nat → Nat → Bool) : ∀ j Y, (insI lt j Y).length = Y.length
  | 0, _ => rfl
  | j + 1, Y => by
    unfold insI
    split
    · rw [insI_len lt j, swN_len]
    · rfl
theorem insI_perm (lt : Nat → Nat → Bool) : ∀ j Y, j < Y.length → (insI lt j Y).Perm Y
  | 0, _, _ => List.Perm.refl _
  | j + 1, Y, h => by
    unfold insI
    split
    · exact (insI_perm lt j _ (by rw [swN_len]; omega)).trans (swN_perm h)
    · exact List.Perm.refl _
theorem insI_tail (lt : Nat → Nat → Bool) : ∀ j Y i, j < Y.length → j < i → (insI lt j Y).getD i 0 = Y.getD i 0
  | 0, _, _, _, _ => rfl
  | j + 1, Y, i, h, hi => by
    unfold insI
    split
    · rw [insI_tail lt j _ i (by rw [swN_len]; omega) (by omega), swN_at (by omega) h, if_neg (by omega), if_neg (by omega)]
    · rfl
/-- The first i indices in order, the others behind them. -/
def insS (lt : Nat → Nat → Bool) (n : Nat) : Nat → List Nat
  | 0 => List.range n
  | i + 1 => insI lt i (insS lt n i)
theorem insS_len (lt : Nat → Nat → Bool) (n : Nat) : ∀ i, (insS lt n i).length = n
  | 0 => by simp [insS]
  | i + 1 => by unfold insS; rw [insI_len, insS_len lt n i]
theorem insS_perm (lt : Nat → Nat → Bool) (n : Nat) : ∀ i, i ≤ n → (insS lt n i).Perm (List.range n)
  | 0, _ => List.Perm.refl _
  | i + 1, h => (insI_perm lt i _ (by rw [insS_len]; omega)).trans (insS_perm lt n i (by omega))
theorem insS_tail (lt : Nat → Nat → Bool) (n : Nat) : ∀ i k, i ≤ n → i ≤ k → k < n → (insS lt n i).getD k 0 = k
  | 0, k, _, _, hk => by simp [insS, List.getD, hk]
  | i + 1, k, hi, hk, hn => by
    unfold insS
    rw [insI_tail lt i _ k (by rw [insS_len]; omega) (by omega), insS_tail lt n i k (by omega) (by omega) hn]
theorem insS_lt (lt : Nat → Nat → Bool) {n i k : Nat} (hi : i ≤ n) (hk : k < n) : (insS lt n i).getD k 0 < n := by
  have hp := insS_perm lt n i hi
  have hl := insS_len lt n i
  have hm : (insS lt n i).getD k 0 ∈ insS lt n i := by
    have e : (insS lt n i).getD k 0 = (insS lt n i)[k]'(by omega) := by simp [List.getD, hl, hk]
    rw [e]; exact List.getElem_mem _
  exact List.mem_range.1 (hp.mem_iff.1 hm)
/-- All indices in order. -/
def ordN (lt : Nat → Nat → Bool) (n : Nat) : List Nat := insS lt n n
def intsN (Y : List Nat) : List Int := Y.map fun (x : Nat) => ((x : Nat) : Int)
theorem intsN_len (Y : List Nat) : (intsN Y).length = Y.length := by simp [intsN]
theorem intsN_at {Y : List Nat} {i : Nat} (h : i < Y.length) : (intsN Y).getD i 0 = ((Y.getD i 0 : Nat) : Int) := by simp [intsN, List.getD, h]
theorem ordN_len (lt : Nat → Nat → Bool) (n : Nat) : (ordN lt n).length = n := insS_len lt n n
theorem ordN_lt (lt : Nat → Nat → Bool) {n k : Nat} (hk : k < n) : (ordN lt n).getD k 0 < n := insS_lt lt (Nat.le_refl n) hk

/-- The library's insertion of an array of indices is that of the list. -/
def valL {n : Nat} (d : Array (Fin n)) : List Nat := d.toList.map Fin.val
theorem valL_len {n : Nat} (d : Array (Fin n)) : (valL d).length = d.size := by simp [valL]
def finA (n : Nat) : Array (Fin n) := (List.finRange n).toArray
theorem finA_size (n : Nat) : (finA n).size = n := by simp [finA]
theorem valL_finA {n : Nat} : valL (finA n) = List.range n := by
  refine List.ext_getElem (by simp [valL, finA]) fun i h1 h2 => ?_
  simp [valL, finA]
section
variable {n : Nat} [Inhabited (Fin n)]
theorem valL_at {d : Array (Fin n)} {i : Nat} (h : i < d.size) : (valL d).getD i 0 = (d[i]!).val := by
  rw [getElem!_pos d i h]
  simp [valL, List.getD, h]
theorem valL_swp {d : Array (Fin n)} {j : Nat} (h : j + 1 < d.size) : valL (swp d (j + 1) j) = swN (valL d) (j + 1) := by
  unfold swN
  rw [valL_at h, valL_at (by omega : j + 1 - 1 < d.size)]
  unfold valL swp
  simp [List.map_set]
theorem valL_ins (lt : Nat → Nat → Bool) (ltF : Fin n → Fin n → Bool) (h : ∀ x y, ltF x y = lt x.val y.val) : ∀ j (d : Array (Fin n)), j < d.size → valL (insInner ltF 0 j d) = insI lt j (valL d)
  | 0, _, _ => rfl
  | j + 1, d, hj => by
    unfold insInner insI
    rw [valL_at hj, valL_at (by omega : j < d.size), h]
    by_cases c : lt (d[j + 1]!).val (d[j]!).val = true
    · rw [if_pos c, if_pos (by simp [c]), valL_ins lt ltF h j _ (by simp [swp]; omega), valL_swp hj]
    · rw [if_neg c, if_neg (by simp [c])]
theorem insInner_size (ltF : Fin n → Fin n → Bool) : ∀ j (d : Array (Fin n)), (insInner ltF 0 j d).size = d.size
  | 0, _ => rfl
  | j + 1, d => by
    unfold insInner
    split
    · rw [insInner_size ltF j]; simp [swp]
    · rfl
theorem valL_outer (lt : Nat → Nat → Bool) (ltF : Fin n → Fin n → Bool) (h : ∀ x y, ltF x y = lt x.val y.val) : ∀ m i (d : Array (Fin n)), d.size = n → i + m = n → valL d = insS lt n i → valL (insOuter ltF 0 n i d) = insS lt n n
  | 0, i, d, _, hi, hd => by
    obtain rfl : i = n := by omega
    rw [insOuter, if_neg (Nat.lt_irrefl _), hd]
  | m + 1, i, d, hs, hi, hd => by
    rw [insOuter, if_pos (by omega)]
    refine valL_outer lt ltF h m (i + 1) _ (by rw [insInner_size, hs]) (by omega) ?_
    rw [valL_ins lt ltF h i d (by omega), hd]
    rfl
theorem valL_sort (lt : Nat → Nat → Bool) (ltF : Fin n → Fin n → Bool) (h : ∀ x y, ltF x y = lt x.val y.val) (hn : 1 ≤ n) : valL (insertionSort ltF (finA n) 0 n) = ordN lt n := by
  unfold insertionSort ordN
  exact valL_outer lt ltF h (n - 1) 1 (finA n) (finA_size n) (by omega) (by rw [valL_finA]; rfl)
end
end Go.Proofs.Ytnakpfbeeekmiaa
