/- Lists whose numbers come to the front (plain). -/
import Derived.Test.YtnakpfbeeekmiaaIns0
import Derived.Test.YtnakpfbeeekmiaaFs0
import Derived.Test.YtnakpfbeeekmiaaMix
namespace Go.Proofs.Ytnakpfbeeekmiaa

/-- A list of all numbers below n. -/
structure GoodL (n : Nat) (Y : List Nat) : Prop where
  len : Y.length = n
  nd : Y.Nodup
  all : ∀ x, x ∈ Y ↔ x < n
theorem goodL_range (n : Nat) : GoodL n (List.range n) := ⟨by simp, List.nodup_range, fun x => List.mem_range⟩
theorem idx_in {Y : List Nat} {x : Nat} (h : x ∈ Y) : Y.idxOf x < Y.length ∧ Y.getD (Y.idxOf x) 0 = x := by
  have h1 : Y.idxOf x < Y.length := List.idxOf_lt_length_of_mem h
  refine ⟨h1, ?_⟩
  rw [show Y.getD (Y.idxOf x) 0 = Y[Y.idxOf x] by simp [List.getD, h1]]
  exact List.getElem_idxOf h1
theorem idx_before : ∀ {Y : List Nat} {x j : Nat}, j < Y.idxOf x → Y.getD j 0 ≠ x
  | [], x, j, h => by simp at h
  | y :: Y, x, j, h => by
    rw [List.idxOf_cons] at h
    cases e : (y == x) with
    | true => rw [e] at h; simp at h
    | false =>
      rw [e] at h
      cases j with
      | zero => simpa using e
      | succ j =>
        have h' : j < Y.idxOf x := by simp at h; omega
        have := idx_before h'
        simpa [List.getD] using this
def frontN (Y : List Nat) (x : Nat) : List Nat := x :: Y.filter fun z => !(z == x)
theorem strike_len {n x : Nat} {Y : List Nat} (h : GoodL n Y) (hx : x < n) : (Y.filter fun z => !(z == x)).length + 1 = n := by
  have hm := (h.all x).2 hx
  obtain ⟨h1, h2⟩ := idx_in hm
  have e := erase_filter h.nd (Y.idxOf x) h1
  rw [h2] at e
  rw [← e, List.length_append, List.length_take, List.length_drop, ← h.len]
  omega
theorem frontN_good {n x : Nat} {Y : List Nat} (h : GoodL n Y) (hx : x < n) : GoodL n (frontN Y x) := by
  refine ⟨by unfold frontN; rw [List.length_cons, strike_len h hx], ?_, fun z => ?_⟩
  · unfold frontN
    rw [List.nodup_cons]
    exact ⟨by simp, h.nd.filter _⟩
  · unfold frontN
    rw [List.mem_cons, List.mem_filter, h.all z]
    by_cases e : z = x
    · subst e; simp [hx]
    · simp [e]
/-- The list and the cost behind so many asks. -/
def fcS (Q : List Nat) (n : Nat) : Nat → List Nat × Nat
  | 0 => (List.range n, 0)
  | k + 1 => (frontN (fcS Q n k).1 (Q.getD k 0), (fcS Q n k).2 + (fcS Q n k).1.idxOf (Q.getD k 0) + 1)
theorem fcS_ok {Q : List Nat} {n : Nat} (hQ : ∀ x ∈ Q, x < n) : ∀ k, k ≤ Q.length → GoodL n (fcS Q n k).1 ∧ (fcS Q n k).2 ≤ n * k
  | 0, _ => ⟨goodL_range n, by simp [fcS]⟩
  | k + 1, hk => by
    obtain ⟨h1, h2⟩ := fcS_ok hQ k (by omega)
    have hx : Q.getD k 0 < n := hQ _ (by rw [show Q.getD k 0 = Q[k]'(by omega) by simp [List.getD, (show k < Q.length by omega)]]; exact List.getElem_mem _)
    have h3 := (idx_in ((h1.all _).2 hx)).1
    rw [h1.len] at h3
    refine ⟨frontN_good h1 hx, ?_⟩
    show (fcS Q n k).2 + (fcS Q n k).1.idxOf (Q.getD k 0) + 1 ≤ n * (k + 1)
    rw [Nat.mul_add]
    omega
/-- The list in which those from j on to K have moved up by one. -/
def shF (Y : List Int) (K j : Nat) : List Int := allF (fun i => if j < i ∧ i ≤ K then Y.getD (i - 1) 0 else Y.getD i 0) Y.length
theorem shF_len (Y : List Int) (K j : Nat) : (shF Y K j).length = Y.length := allF_len _ _
theorem shF_at {Y : List Int} {K j i : Nat} (hi : i < Y.length) (h : i ≤ j) : (shF Y K j).getD i 0 = Y.getD i 0 := by
  unfold shF
  rw [allF_at hi, if_neg (by omega)]
theorem shF_get {Y : List Int} {K j i : Nat} (h : i < (shF Y K j).length) : (shF Y K j)[i] = if j < i ∧ i ≤ K then Y.getD (i - 1) 0 else Y.getD i 0 := by simp only [shF, allF, List.getElem_map, List.getElem_range]
theorem shF_start (Y : List Int) (K : Nat) : shF Y K K = Y := by
  refine List.ext_getElem (shF_len _ _ _) fun i h1 h2 => ?_
  rw [shF_get, if_neg (by omega)]
  simp [List.getD, h2]
theorem shF_step {Y : List Int} {K j : Nat} (hj : j + 1 ≤ K) : (shF Y K (j + 1)).set (j + 1) (Y.getD j 0) = shF Y K j := by
  refine List.ext_getElem (by rw [List.length_set, shF_len, shF_len]) fun i h1 h2 => ?_
  rw [List.getElem_set]
  rw [shF_get, shF_get]
  by_cases e : j + 1 = i
  · rw [if_pos e, if_pos (by omega)]
    subst e; rfl
  · rw [if_neg e]
    by_cases e2 : j + 1 < i ∧ i ≤ K
    · rw [if_pos e2, if_pos (by omega)]
    · rw [if_neg e2, if_neg (by omega)]
theorem shF_end {n x : Nat} {Y : List Nat} (h : GoodL n Y) (hx : x < n) : (shF (intsN Y) (Y.idxOf x) 0).set 0 (x : Int) = intsN (frontN Y x) := by
  obtain ⟨h1, h2⟩ := idx_in ((h.all x).2 hx)
  have e := erase_filter h.nd (Y.idxOf x) h1
  rw [h2] at e
  have hl := strike_len h hx
  have hlen := h.len
  unfold frontN
  rw [← e]
  rw [← e] at hl
  generalize Y.idxOf x = K at *
  refine List.ext_getElem (by rw [List.length_set, shF_len, intsN_len, intsN_len, List.length_cons]; omega) fun i h3 h4 => ?_
  rw [List.getElem_set]
  cases i with
  | zero => simp [intsN]
  | succ i =>
    rw [List.length_set, shF_len, intsN_len] at h3
    rw [if_neg (by omega)]
    rw [shF_get]
    have hi : i < Y.length := by omega
    have hr : (intsN (x :: (Y.take K ++ Y.drop (K + 1))))[i + 1] = (((Y.take K ++ Y.drop (K + 1)).getD i 0 : Nat) : Int) := by
      simp only [intsN, List.map_cons, List.getElem_cons_succ, List.getElem_map]
      congr 1
      have : i < (Y.take K ++ Y.drop (K + 1)).length := by omega
      rw [List.getD, List.getElem?_eq_getElem this]; rfl
    rw [hr]
    by_cases e2 : i < K
    · rw [if_pos (by omega), show i + 1 - 1 = i from rfl, intsN_at hi]
      congr 1
      rw [List.getD, List.getD, List.getElem?_append_left (by rw [List.length_take]; omega), List.getElem?_take_of_lt e2]
    · rw [if_neg (by omega), intsN_at h3]
      congr 1
      have hm : min K Y.length = K := by omega
      rw [List.getD, List.getD, List.getElem?_append_right (by rw [List.length_take]; omega), List.length_take, hm, List.getElem?_drop, show K + 1 + (i - K) = i + 1 by omega]
end Go.Proofs.Ytnakpfbeeekmiaa
