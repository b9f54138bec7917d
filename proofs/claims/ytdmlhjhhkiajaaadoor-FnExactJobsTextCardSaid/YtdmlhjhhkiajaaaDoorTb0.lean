/- Orders: lists that have each number below n once; put in order, they are all numbers below n (plain). -/
import Derived.Test.YtdmlhjhhkiajaaaDoorNumB
import Derived.Test.YtdmlhjhhkiajaaaDoorSz
namespace Go.Proofs.YtdmlhjhhkiajaaaDoor

/-- The number at a place of a list. -/
def tN (T : List Int) (i : Nat) : Nat := (T.getD i 0).toNat
structure TourOk (T : List Int) (n : Nat) : Prop where
  len : T.length = n
  inn : ∀ i, i < n → T.getD i 0 = (tN T i : Int) ∧ tN T i < n
/-- Whether a number is among the first k of a list. -/
def seenB (T : List Int) : Nat → Nat → Bool
  | 0, _ => false
  | k + 1, x => decide (x = tN T k) || seenB T k x
def allB (f : Nat → Bool) (n : Nat) : List Bool := (List.range n).map f
theorem allB_len (f : Nat → Bool) (n : Nat) : (allB f n).length = n := by simp [allB]
theorem allB_at {f : Nat → Bool} {n x : Nat} (h : x < n) : (allB f n).getD x false = f x := by simp [allB, List.getD, h]
theorem allB_rep (T : List Int) (n : Nat) : List.replicate n false = allB (seenB T 0) n := by
  refine List.ext_getElem (by simp [allB]) fun i h1 h2 => ?_
  simp [allB, seenB]
theorem seen_set {T : List Int} {k n : Nat} : (allB (seenB T k) n).set (tN T k) true = allB (seenB T (k + 1)) n := by
  refine List.ext_getElem (by simp [allB]) fun i h1 h2 => ?_
  rw [List.getElem_set]
  by_cases e : tN T k = i
  · rw [if_pos e]; simp [allB, seenB, e]
  · have e2 : ¬ i = tN T k := fun h => e h.symm
    rw [if_neg e]; simp [allB, seenB, e2]
def stepB (T : List Int) (n i : Nat) : Bool := (decide (0 ≤ T.getD i 0) && decide (T.getD i 0 ≤ (n : Int) - 1)) && !seenB T i (tN T i)
def tourB (T : List Int) (n : Nat) : Bool := decide (T.length = n) && (List.range n).all fun i => stepB T n i
theorem tourB_no0 {T : List Int} {n : Nat} (h : T.length ≠ n) : tourB T n = false := by unfold tourB; rw [decide_eq_false h, Bool.false_and]
theorem tourB_no {T : List Int} {n k : Nat} (hk : k < n) (h : stepB T n k = false) : tourB T n = false := by
  unfold tourB
  rw [Bool.and_eq_false_iff]
  right
  rw [List.all_eq_false]
  exact ⟨k, List.mem_range.2 hk, by rw [h]; simp⟩
theorem tourB_yes {T : List Int} {n : Nat} (h : T.length = n) (ha : ∀ i, i < n → stepB T n i = true) : tourB T n = true := by
  unfold tourB
  rw [decide_eq_true h, Bool.true_and, List.all_eq_true]
  exact fun i hi => ha i (List.mem_range.1 hi)
theorem tourB_ok {T : List Int} {n : Nat} (h : tourB T n = true) : TourOk T n := by
  unfold tourB at h
  rw [Bool.and_eq_true, List.all_eq_true] at h
  refine ⟨by simpa using h.1, fun i hi => ?_⟩
  have h2 := h.2 i (List.mem_range.2 hi)
  unfold stepB at h2
  simp only [Bool.and_eq_true, decide_eq_true_eq] at h2
  unfold tN
  constructor <;> omega
theorem numL_mem {n : Nat} {x : Int} : x ∈ numL n ↔ 0 ≤ x ∧ x ≤ (n : Int) - 1 := by
  unfold numL allF
  rw [List.mem_map]
  constructor
  · rintro ⟨a, ha, rfl⟩
    have := List.mem_range.1 ha
    omega
  · rintro ⟨h1, h2⟩
    exact ⟨x.toNat, List.mem_range.2 (by omega), by omega⟩
theorem numL_at {n i : Nat} (h : i < n) : (numL n).getD i 0 = (i : Int) := allF_at h
theorem numL_nodup (n : Nat) : (numL n).Nodup := by
  unfold numL allF
  rw [List.Nodup, List.pairwise_map]
  exact List.nodup_range.imp fun h e => h (by omega)
theorem numL_take {n m : Nat} (h : n ≤ m) : (numL m).take n = numL n := by
  refine List.ext_getElem (by simp [numL, allF]; omega) fun i h1 h2 => ?_
  simp [numL, allF]
theorem drop_mem {n m : Nat} {x : Int} (h : x ∈ (numL m).drop n) : (n : Int) ≤ x ∧ x ≤ (m : Int) - 1 := by
  obtain ⟨i, hi, e⟩ := List.getElem_of_mem h
  rw [List.length_drop, numL_len] at hi
  rw [List.getElem_drop] at e
  have e2 : (numL m)[n + i]'(by rw [numL_len]; omega) = ((n + i : Nat) : Int) := by simp [numL, allF]
  rw [e2] at e
  omega
theorem getD_mem {T : List Int} {i : Nat} (h : i < T.length) : T.getD i 0 ∈ T := by
  have e : T.getD i 0 = T[i] := by simp [List.getD, h]
  rw [e]; exact List.getElem_mem h
theorem nodup_ne {T : List Int} (h : T.Nodup) {i j : Nat} (hij : i < j) (hj : j < T.length) : T.getD i 0 ≠ T.getD j 0 := by
  have h2 := List.pairwise_iff_getElem.1 h i j (by omega) hj hij
  have e1 : T.getD i 0 = T[i]'(by omega) := by simp [List.getD, show i < T.length by omega]
  have e2 : T.getD j 0 = T[j] := by simp [List.getD, hj]
  rw [e1, e2]; exact h2
theorem seen_no {T : List Int} {x : Nat} : ∀ k, (∀ j, j < k → tN T j ≠ x) → seenB T k x = false
  | 0, _ => rfl
  | k + 1, h => by
    unfold seenB
    rw [seen_no k fun j hj => h j (by omega), Bool.or_false, decide_eq_false_iff_not]
    exact fun e => h k (by omega) e.symm
theorem seen_all {T : List Int} {x : Nat} : ∀ k, seenB T k x = false → ∀ j, j < k → tN T j ≠ x
  | 0, _, j, hj => by omega
  | k + 1, h, j, hj => by
    unfold seenB at h
    rw [Bool.or_eq_false_iff, decide_eq_false_iff_not] at h
    by_cases e : j = k
    · subst e; exact fun e2 => h.1 e2.symm
    · exact seen_all k h.2 j (by omega)
theorem tour_of_perm {T : List Int} {n : Nat} (h : T.Perm (numL n)) : tourB T n = true := by
  have hl : T.length = n := by rw [h.length_eq, numL_len]
  have hn := h.symm.nodup (numL_nodup n)
  have hm : ∀ i, i < n → 0 ≤ T.getD i 0 ∧ T.getD i 0 ≤ (n : Int) - 1 := fun i hi => numL_mem.1 (h.mem_iff.1 (getD_mem (by omega)))
  refine tourB_yes hl fun i hi => ?_
  unfold stepB
  have h1 := hm i hi
  rw [decide_eq_true h1.1, decide_eq_true h1.2, seen_no i fun j hj e => nodup_ne hn hj (by omega) (by
    have h2 := hm j (by omega)
    unfold tN at e
    omega)]
  rfl
theorem tour_nodup {T : List Int} {n : Nat} (h : tourB T n = true) : T.Nodup ∧ ∀ x ∈ T, 0 ≤ x ∧ x ≤ (n : Int) - 1 := by
  have ok := tourB_ok h
  unfold tourB at h
  rw [Bool.and_eq_true, List.all_eq_true] at h
  refine ⟨List.pairwise_iff_getElem.2 fun i j hi hj hij => ?_, fun x hx => ?_⟩
  · have h2 := h.2 j (List.mem_range.2 (by rw [← ok.len]; exact hj))
    unfold stepB at h2
    rw [Bool.and_eq_true, Bool.not_eq_true'] at h2
    have h3 := seen_all j h2.2 i hij
    intro e
    apply h3
    unfold tN
    have e1 : T.getD i 0 = T[i] := by simp [List.getD, hi]
    have e2 : T.getD j 0 = T[j] := by simp [List.getD, hj]
    rw [e1, e2, e]
  · obtain ⟨i, hi, rfl⟩ := List.getElem_of_mem hx
    have h2 := ok.inn i (by rw [← ok.len]; exact hi)
    have e1 : T.getD i 0 = T[i] := by simp [List.getD, hi]
    rw [e1] at h2
    omega
theorem sorted_all {Y : List Int} {m : Nat} (hl : Y.length = m) (hn : Y.Nodup) (hr : ∀ x ∈ Y, 0 ≤ x ∧ x ≤ (m : Int) - 1) (hs : ∀ a b, a < b → b < m → Y.getD a 0 ≤ Y.getD b 0) : Y = numL m := by
  have st : ∀ i, i + 1 < m → Y.getD i 0 + 1 ≤ Y.getD (i + 1) 0 := fun i hi => by
    have h1 := hs i (i + 1) (by omega) hi
    have h2 := nodup_ne hn (i := i) (j := i + 1) (by omega) (by omega)
    omega
  have up : ∀ i, i < m → (i : Int) ≤ Y.getD i 0 := fun i => by
    induction i with
    | zero => intro hi; have := (hr _ (getD_mem (i := 0) (by omega))).1; omega
    | succ k ih => intro hi; have := ih (by omega); have := st k hi; omega
  have dn : ∀ d i, i + d + 1 = m → Y.getD i 0 ≤ (i : Int) := fun d => by
    induction d with
    | zero => intro i hi; have := (hr _ (getD_mem (i := i) (by omega))).2; omega
    | succ k ih => intro i hi; have := ih (i + 1) (by omega); have := st i (by omega); omega
  refine List.ext_getElem (by rw [hl, numL_len]) fun i h1 h2 => ?_
  have e1 : Y.getD i 0 = Y[i] := by simp [List.getD, h1]
  have e2 : (numL m)[i] = (i : Int) := by simp [numL, allF]
  have := up i (by omega)
  have := dn (m - 1 - i) i (by omega)
  rw [← e1, e2]; omega
theorem sort_le (T : List Int) : ∀ a b, a < b → b < T.length → (T.mergeSort fun x y => decide (x ≤ y)).getD a 0 ≤ (T.mergeSort fun x y => decide (x ≤ y)).getD b 0 := by
  intro a b hab hb
  have hl : (T.mergeSort fun x y => decide (x ≤ y)).length = T.length := List.length_mergeSort T
  have hp := List.pairwise_mergeSort (le := fun x y : Int => decide (x ≤ y)) (fun a b c h1 h2 => by simp at *; omega) (fun a b => by simp; omega) T
  generalize (T.mergeSort fun x y => decide (x ≤ y)) = Y at *
  have h := List.pairwise_iff_getElem.1 hp a b (by omega) (by omega) hab
  have e1 : Y.getD a 0 = Y[a]'(by omega) := by simp [List.getD, show a < Y.length by omega]
  have e2 : Y.getD b 0 = Y[b]'(by omega) := by simp [List.getD, show b < Y.length by omega]
  rw [e1, e2]
  simpa using h
theorem sorted_tour {T Y : List Int} {n : Nat} (hp : Y.Perm T) (hs : ∀ a b, a < b → b < T.length → Y.getD a 0 ≤ Y.getD b 0) : Y = numL n ↔ tourB T n = true := by
  constructor
  · rintro rfl
    exact tour_of_perm hp.symm
  · intro h
    obtain ⟨hn, hr⟩ := tour_nodup h
    have hl : T.length = n := (tourB_ok h).len
    exact sorted_all (by rw [hp.length_eq, hl]) (hp.symm.nodup hn) (fun x hx => hr x (hp.mem_iff.1 hx)) (fun a b h1 h2 => hs a b h1 (by omega))
end Go.Proofs.YtdmlhjhhkiajaaaDoor
