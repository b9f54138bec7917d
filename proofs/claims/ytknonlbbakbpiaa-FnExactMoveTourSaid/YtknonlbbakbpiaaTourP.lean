/- Orders of cities: a list that is put in order with the missing numbers is all numbers just if it is one. -/
import Derived.Test.YtknonlbbakbpiaaTourV
import Derived.Test.YtknonlbbakbpiaaNumB
namespace Go.Proofs.Ytknonlbbakbpiaa

theorem numL_mem {n : Nat} {x : Int} : x ∈ numL n ↔ 0 ≤ x ∧ x ≤ (n : Int) - 1 := by
  unfold numL allF
  rw [List.mem_map]
  constructor
  · rintro ⟨a, ha, rfl⟩
    have := List.mem_range.1 ha
    omega
  · rintro ⟨h1, h2⟩
    exact ⟨x.toNat, List.mem_range.2 (by omega), by omega⟩
theorem numL_at {n i : Nat} (h : i < n) : (numL n).getD i 0 = (i : Int) := allF_at h
theorem numL_nodup (n : Nat) : (numL n).Nodup := by
  unfold numL allF
  rw [List.Nodup, List.pairwise_map]
  exact List.nodup_range.imp fun h e => h (by omega)
theorem numL_take {n m : Nat} (h : n ≤ m) : (numL m).take n = numL n := by
  refine List.ext_getElem (by simp [numL, allF]; omega) fun i h1 h2 => ?_
  simp [numL, allF]
theorem drop_mem {n m : Nat} {x : Int} (h : x ∈ (numL m).drop n) : (n : Int) ≤ x ∧ x ≤ (m : Int) - 1 := by
  obtain ⟨i, hi, e⟩ := List.getElem_of_mem h
  rw [List.length_drop, numL_len] at hi
  rw [List.getElem_drop] at e
  have e2 : (numL m)[n + i]'(by rw [numL_len]; omega) = ((n + i : Nat) : Int) := by simp [numL, allF]
  rw [e2] at e
  omega
theorem getD_mem {T : List Int} {i : Nat} (h : i < T.length) : T.getD i 0 ∈ T := by
  have e : T.getD i 0 = T[i] := by simp [List.getD, h]
  rw [e]; exact List.getElem_mem h
theorem nodup_ne {T : List Int} (h : T.Nodup) {i j : Nat} (hij : i < j) (hj : j < T.length) : T.getD i 0 ≠ T.getD j 0 := by
  have h2 := List.pairwise_iff_getElem.1 h i j (by omega) hj hij
  have e1 : T.getD i 0 = T[i]'(by omega) := by simp [List.getD, show i < T.length by omega]
  have e2 : T.getD j 0 = T[j] := by simp [List.getD, hj]
  rw [e1, e2]; exact h2
theorem seen_no {T : List Int} {x : Nat} : ∀ k, (∀ j, j < k → tN T j ≠ x) → seenB T k x = false
  | 0, _ => rfl
  | k + 1, h => by
    unfold seenB
    rw [seen_no k fun j hj => h j (by omega), Bool.or_false, decide_eq_false_iff_not]
    exact fun e => h k (by omega) e.symm
theorem seen_all {T : List Int} {x : Nat} : ∀ k, seenB T k x = false → ∀ j, j < k → tN T j ≠ x
  | 0, _, j, hj => by omega
  | k + 1, h, j, hj => by
    unfold seenB at h
    rw [Bool.or_eq_false_iff, decide_eq_false_iff_not] at h
    by_cases e : j = k
    · subst e; exact fun e2 => h.1 e2.symm
    · exact seen_all k h.2 j (by omega)
theorem tour_of_perm {T : List Int} {n : Nat} (h : T.Perm (numL n)) : tourB T n = true := by
  have hl : T.length = n := by rw [h.length_eq, numL_len]
  have hn := h.symm.nodup (numL_nodup n)
  have hm : ∀ i, i < n → 0 ≤ T.getD i 0 ∧ T.getD i 0 ≤ (n : Int) - 1 := fun i hi => numL_mem.1 (h.mem_iff.1 (getD_mem (by omega)))
  refine tourB_yes hl fun i hi => ?_
  unfold stepB
  have h1 := hm i hi
  rw [decide_eq_true h1.1, decide_eq_true h1.2, seen_no i fun j hj e => nodup_ne hn hj (by omega) (by
    have h2 := hm j (by omega)
    unfold tN at e
    omega)]
  rfl
theorem tour_nodup {T : List Int} {n : Nat} (h : tourB T n = true) : T.Nodup ∧ ∀ x ∈ T, 0 ≤ x ∧ x ≤ (n : Int) - 1 := by
  have ok := tourB_ok h
  unfold tourB at h
  rw [Bool.and_eq_true, List.all_eq_true] at h
  refine ⟨List.pairwise_iff_getElem.2 fun i j hi hj hij => ?_, fun x hx => ?_⟩
  · have h2 := h.2 j (List.mem_range.2 (by rw [← ok.len]; exact hj))
    unfold stepB at h2
    rw [Bool.and_eq_true, Bool.not_eq_true'] at h2
    have h3 := seen_all j h2.2 i hij
    intro e
    apply h3
    unfold tN
    have e1 : T.getD i 0 = T[i] := by simp [List.getD, hi]
    have e2 : T.getD j 0 = T[j] := by simp [List.getD, hj]
    rw [e1, e2, e]
  · obtain ⟨i, hi, rfl⟩ := List.getElem_of_mem hx
    have h2 := ok.inn i (by rw [← ok.len]; exact hi)
    have e1 : T.getD i 0 = T[i] := by simp [List.getD, hi]
    rw [e1] at h2
    omega
theorem sorted_all {Y : List Int} {m : Nat} (hl : Y.length = m) (hn : Y.Nodup) (hr : ∀ x ∈ Y, 0 ≤ x ∧ x ≤ (m : Int) - 1) (hs : ∀ a b, a < b → b < m → Y.getD a 0 ≤ Y.getD b 0) : Y = numL m := by
  have st : ∀ i, i + 1 < m → Y.getD i 0 + 1 ≤ Y.getD (i + 1) 0 := fun i hi => by
    have h1 := hs i (i + 1) (by omega) hi
    have h2 := nodup_ne hn (i := i) (j := i + 1) (by omega) (by omega)
    omega
  have up : ∀ i, i < m → (i : Int) ≤ Y.getD i 0 := fun i => by
    induction i with
    | zero => intro hi; have := (hr _ (getD_mem (i := 0) (by omega))).1; omega
    | succ k ih => intro hi; have := ih (by omega); have := st k hi; omega
  have dn : ∀ d i, i + d + 1 = m → Y.getD i 0 ≤ (i : Int) := fun d => by
    induction d with
    | zero => intro i hi; have := (hr _ (getD_mem (i := i) (by omega))).2; omega
    | succ k ih => intro i hi; have := ih (i + 1) (by omega); have := st i (by omega); omega
  refine List.ext_getElem (by rw [hl, numL_len]) fun i h1 h2 => ?_
  have e1 : Y.getD i 0 = Y[i] := by simp [List.getD, h1]
  have e2 : (numL m)[i] = (i : Int) := by simp [numL, allF]
  have := up i (by omega)
  have := dn (m - 1 - i) i (by omega)
  rw [← e1, e2]; omega
theorem tour_sorted {T Y : List Int} {n : Nat} (h1 : n ≤ 10) (hT : T.length = n) (hp : Y.Perm (T ++ (numL 10).drop n)) (hs : ∀ a b, a < b → b < 10 → Y.getD a 0 ≤ Y.getD b 0) : Y = numL 10 ↔ tourB T n = true := by
  constructor
  · rintro rfl
    have h2 : (numL 10).take n ++ (numL 10).drop n = numL 10 := List.take_append_drop n _
    rw [← h2] at hp
    have h3 : ((numL 10).take n).Perm T := by
      have := hp
      simp only [List.take_append_drop] at this
      refine (List.perm_append_right_iff ((numL 10).drop n)).1 ?_
      rw [List.take_append_drop]
      exact this
    rw [numL_take h1] at h3
    exact tour_of_perm h3.symm
  · intro h
    obtain ⟨hn, hr⟩ := tour_nodup h
    have hl : Y.length = 10 := by rw [hp.length_eq, List.length_append, List.length_drop, numL_len]; omega
    refine sorted_all hl (hp.symm.nodup ?_) (fun x hx => ?_) hs
    · rw [List.nodup_append]
      refine ⟨hn, (numL_nodup 10).sublist (List.drop_sublist n _), fun a ha b hb e => ?_⟩
      have := hr a ha
      have := drop_mem hb
      omega
    · rcases List.mem_append.1 (hp.mem_iff.1 hx) with h2 | h2
      · have := hr x h2; omega
      · have := drop_mem h2; omega
end Go.Proofs.Ytknonlbbakbpiaa
