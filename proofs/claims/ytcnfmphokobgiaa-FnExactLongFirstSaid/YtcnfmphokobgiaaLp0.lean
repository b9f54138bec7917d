/- Jobs put on the machines that are free first (plain). -/
import Derived.Test.YtcnfmphokobgiaaJb0
namespace Go.Proofs.Ytcnfmphokobgiaa

/-- The first of the least of the first k. -/
def aminF (F : List Int) : Nat → Nat
  | 0 => 0
  | k + 1 => if F.getD k 0 < F.getD (aminF F k) 0 then k else aminF F k
theorem aminF_one (F : List Int) : aminF F 1 = 0 := by
  show (if F.getD 0 0 < F.getD 0 0 then 0 else 0) = 0
  split <;> rfl
theorem aminF_lt (F : List Int) : ∀ k, aminF F (k + 1) < k + 1
  | 0 => by rw [aminF_one]; omega
  | k + 1 => by
    have ih := aminF_lt F k
    show (if F.getD (k + 1) 0 < F.getD (aminF F (k + 1)) 0 then k + 1 else aminF F (k + 1)) < k + 2
    split <;> omega
theorem aminF_in (F : List Int) {m : Nat} (h : 1 ≤ m) : aminF F m < m := by
  obtain ⟨k, rfl⟩ : ∃ k, m = k + 1 := ⟨m - 1, by omega⟩
  exact aminF_lt F k
theorem aminF_le (F : List Int) : ∀ k j, j < k → F.getD (aminF F k) 0 ≤ F.getD j 0
  | 0, j, h => by omega
  | k + 1, j, h => by
    show F.getD (if F.getD k 0 < F.getD (aminF F k) 0 then k else aminF F k) 0 ≤ F.getD j 0
    by_cases e : j = k
    · subst e
      split <;> omega
    · have ih := aminF_le F k j (by omega)
      split <;> omega
theorem aminF_first (F : List Int) : ∀ k j, j < aminF F k → F.getD (aminF F k) 0 < F.getD j 0
  | 0, j, h => by exact absurd h (Nat.not_lt_zero _)
  | k + 1, j, h => by
    by_cases c : F.getD k 0 < F.getD (aminF F k) 0
    · have e : aminF F (k + 1) = k := by show (if _ then _ else _) = _; rw [if_pos c]
      rw [e] at h ⊢
      have := aminF_le F k j h
      omega
    · have e : aminF F (k + 1) = aminF F k := by show (if _ then _ else _) = _; rw [if_neg c]
      rw [e] at h ⊢
      exact aminF_first F k j h
/-- When the machines are free, behind the first k jobs of an order. -/
def lpF (Z : List Ac) (T : List Int) (m : Nat) : Nat → List Int
  | 0 => List.replicate m 0
  | k + 1 => (lpF Z T m k).set (aminF (lpF Z T m k) m) ((lpF Z T m k).getD (aminF (lpF Z T m k) m) 0 + (Z.getD (tN T k) zA).f)
/-- Where the first k jobs are. -/
def lpP (Z : List Ac) (T : List Int) (m : Nat) : Nat → List Int
  | 0 => List.replicate Z.length 0
  | k + 1 => (lpP Z T m k).set (tN T k) ((aminF (lpF Z T m k) m : Nat) : Int)
/-- When the first k jobs have ended. -/
def lpM (Z : List Ac) (T : List Int) (m : Nat) : Nat → Int
  | 0 => 0
  | k + 1 => max (lpM Z T m k) ((lpF Z T m k).getD (aminF (lpF Z T m k) m) 0 + (Z.getD (tN T k) zA).f)
theorem lpF_len (Z : List Ac) (T : List Int) (m : Nat) : ∀ k, (lpF Z T m k).length = m
  | 0 => by simp [lpF]
  | k + 1 => by unfold lpF; rw [List.length_set, lpF_len Z T m k]
theorem lpP_len (Z : List Ac) (T : List Int) (m : Nat) : ∀ k, (lpP Z T m k).length = Z.length
  | 0 => by simp [lpP]
  | k + 1 => by unfold lpP; rw [List.length_set, lpP_len Z T m k]
theorem rep_getD (m i : Nat) : (List.replicate m (0 : Int)).getD i 0 = 0 := by
  rw [List.getD, List.getElem?_replicate]
  split <;> rfl
theorem set_getD (F : List Int) (a i : Nat) (x : Int) : (F.set a x).getD i 0 = if i = a then (if a < F.length then x else 0) else F.getD i 0 := by
  rw [List.getD, List.getElem?_set]
  by_cases e : a = i
  · rw [if_pos e, if_pos e.symm]
    by_cases h : a < F.length
    · rw [if_pos h, if_pos h]; rfl
    · rw [if_neg h, if_neg h]; rfl
  · rw [if_neg e, if_neg (fun h => e h.symm)]; rfl
theorem lpF_in {Z : List Ac} {T : List Int} (h : JobsOk Z) (ht : TourOk T Z.length) (m : Nat) : ∀ k, k ≤ Z.length → ∀ i, 0 ≤ (lpF Z T m k).getD i 0 ∧ (lpF Z T m k).getD i 0 ≤ 1000 * (k : Int)
  | 0, _, i => by unfold lpF; rw [rep_getD]; omega
  | k + 1, hk, i => by
    have ih := lpF_in h ht m k (by omega)
    have hj := h.ok _ (ht.inn k (by omega)).2
    have h1 := hj.f1
    have h2 := hj.f2
    have h3 := ih i
    have h4 := ih (aminF (lpF Z T m k) m)
    unfold lpF
    rw [set_getD]
    split
    · split <;> omega
    · omega
theorem lpM_in {Z : List Ac} {T : List Int} (h : JobsOk Z) (ht : TourOk T Z.length) (m : Nat) : ∀ k, k ≤ Z.length → 0 ≤ lpM Z T m k ∧ lpM Z T m k ≤ 1000 * (k : Int)
  | 0, _ => by simp [lpM]
  | k + 1, hk => by
    have ih := lpM_in h ht m k (by omega)
    have h4 := lpF_in h ht m k (by omega) (aminF (lpF Z T m k) m)
    have hj := h.ok _ (ht.inn k (by omega)).2
    have h1 := hj.f1
    have h2 := hj.f2
    unfold lpM
    omega
/-- When all have ended is the greatest of when the machines are free. -/
theorem lpM_max {Z : List Ac} {T : List Int} (h : JobsOk Z) (ht : TourOk T Z.length) {m : Nat} (hm : 1 ≤ m) : ∀ k, k ≤ Z.length → (∀ i, i < m → (lpF Z T m k).getD i 0 ≤ lpM Z T m k) ∧ ∃ i, i < m ∧ (lpF Z T m k).getD i 0 = lpM Z T m k
  | 0, _ => by
    refine ⟨fun i _ => ?_, 0, hm, ?_⟩
    · unfold lpF lpM; rw [rep_getD]; exact Int.le_refl _
    · unfold lpF lpM; rw [rep_getD]
  | k + 1, hk => by
    obtain ⟨h1, j, hj, he⟩ := lpM_max h ht hm k (by omega)
    have ha := aminF_in (lpF Z T m k) hm
    have hl := lpF_len Z T m k
    have hf := (h.ok _ (ht.inn k (by omega)).2).f1
    have e : ∀ i, (lpF Z T m (k + 1)).getD i 0 = if i = aminF (lpF Z T m k) m then (lpF Z T m k).getD (aminF (lpF Z T m k) m) 0 + (Z.getD (tN T k) zA).f else (lpF Z T m k).getD i 0 := fun i => by
      show ((lpF Z T m k).set _ _).getD i 0 = _
      rw [set_getD]
      by_cases c : i = aminF (lpF Z T m k) m
      · rw [if_pos c, if_pos c, if_pos (by rw [hl]; exact ha)]
      · rw [if_neg c, if_neg c]
    have em : lpM Z T m (k + 1) = max (lpM Z T m k) ((lpF Z T m k).getD (aminF (lpF Z T m k) m) 0 + (Z.getD (tN T k) zA).f) := rfl
    generalize aminF (lpF Z T m k) m = a at *
    refine ⟨fun i hi => ?_, ?_⟩
    · rw [e, em]
      have := h1 i hi
      split <;> omega
    · by_cases c : lpM Z T m k ≤ (lpF Z T m k).getD a 0 + (Z.getD (tN T k) zA).f
      · refine ⟨a, ha, ?_⟩
        rw [e, if_pos rfl, em]; omega
      · refine ⟨j, hj, ?_⟩
        have hja : j ≠ a := by rintro rfl; omega
        rw [e, if_neg hja, em]; omega
def macB (Z : List Ac) (m : Int) : Bool := jobsB Z && inB m 1 8
theorem macB_ok {Z : List Ac} {m : Int} (h : macB Z m = true) : JobsOk Z ∧ m = (m.toNat : Int) ∧ 1 ≤ m.toNat ∧ m.toNat ≤ 8 := by
  unfold macB at h
  rw [Bool.and_eq_true] at h
  have := inB_ok h.2
  exact ⟨jobsB_ok h.1, by omega, by omega, by omega⟩
theorem numL_tour (n : Nat) : TourOk (numL n) n :=
  ⟨numL_len n, fun i hi => by unfold tN; rw [numL_at hi]; omega⟩
end Go.Proofs.Ytcnfmphokobgiaa
