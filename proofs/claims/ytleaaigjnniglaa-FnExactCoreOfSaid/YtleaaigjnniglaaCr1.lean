/- Clauses that have no model together: the model's way (plain). -/
import Derived.Test.YtleaaigjnniglaaCr0
import Derived.Test.YtleaaigjnniglaaMdM
import Derived.Test.YtleaaigjnniglaaFsM
namespace Go.Proofs.Ytleaaigjnniglaa

/-- The clauses whose digits are in s. -/
def setL (s n : Nat) : List Int := ((List.range n).filter fun i => s.testBit i).map fun i : Nat => (i : Int)
/-- The first m of Z without k. -/
def dropK (Z : List Int) (k m : Nat) : List Int := (Z.take m).filter fun x => decide (x ≠ (k : Int))
theorem drop_yes {Z : List Int} {k m : Nat} (hm : m < Z.length) (h : Z.getD m 0 ≠ (k : Int)) : dropK Z k (m + 1) = dropK Z k m ++ [Z.getD m 0] := by
  unfold dropK
  rw [List.take_succ_eq_append_getElem hm, List.filter_append]
  have e : Z.getD m 0 = Z[m] := by simp [List.getD, hm]
  rw [e] at h ⊢
  simp [h]
theorem drop_no {Z : List Int} {k m : Nat} (hm : m < Z.length) (h : Z.getD m 0 = (k : Int)) : dropK Z k (m + 1) = dropK Z k m := by
  unfold dropK
  rw [List.take_succ_eq_append_getElem hm, List.filter_append]
  have e : Z.getD m 0 = Z[m] := by simp [List.getD, hm]
  rw [e] at h
  simp [h]
theorem drop_len (Z : List Int) (k m : Nat) : (dropK Z k m).length ≤ m := by
  unfold dropK
  refine Nat.le_trans (List.length_filter_le _ _) ?_
  rw [List.length_take]
  omega
def partK (C : List (List Int)) (Z : List Int) : List (List Int) := Z.map fun x => C.getD x.toNat []
theorem out_bit (s k i : Nat) : (outK s k).testBit i = (s.testBit i && decide (i ≠ k)) := by
  unfold outK
  rw [Nat.testBit_xor, Nat.testBit_and, Nat.testBit_two_pow]
  by_cases e : i = k
  · subst e; simp
  · have : ¬ k = i := fun h => e h.symm
    simp [e, this]
theorem drop_set (s n k : Nat) : dropK (setL s n) k (setL s n).length = setL (outK s k) n := by
  unfold dropK setL
  rw [List.take_length, List.filter_map, List.filter_filter]
  congr 1
  refine List.filter_congr fun i hi => ?_
  rw [out_bit]
  have e1 : decide ((i : Int) ≠ (k : Int)) = decide (i ≠ k) := by
    by_cases e : i = k
    · subst e; simp
    · rw [decide_eq_true e, decide_eq_true (show (i : Int) ≠ (k : Int) by omega)]
  show (decide ((i : Int) ≠ (k : Int)) && s.testBit i) = _
  rw [e1, Bool.and_comm]
theorem set_all (n : Nat) : setL (2 ^ n - 1) n = (List.range n).map fun i : Nat => (i : Int) := by
  unfold setL
  congr 1
  rw [List.filter_eq_self]
  intro i hi
  have hi2 := List.mem_range.1 hi
  rw [Nat.testBit_two_pow_sub_one]
  simpa using hi2
theorem set_mem {s n : Nat} {x : Int} (h : x ∈ setL s n) : ∃ i : Nat, i < n ∧ x = (i : Int) ∧ s.testBit i = true := by
  unfold setL at h
  rw [List.mem_map] at h
  obtain ⟨i, hi, rfl⟩ := h
  rw [List.mem_filter, List.mem_range] at hi
  exact ⟨i, hi.1, rfl, hi.2⟩
theorem mem_set {s n i : Nat} (h : i < n) (hb : s.testBit i = true) : (i : Int) ∈ setL s n := by
  unfold setL
  exact List.mem_map.2 ⟨i, List.mem_filter.2 ⟨List.mem_range.2 h, hb⟩, rfl⟩
theorem set_len (s n : Nat) : (setL s n).length ≤ n := by
  unfold setL
  rw [List.length_map]
  refine Nat.le_trans (List.length_filter_le _ _) ?_
  rw [List.length_range]
  exact Nat.le_refl _
theorem fail_bit (L : Nat) (C : List (List Int)) (n : Nat) : ∀ k i, (failK L C n k).testBit i = (decide (i < k) && !holdsC L n (C.getD i []))
  | 0, i => by show (0 : Nat).testBit i = _; simp
  | k + 1, i => by
    have ih := fail_bit L C n k i
    cases q : holdsC L n (C.getD k []) with
    | true =>
      rw [fail_same q, ih]
      by_cases e : i = k
      · subst e; rw [q]; simp
      · have : (i < k + 1) = (i < k) := by simp; omega
        simp only [this]
    | false =>
      rw [fail_up q, Nat.testBit_or, ih, Nat.testBit_two_pow]
      by_cases e : i = k
      · subst e; rw [q]; simp
      · have h1 : (i < k + 1) = (i < k) := by simp; omega
        have h2 : ¬ k = i := fun h => e h.symm
        simp only [h1, h2, decide_false, Bool.or_false]
theorem how_all (L : Nat) (C : List (List Int)) (n : Nat) : ∀ k, howK L C n k = k ↔ ∀ j, j < k → holdsC L n (C.getD j []) = true
  | 0 => ⟨fun _ j hj => by omega, fun _ => rfl⟩
  | k + 1 => by
    have ih := how_all L C n k
    have hle := howK_le L C n k
    have hs : howK L C n (k + 1) = howK L C n k + (if holdsC L n (C.getD k []) = true then 1 else 0) := rfl
    cases q : holdsC L n (C.getD k []) with
    | true =>
      rw [q, if_pos rfl] at hs
      constructor
      · intro h j hj
        by_cases e : j = k
        · rw [e]; exact q
        · exact ih.1 (by omega) j (by omega)
      · intro h
        have := ih.2 fun j hj => h j (by omega)
        omega
    | false =>
      rw [q, if_neg (by simp)] at hs
      constructor
      · intro h; omega
      · intro h
        have := h k (by omega)
        rw [q] at this
        cases this
theorem part_model (L : Nat) (C : List (List Int)) (s m : Nat) : modelB L (partK C (setL s C.length)) m = true ↔ failK L C m C.length &&& s = 0 := by
  have hpl : (partK C (setL s C.length)).length = (setL s C.length).length := by unfold partK; rw [List.length_map]
  unfold modelB
  rw [decide_eq_true_eq, how_all]
  constructor
  · intro h
    apply Nat.eq_of_testBit_eq
    intro i
    rw [Nat.testBit_and, fail_bit, Nat.zero_testBit]
    by_cases hi : i < C.length
    · cases hb : s.testBit i with
      | false => simp
      | true =>
        obtain ⟨j, hj, e⟩ := List.mem_iff_getElem.1 (mem_set hi hb)
        have h1 := h j (by rw [hpl]; exact hj)
        have h2 : (partK C (setL s C.length)).getD j [] = C.getD i [] := by
          unfold partK
          simp [List.getD, hj, e]
        rw [h2] at h1
        rw [h1]
        simp
    · simp [hi]
  · intro h j hj
    rw [hpl] at hj
    obtain ⟨i, h1, h2, h3⟩ := set_mem (List.getElem_mem hj)
    have h4 : (partK C (setL s C.length)).getD j [] = C.getD i [] := by
      unfold partK
      simp [List.getD, hj, h2]
    rw [h4]
    have h5 : (failK L C m C.length &&& s).testBit i = false := by rw [h, Nat.zero_testBit]
    rw [Nat.testBit_and, fail_bit, h3] at h5
    simpa [h1] using h5
theorem free_iff (L : Nat) (C : List (List Int)) (s : Nat) : freeB L C s = true ↔ ∃ m, m < 2 ^ L ∧ failK L C m C.length &&& s = 0 := by
  unfold freeB anyI
  rw [List.any_eq_true]
  constructor
  · rintro ⟨m, hm, h⟩
    have hm2 : m < 2 ^ L := by have := List.mem_range.1 hm; rw [failL_len] at this; exact this
    rw [failL_at hm2] at h
    unfold clearP at h
    rw [decide_eq_true_eq, Int.toNat_natCast] at h
    exact ⟨m, hm2, h⟩
  · rintro ⟨m, hm, h⟩
    refine ⟨m, List.mem_range.2 (by rw [failL_len]; exact hm), ?_⟩
    rw [failL_at hm]
    unfold clearP
    rw [decide_eq_true_eq, Int.toNat_natCast]
    exact h
theorem mod_nil {L : Nat} {C : List (List Int)} : ∀ n, (∀ m, m < n → modelB L C m = false) → modK L C n = []
  | 0, _ => rfl
  | n + 1, h => by rw [modK_no (h n (by omega))]; exact mod_nil n fun m hm => h m (by omega)
theorem mod_in {L : Nat} {C : List (List Int)} {m n : Nat} (hm : m < n) (h : modelB L C m = true) : (m : Int) ∈ modK L C n := by
  unfold modK
  exact List.mem_map.2 ⟨m, List.mem_filter.2 ⟨List.mem_range.2 hm, h⟩, rfl⟩
theorem head_free {L : Nat} {C : List (List Int)} {s : Nat} (h : freeB L C s = true) : 0 ≤ headI (modK L (partK C (setL s C.length)) (2 ^ L)) := by
  obtain ⟨m, hm, h1⟩ := (free_iff L C s).1 h
  have h2 := mod_in hm ((part_model L C s m).2 h1)
  cases hk : modK L (partK C (setL s C.length)) (2 ^ L) with
  | nil => rw [hk] at h2; cases h2
  | cons x t =>
    obtain ⟨q, -, rfl⟩ := modK_in (show x ∈ modK L (partK C (setL s C.length)) (2 ^ L) by rw [hk]; exact List.mem_cons_self ..)
    show (0 : Int) ≤ (q : Int)
    omega
theorem head_none {L : Nat} {C : List (List Int)} {s : Nat} (h : freeB L C s = false) : headI (modK L (partK C (setL s C.length)) (2 ^ L)) = -1 := by
  rw [mod_nil (2 ^ L) fun m hm => by
    rw [Bool.eq_false_iff]
    intro hc
    have : freeB L C s = true := (free_iff L C s).2 ⟨m, hm, (part_model L C s m).1 hc⟩
    rw [h] at this
    cases this]
  rfl
/-- What is looked at later is in. -/
theorem left_high (L : Nat) (C : List (List Int)) : ∀ k i, k ≤ i → i < C.length → (leftK L C k).testBit i = true
  | 0, i, _, h => by
    show (2 ^ C.length - 1).testBit i = true
    rw [Nat.testBit_two_pow_sub_one]
    simpa using h
  | k + 1, i, h1, h2 => by
    have ih := left_high L C k i (by omega) h2
    cases q : freeB L C (outK (leftK L C k) k) with
    | true => rw [(core_yes q).1]; exact ih
    | false => rw [(core_no q).1, out_bit, ih]; simp; omega
theorem core_set (L : Nat) (C : List (List Int)) : ∀ k, k ≤ C.length → coreK L C k = setL (leftK L C k) k
  | 0, _ => rfl
  | k + 1, h => by
    have ih := core_set L C k (by omega)
    have hb := left_high L C k k (Nat.le_refl _) (by omega)
    cases q : freeB L C (outK (leftK L C k) k) with
    | true =>
      rw [(core_yes q).1, (core_yes q).2, ih]
      unfold setL
      rw [List.range_succ, List.filter_append, List.map_append]
      simp [hb]
    | false =>
      rw [(core_no q).1, (core_no q).2, ih]
      unfold setL
      rw [List.range_succ, List.filter_append, List.map_append]
      have h1 : (outK (leftK L C k) k).testBit k = false := by rw [out_bit]; simp
      have h2 : (List.range k).filter (fun i => (leftK L C k).testBit i) = (List.range k).filter (fun i => (outK (leftK L C k) k).testBit i) := List.filter_congr fun i hi => by
        have := List.mem_range.1 hi
        rw [out_bit]
        have e : ¬ i = k := by omega
        simp [e]
      rw [h2]
      simp [h1]
end Go.Proofs.Ytleaaigjnniglaa
