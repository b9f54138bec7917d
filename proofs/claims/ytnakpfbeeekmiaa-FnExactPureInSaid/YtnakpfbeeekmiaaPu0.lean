/- Literals whose opposites are nowhere (plain). -/
import Derived.Test.YtnakpfbeeekmiaaVf
import Derived.Test.YtnakpfbeeekmiaaInS
import Derived.Test.YtnakpfbeeekmiaaMs
namespace Go.Proofs.Ytnakpfbeeekmiaa

def occK (C : List (List Int)) (k : Nat) (x : Int) : Bool := (List.range k).any fun i => inS (C.getD i []) x
theorem occK_up (C : List (List Int)) (k : Nat) (x : Int) : occK C (k + 1) x = (occK C k x || inS (C.getD k []) x) := by
  unfold occK; rw [List.range_succ, List.any_append]; simp
def pu1 (C : List (List Int)) (a : Int) : List Int := (bif occK C C.length a && !occK C C.length (-a) then [a] else []) ++ (bif occK C C.length (-a) && !occK C C.length a then [-a] else [])
def puK (C : List (List Int)) : Nat → List Int
  | 0 => []
  | a + 1 => puK C a ++ pu1 C ((a + 1 : Nat) : Int)
theorem pu1_len (C : List (List Int)) (a : Int) : (pu1 C a).length ≤ 1 := by
  unfold pu1
  cases occK C C.length a <;> cases occK C C.length (-a) <;> simp
theorem puK_len (C : List (List Int)) : ∀ k, (puK C k).length ≤ k
  | 0 => Nat.le_refl _
  | k + 1 => by
    have h1 := puK_len C k
    have h2 := pu1_len C ((k + 1 : Nat) : Int)
    unfold puK
    rw [List.length_append]
    omega
theorem ltr_is {x a : Int} (h : 1 ≤ a) : ltr x = a ↔ x = a ∨ x = -a := by
  unfold ltr; split <;> omega
theorem mem_pu1 {C : List (List Int)} {a y : Int} (h : 1 ≤ a) : y ∈ pu1 C a ↔ ltr y = a ∧ occK C C.length y = true ∧ occK C C.length (-y) = false := by
  rw [ltr_is h]
  unfold pu1
  cases h1 : occK C C.length a <;> cases h2 : occK C C.length (-a) <;> simp
  · rintro (rfl | rfl)
    · rw [h1]; simp
    · rw [h2]; simp
  · constructor
    · rintro rfl
      exact ⟨Or.inr rfl, h2, by rw [Int.neg_neg]; exact h1⟩
    · rintro ⟨rfl | rfl, h3, h4⟩
      · rw [h1] at h3; cases h3
      · rfl
  · constructor
    · rintro rfl
      exact ⟨Or.inl rfl, h1, h2⟩
    · rintro ⟨rfl | rfl, h3, h4⟩
      · rfl
      · rw [h2] at h3; cases h3
  · rintro (rfl | rfl)
    · intro _; exact h2
    · intro _; rw [Int.neg_neg]; exact h1
theorem mem_puK {C : List (List Int)} {y : Int} : ∀ k : Nat, y ∈ puK C k ↔ 1 ≤ ltr y ∧ ltr y ≤ (k : Int) ∧ occK C C.length y = true ∧ occK C C.length (-y) = false
  | 0 => by
    constructor
    · intro h; simp [puK] at h
    · rintro ⟨h1, h2, -⟩; omega
  | k + 1 => by
    unfold puK
    rw [List.mem_append, mem_puK k, mem_pu1 (by omega)]
    constructor
    · rintro (⟨h1, h2, h3⟩ | ⟨h1, h3⟩)
      · exact ⟨h1, by omega, h3⟩
      · exact ⟨by omega, by omega, h3⟩
    · rintro ⟨h1, h2, h3⟩
      by_cases e : ltr y = ((k + 1 : Nat) : Int)
      · exact Or.inr ⟨e, h3⟩
      · exact Or.inl ⟨h1, by omega, h3⟩
theorem puK_rise (C : List (List Int)) : ∀ k, (puK C k).Pairwise fun a b => ltr a < ltr b
  | 0 => List.Pairwise.nil
  | k + 1 => by
    unfold puK
    refine List.pairwise_append.2 ⟨puK_rise C k, ?_, fun a ha b hb => ?_⟩
    · have h := pu1_len C ((k + 1 : Nat) : Int)
      generalize pu1 C ((k + 1 : Nat) : Int) = T at h
      match T, h with
      | [], _ => exact List.Pairwise.nil
      | [x], _ => exact List.pairwise_singleton _ _
    · have h1 := ((mem_puK k).1 ha).2.1
      have h2 := ((mem_pu1 (by omega)).1 hb).1
      omega
/-- What stands in the set behind k letters. -/
def prK (C : List (List Int)) (k : Nat) (y : Int) : Bool := occK C C.length y && !(decide (1 ≤ ltr y) && (decide (ltr y ≤ (k : Int)) && occK C C.length (-y)))
theorem prK_zero (C : List (List Int)) (y : Int) : occK C C.length y = prK C 0 y := by
  unfold prK
  by_cases h : 1 ≤ ltr y
  · rw [decide_eq_false (show ¬ ltr y ≤ ((0 : Nat) : Int) by omega)]; simp
  · rw [decide_eq_false h]; simp
theorem prK_new {C : List (List Int)} {k : Nat} {y : Int} (h : ltr y = ((k + 1 : Nat) : Int)) : prK C k y = occK C C.length y := by
  unfold prK
  rw [decide_eq_false (show ¬ ltr y ≤ (k : Int) by omega)]; simp
theorem prK_far {C : List (List Int)} {k : Nat} {y : Int} (h : ¬ ltr y = ((k + 1 : Nat) : Int)) : prK C (k + 1) y = prK C k y := by
  unfold prK
  have : decide (ltr y ≤ ((k + 1 : Nat) : Int)) = decide (ltr y ≤ (k : Int)) := Bool.eq_iff_iff.2 (by simp only [decide_eq_true_iff]; omega)
  rw [this]
theorem prK_at {C : List (List Int)} {k : Nat} {y : Int} (h : ltr y = ((k + 1 : Nat) : Int)) : prK C (k + 1) y = (occK C C.length y && !occK C C.length (-y)) := by
  unfold prK
  rw [decide_eq_true (show 1 ≤ ltr y by omega), decide_eq_true (show ltr y ≤ ((k + 1 : Nat) : Int) by omega)]; simp
theorem prK_two {C : List (List Int)} {k : Nat} (h1 : occK C C.length ((k + 1 : Nat) : Int) = true) (h2 : occK C C.length (-((k + 1 : Nat) : Int)) = true) (y : Int) :
    (y != -((k + 1 : Nat) : Int) && (y != ((k + 1 : Nat) : Int) && prK C k y)) = prK C (k + 1) y := by
  by_cases e : ltr y = ((k + 1 : Nat) : Int)
  · rw [prK_at e]
    rcases (ltr_is (by omega)).1 e with rfl | rfl
    · rw [h1, h2]; simp
    · rw [h2, Int.neg_neg, h1]; simp
  · rw [prK_far e]
    have e2 : ¬ (y = ((k + 1 : Nat) : Int) ∨ y = -((k + 1 : Nat) : Int)) := fun q => e ((ltr_is (by omega)).2 q)
    have h3 : (y != -((k + 1 : Nat) : Int)) = true := bne_iff_ne.2 fun q => e2 (Or.inr q)
    have h4 : (y != ((k + 1 : Nat) : Int)) = true := bne_iff_ne.2 fun q => e2 (Or.inl q)
    rw [h3, h4]; rfl
theorem prK_one {C : List (List Int)} {k : Nat} (h : (occK C C.length ((k + 1 : Nat) : Int) && occK C C.length (-((k + 1 : Nat) : Int))) = false) (y : Int) : prK C k y = prK C (k + 1) y := by
  by_cases e : ltr y = ((k + 1 : Nat) : Int)
  · rw [prK_at e, prK_new e]
    rcases (ltr_is (by omega)).1 e with rfl | rfl
    · generalize occK C C.length ((k + 1 : Nat) : Int) = p at h ⊢
      generalize occK C C.length (-((k + 1 : Nat) : Int)) = q at h ⊢
      cases p <;> cases q <;> simp at h ⊢
    · rw [Int.neg_neg]
      generalize occK C C.length ((k + 1 : Nat) : Int) = p at h ⊢
      generalize occK C C.length (-((k + 1 : Nat) : Int)) = q at h ⊢
      cases p <;> cases q <;> simp at h ⊢
  · exact (prK_far e).symm
/-- The set's list is what the model puts together. -/
theorem pure_list {C : List (List Int)} {L : Nat} (hL : L ≤ 10) (hC : ∀ y, occK C C.length y = true → 1 ≤ ltr y ∧ ltr y ≤ (L : Int)) {Y : List Int} (hn : Y.Nodup) (hm : ∀ x, x ∈ Y ↔ InR x ∧ prK C L x = true)
    (hu : ∀ i j, i < j → j < Y.length → lw (Y.getD i 0) ≤ lw (Y.getD j 0)) : Y = puK C L := by
  have hp : ∀ y, occK C C.length y = true → prK C L y = !occK C C.length (-y) := fun y h => by
    obtain ⟨h1, h2⟩ := hC y h
    unfold prK
    rw [h, decide_eq_true h1, decide_eq_true h2]; simp
  have hin : ∀ y, y ∈ Y → occK C C.length y = true ∧ occK C C.length (-y) = false := fun y hy => by
    have h := ((hm y).1 hy).2
    have h1 : occK C C.length y = true := by
      unfold prK at h
      rw [Bool.and_eq_true] at h
      exact h.1
    rw [hp y h1] at h
    exact ⟨h1, by simpa using h⟩
  have hlw : ∀ y, y ∈ Y → lw y = ltr y := fun y hy => by
    have h2 := (hC y (hin y hy).1).2
    refine lw_ltr fun e => ?_
    rw [e] at h2
    unfold ltr at h2
    rw [if_pos (by decide)] at h2
    omega
  have hmem : ∀ y, y ∈ Y ↔ y ∈ puK C L := fun y => by
    rw [mem_puK]
    constructor
    · intro hy
      obtain ⟨h1, h2⟩ := hin y hy
      exact ⟨(hC y h1).1, (hC y h1).2, h1, h2⟩
    · rintro ⟨h1, h2, h3, h4⟩
      refine (hm y).2 ⟨?_, by rw [hp y h3, h4]; rfl⟩
      unfold ltr at h2
      unfold InR
      split at h2 <;> omega
  have hrise : Y.Pairwise fun a b => ltr a < ltr b := by
    rw [List.pairwise_iff_getElem]
    intro i j hi hj hij
    have h := hu i j hij hj
    rw [show Y.getD i 0 = Y[i] by simp [List.getD, hi], show Y.getD j 0 = Y[j] by simp [List.getD, hj], hlw _ (List.getElem_mem hi), hlw _ (List.getElem_mem hj)] at h
    obtain ⟨a1, a2⟩ := hin _ (List.getElem_mem hi)
    obtain ⟨b1, b2⟩ := hin _ (List.getElem_mem hj)
    have hl := (hC _ b1).1
    by_cases e : ltr Y[i] = ltr Y[j]
    · have hne : Y[i] ≠ Y[j] := (List.pairwise_iff_getElem.1 hn) i j hi hj hij
      exfalso
      have h0 : Y[i] = -Y[j] := by
        unfold ltr at e hl
        split at e <;> split at e <;> first | omega | (split at hl <;> omega)
      rw [h0] at a1
      rw [a1] at b2
      cases b2
    · omega
  have hn2 : (puK C L).Nodup := (puK_rise C L).imp fun h e => by rw [e] at h; omega
  have hperm : Y.Perm (puK C L) := (List.perm_ext_iff_of_nodup hn hn2).2 hmem
  exact hperm.eq_of_pairwise (le := fun a b => ltr a < ltr b) (fun a b _ _ h1 h2 => by omega) hrise (puK_rise C L)
def puF (F : Fm) : List Int := bif formB F then puK F.cs F.letters.toNat else []
theorem puF_len (F : Fm) : (puF F).length ≤ 1048576 := by
  unfold puF
  cases h : formB F with
  | false => simp
  | true =>
    have h1 := puK_len F.cs F.letters.toNat
    have h2 := (formB_ok h).n2
    simp only [cond_true]
    omega
theorem occ_in {n : Int} {C : List (List Int)} (h : ∀ i, i < C.length → ClOk n (C.getD i [])) (y : Int) (hy : occK C C.length y = true) : 1 ≤ ltr y ∧ ltr y ≤ n := by
  unfold occK at hy
  rw [List.any_eq_true] at hy
  obtain ⟨i, hi, h1⟩ := hy
  have hi := List.mem_range.1 hi
  unfold inS at h1
  rw [List.any_eq_true] at h1
  obtain ⟨j, hj, h2⟩ := h1
  have hj := List.mem_range.1 hj
  have h3 := (h i hi).a j hj
  rw [eq_of_beq h2] at h3
  exact h3
end Go.Proofs.Ytnakpfbeeekmiaa
