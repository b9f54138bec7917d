/- Forms without clauses that others tell (plain). -/
import Derived.Test.YtnakpfbeeekmiaaVf
import Derived.Test.YtnakpfbeeekmiaaInS
namespace Go.Proofs.Ytnakpfbeeekmiaa

/-- A list has all of another one. -/
def partB (P Q : List Int) : Bool := (List.range P.length).all fun j => inS Q (P.getD j 0)
theorem partB_no {P Q : List Int} {j : Nat} (hj : j < P.length) (h : inS Q (P.getD j 0) = false) : partB P Q = false := rngNot hj h
theorem partB_yes {P Q : List Int} (h : ∀ j, j < P.length → inS Q (P.getD j 0) = true) : partB P Q = true := rngAll h
theorem partB_self (P : List Int) : partB P P = true := rngAll fun j hj => by
  unfold inS; rw [List.any_eq_true]
  exact ⟨j, List.mem_range.2 hj, by simp⟩
/-- Of lists that rise by a key, one that has only numbers of the other is a part of it in order. -/
theorem rise_sub (g : Int → Int) : ∀ (Q P : List Int), P.Pairwise (fun a b => g a < g b) → Q.Pairwise (fun a b => g a < g b) → (∀ x ∈ P, x ∈ Q) → P.Sublist Q
  | [], P, _, _, h => by
    cases P with
    | nil => exact List.Sublist.refl _
    | cons p P => exact absurd (h p List.mem_cons_self) (by simp)
  | q :: Q, [], _, _, _ => List.nil_sublist _
  | q :: Q, p :: P, hP, hQ, h => by
    rw [List.pairwise_cons] at hP hQ
    by_cases e : p = q
    · subst e
      refine List.Sublist.cons_cons _ (rise_sub g Q P hP.2 hQ.2 fun x hx => ?_)
      rcases List.mem_cons.1 (h x (List.mem_cons_of_mem _ hx)) with e | e
      · have := hP.1 x hx; rw [e] at this; omega
      · exact e
    · refine List.Sublist.cons _ (rise_sub g Q (p :: P) (List.pairwise_cons.2 hP) hQ.2 fun x hx => ?_)
      have hp : p ∈ Q := by
        rcases List.mem_cons.1 (h p List.mem_cons_self) with e2 | e2
        · exact absurd e2 e
        · exact e2
      have hqp := hQ.1 p hp
      rcases List.mem_cons.1 (h x hx) with e2 | e2
      · subst e2
        rcases List.mem_cons.1 hx with e3 | e3
        · rw [e3] at hqp; omega
        · have := hP.1 _ e3; omega
      · exact e2
theorem pw_of {n : Int} {c : List Int} (h : ClOk n c) : c.Pairwise (fun a b => ltr a < ltr b) := by
  rw [List.pairwise_iff_getElem]
  intro i j hi hj hij
  have := h.up i j hij hj
  simpa [List.getD, hi, hj] using this
theorem part_mem {P Q : List Int} (h : partB P Q = true) : ∀ x ∈ P, x ∈ Q := by
  intro x hx
  obtain ⟨j, hj, rfl⟩ := List.getElem_of_mem hx
  have h1 := rngAt h hj
  have e : P.getD j 0 = P[j] := by simp [List.getD, hj]
  rw [e] at h1
  unfold inS at h1
  rw [List.any_eq_true] at h1
  obtain ⟨i, hi, h2⟩ := h1
  have hi := List.mem_range.1 hi
  have h3 := eq_of_beq h2
  rw [show Q.getD i 0 = Q[i] by simp [List.getD, hi]] at h3
  rw [← h3]; exact List.getElem_mem _
theorem part_len {n m : Int} {P Q : List Int} (hP : ClOk n P) (hQ : ClOk m Q) (h : partB P Q = true) : P.length ≤ Q.length ∧ (P.length = Q.length → P = Q) := by
  have hs := rise_sub ltr Q P (pw_of hP) (pw_of hQ) (part_mem h)
  exact ⟨hs.length_le, fun e => hs.eq_of_length e⟩
/-- Clause k tells clause i: the program's test, the model's. -/
def tel1 (C : List (List Int)) (i k : Nat) : Bool := partB (C.getD k []) (C.getD i []) && (decide (k < i) || !decide (C.getD k [] = C.getD i []))
def tel2 (C : List (List Int)) (i k : Nat) : Bool := !decide (k = i) && (partB (C.getD k []) (C.getD i []) && (decide ((C.getD k []).length < (C.getD i []).length) || decide (k < i)))
theorem tel_same {n : Int} {C : List (List Int)} (h : ∀ k, k < C.length → ClOk n (C.getD k [])) {i k : Nat} (hi : i < C.length) (hk : k < C.length) : tel1 C i k = tel2 C i k := by
  unfold tel1 tel2
  cases hp : partB (C.getD k []) (C.getD i []) with
  | false => simp
  | true =>
    obtain ⟨h1, h2⟩ := part_len (h k hk) (h i hi) hp
    by_cases e : k = i
    · subst e; simp
    · by_cases hlt : k < i
      · simp [e, hlt]
      · rw [decide_eq_false e, decide_eq_false hlt]
        simp only [Bool.false_or, Bool.true_and, Bool.not_false, Bool.or_false]
        by_cases hl : (C.getD k []).length = (C.getD i []).length
        · rw [decide_eq_true (h2 hl), decide_eq_false (by omega)]; rfl
        · rw [decide_eq_false (fun q => hl (by rw [q])), decide_eq_true (by omega)]; rfl
/-- A clause is told by one of the first k. -/
def toldK (C : List (List Int)) (i : Nat) : Nat → Bool
  | 0 => false
  | k + 1 => toldK C i k || tel2 C i k
theorem toldK_at {C : List (List Int)} {i k : Nat} (h : tel2 C i k = true) : ∀ n, k < n → toldK C i n = true
  | 0, hn => by omega
  | n + 1, hn => by
    unfold toldK
    by_cases e : k = n
    · subst e; rw [h, Bool.or_true]
    · rw [toldK_at h n (by omega), Bool.true_or]
theorem toldK_none {C : List (List Int)} {i : Nat} : ∀ n, (∀ k, k < n → tel2 C i k = false) → toldK C i n = false
  | 0, _ => rfl
  | n + 1, h => by unfold toldK; rw [toldK_none n fun k hk => h k (by omega), h n (by omega)]; rfl
/-- The clauses among the first k that no other one tells. -/
def thinK (C : List (List Int)) : Nat → List (List Int)
  | 0 => []
  | k + 1 => if toldK C k C.length then thinK C k else thinK C k ++ [C.getD k []]
theorem thinK_len (C : List (List Int)) : ∀ k, (thinK C k).length ≤ k
  | 0 => Nat.le_refl _
  | k + 1 => by
    have := thinK_len C k
    unfold thinK
    split
    · omega
    · simp; omega
theorem thinK_cl {n : Int} {C : List (List Int)} (h : ∀ k, k < C.length → ClOk n (C.getD k [])) : ∀ k, k ≤ C.length → ∀ i, i < (thinK C k).length → ClOk n ((thinK C k).getD i [])
  | 0, _, i, hi => by simp [thinK] at hi
  | k + 1, hk, i, hi => by
    have ih := thinK_cl h k (by omega)
    unfold thinK at hi ⊢
    split
    · rename_i e; rw [if_pos e] at hi; exact ih i hi
    · rename_i e
      rw [if_neg e] at hi
      simp only [List.length_append, List.length_singleton] at hi
      by_cases q : i = (thinK C k).length
      · have : (thinK C k ++ [C.getD k []]).getD i [] = C.getD k [] := by rw [q]; simp [List.getD]
        rw [this]; exact h k (by omega)
      · have : (thinK C k ++ [C.getD k []]).getD i [] = (thinK C k).getD i [] := by simp [List.getD, List.getElem?_append_left (show i < (thinK C k).length by omega)]
        rw [this]; exact ih i (by omega)
def thinF (F : Fm) : Fm := if formB F then ⟨F.letters, thinK F.cs F.cs.length⟩ else ⟨0, []⟩
theorem tot_ten {C : List (List Int)} (h : ∀ i, i < C.length → (C.getD i []).length ≤ 10) : ∀ k, k ≤ C.length → totAt C k ≤ 10 * k
  | 0, _ => Nat.le_refl _
  | k + 1, hk => by
    have ih := tot_ten h k (by omega)
    have := h k (by omega)
    show totAt C k + (C.getD k []).length ≤ _
    omega
theorem thinF_len (F : Fm) : szL (thinF F).cs ≤ 1048576 := by
  unfold thinF
  split
  · rename_i h
    have hc := (formB_ok h)
    have h1 := thinK_len F.cs F.cs.length
    have h2 := hc.few
    have h3 := tot_ten (C := thinK F.cs F.cs.length) (fun i hi => by have := (thinK_cl hc.cl _ (Nat.le_refl _) i hi).len; have := hc.n2; omega) _ (Nat.le_refl _)
    show szL (thinK F.cs F.cs.length) ≤ _
    unfold szL
    omega
  · simp [szL, totAt]
end Go.Proofs.Ytnakpfbeeekmiaa
