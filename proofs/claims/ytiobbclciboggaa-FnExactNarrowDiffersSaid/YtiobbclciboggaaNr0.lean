/- Numbers that are in a choice: which (plain). -/
import Derived.Test.YtiobbclciboggaaDf0
namespace Go.Proofs.Ytiobbclciboggaa
open Go.RowKit

theorem mem_extsL {g : List Int → List (List Int)} {fits : List Int → Int → Bool} {P C : List Int} : ∀ D : List Int, C ∈ extsL g fits P D ↔ ∃ x ∈ D, fits P x = true ∧ C ∈ g (P ++ [x])
  | [] => by simp [extsL]
  | x :: D => by
    have ih := mem_extsL (g := g) (fits := fits) (P := P) (C := C) D
    have e : extsL g fits P (x :: D) = (if fits P x then g (P ++ [x]) else []) ++ extsL g fits P D := rfl
    rw [e, List.mem_append, ih]
    constructor
    · rintro (h | ⟨y, h1, h2, h3⟩)
      · by_cases q : fits P x = true
        · rw [if_pos q] at h; exact ⟨x, by simp, q, h⟩
        · rw [if_neg q] at h; cases h
      · exact ⟨y, by simp [h1], h2, h3⟩
    · rintro ⟨y, h1, h2, h3⟩
      rcases List.mem_cons.1 h1 with rfl | h1
      · left; rw [if_pos h2]; exact h3
      · exact Or.inr ⟨y, h1, h2, h3⟩
/-- What a choice that begins with P is. -/
structure Goes (fits : List Int → Int → Bool) (Ls : List (List Int)) (P C : List Int) (n : Nat) : Prop where
  len : C.length = n
  beg : C.take P.length = P
  at_ : ∀ j, P.length ≤ j → j < n → C.getD j 0 ∈ Ls.getD j [] ∧ fits (C.take j) (C.getD j 0) = true
theorem mem_exts {fits : List Int → Int → Bool} {Ls : List (List Int)} {n : Nat} {C : List Int} : ∀ (f : Nat) (P : List Int), P.length + f = n → (C ∈ exts fits Ls f P ↔ Goes fits Ls P C n)
  | 0, P, h => by
    have e : exts fits Ls 0 P = [P] := rfl
    rw [e, List.mem_singleton]
    constructor
    · rintro rfl
      exact ⟨by omega, by simp, fun j h1 h2 => by omega⟩
    · rintro ⟨h1, h2, -⟩
      rw [List.take_of_length_le (by omega)] at h2
      exact h2
  | f + 1, P, h => by
    have e : exts fits Ls (f + 1) P = extsL (exts fits Ls f) fits P (Ls.getD P.length []) := rfl
    rw [e, mem_extsL]
    constructor
    · rintro ⟨x, h1, h2, h3⟩
      have g := (mem_exts (n := n) f (P ++ [x]) (by simp; omega)).1 h3
      have gl := g.len
      have gb := g.beg
      simp only [List.length_append, List.length_cons, List.length_nil, Nat.zero_add] at gb
      have gx : C.getD P.length 0 = x := by
        have := congrArg (fun L : List Int => L.getD P.length 0) gb
        simp only [List.getD, List.getElem?_take] at this
        rw [if_pos (by omega)] at this
        simpa [List.getD] using this
      have gt : C.take P.length = P := by
        have := congrArg (fun L : List Int => L.take P.length) gb
        simpa [List.take_take] using this
      refine ⟨gl, gt, fun j q1 q2 => ?_⟩
      by_cases q : j = P.length
      · subst q; rw [gx, gt]; exact ⟨h1, h2⟩
      · exact g.at_ j (by simp; omega) q2
    · rintro ⟨gl, gt, ga⟩
      have h0 := ga P.length (Nat.le_refl _) (by omega)
      rw [gt] at h0
      refine ⟨C.getD P.length 0, h0.1, h0.2, (mem_exts (n := n) f (P ++ [C.getD P.length 0]) (by simp; omega)).2 ⟨gl, ?_, fun j q1 q2 => ga j (by simp at q1; omega) q2⟩⟩
      simp only [List.length_append, List.length_cons, List.length_nil, Nat.zero_add]
      have hlt : P.length < C.length := by omega
      rw [List.take_add_one, gt, List.getElem?_eq_getElem hlt]
      simp [List.getD, hlt]
/-- Whether x is in a choice, at place i. -/
def hasC (X : List (List Int)) (i : Nat) (x : Int) : Bool := X.any fun C => decide (x = C.getD i 0)
theorem set_at {Ds : List (List Int)} {i : Nat} {x : Int} {j : Nat} : (Ds.set i [x]).getD j [] = if j = i ∧ i < Ds.length then [x] else Ds.getD j [] := by
  simp only [List.getD, List.getElem?_set]
  by_cases e : i = j
  · subst e
    by_cases h : i < Ds.length
    · simp [h]
    · simp [h]
  · have : ¬ j = i := fun q => e q.symm
    simp [e, this]
theorem has_with {fits : List Int → Int → Bool} {Ds : List (List Int)} {i : Nat} {x : Int} (hi : i < Ds.length) (hx : x ∈ Ds.getD i []) :
    decide (exts fits (Ds.set i [x]) (Ds.set i [x]).length [] ≠ []) = hasC (exts fits Ds Ds.length []) i x := by
  have hl : (Ds.set i [x]).length = Ds.length := by simp
  rw [hl, Bool.eq_iff_iff, decide_eq_true_eq]
  unfold hasC
  rw [List.any_eq_true]
  constructor
  · intro h
    obtain ⟨C, hC⟩ := List.exists_mem_of_ne_nil _ h
    have g := (mem_exts (n := Ds.length) _ [] (by simp)).1 hC
    have hat := g.at_
    have hix := (hat i (by simp) hi).1
    rw [set_at, if_pos ⟨rfl, hi⟩, List.mem_singleton] at hix
    refine ⟨C, (mem_exts (n := Ds.length) _ [] (by simp)).2 ⟨g.len, g.beg, fun j h1 h2 => ⟨?_, (hat j h1 h2).2⟩⟩, decide_eq_true hix.symm⟩
    have h := (hat j h1 h2).1
    rw [set_at] at h
    split at h
    · rename_i q
      rw [List.mem_singleton] at h
      rw [h, q.1]; exact hx
    · exact h
  · rintro ⟨C, hC, hxC⟩
    have hxC : x = C.getD i 0 := by simpa using hxC
    have g := (mem_exts (n := Ds.length) _ [] (by simp)).1 hC
    have : C ∈ exts fits (Ds.set i [x]) Ds.length [] := (mem_exts (n := Ds.length) _ [] (by simp)).2 ⟨g.len, g.beg, fun j h1 h2 => ⟨by
      rw [set_at]
      split
      · rename_i q; rw [q.1, ← hxC]; simp
      · exact (g.at_ j h1 h2).1, (g.at_ j h1 h2).2⟩⟩
    exact List.ne_nil_of_mem this
/-- What is left of a domain. -/
def nrw (X : List (List Int)) (Ds : List (List Int)) (i : Nat) : List Int := (Ds.getD i []).filter (hasC X i)
/-- How far what is left has grown. -/
def stR (X : List (List Int)) (Ds : List (List Int)) (k a : Nat) : Nat → List Int := fun j => if j < k then nrw X Ds j else if j = k then ((Ds.getD k []).take a).filter (hasC X k) else []
theorem stR_zero (X Ds : List (List Int)) : stR X Ds 0 0 = fun _ => [] := by
  funext j; unfold stR; rw [if_neg (by omega)]; simp
theorem stR_end {X Ds : List (List Int)} {k a : Nat} (h : (Ds.getD k []).length ≤ a) : stR X Ds k a = stR X Ds (k + 1) 0 := by
  funext j
  unfold stR
  by_cases h1 : j < k
  · rw [if_pos h1, if_pos (by omega)]
  · by_cases h2 : j = k
    · subst h2
      rw [if_neg h1, if_pos rfl, if_pos (by omega), List.take_of_length_le h]; rfl
    · rw [if_neg h1, if_neg h2, if_neg (by omega)]
      split
      · simp
      · rfl
theorem take_filter_yes {p : Int → Bool} {E : List Int} {a : Nat} (h : a < E.length) (hp : p (E.getD a 0) = true) : (E.take (a + 1)).filter p = (E.take a).filter p ++ [E.getD a 0] := by
  have e : E.getD a 0 = E[a] := by simp [List.getD, h]
  rw [e] at hp ⊢
  rw [List.take_add_one, List.getElem?_eq_getElem h, List.filter_append]
  simp [hp]
theorem take_filter_no {p : Int → Bool} {E : List Int} {a : Nat} (h : a < E.length) (hp : p (E.getD a 0) = false) : (E.take (a + 1)).filter p = (E.take a).filter p := by
  have e : E.getD a 0 = E[a] := by simp [List.getD, h]
  rw [e] at hp
  rw [List.take_add_one, List.getElem?_eq_getElem h, List.filter_append]
  simp [hp]
theorem stR_yes {X Ds : List (List Int)} {k a : Nat} (h : a < (Ds.getD k []).length) (hp : hasC X k ((Ds.getD k []).getD a 0) = true) :
    stR X Ds k (a + 1) = fun j => if j = k then stR X Ds k a k ++ [(Ds.getD k []).getD a 0] else stR X Ds k a j := by
  funext j
  unfold stR
  by_cases h2 : j = k
  · subst h2
    simp only [Nat.lt_irrefl, if_false, if_true]
    exact take_filter_yes h hp
  · simp only [h2, if_false]
theorem stR_no {X Ds : List (List Int)} {k a : Nat} (h : a < (Ds.getD k []).length) (hp : hasC X k ((Ds.getD k []).getD a 0) = false) : stR X Ds k (a + 1) = stR X Ds k a := by
  funext j
  unfold stR
  by_cases h2 : j = k
  · subst h2
    simp only [Nat.lt_irrefl, if_false, if_true]
    exact take_filter_no h hp
  · simp only [h2, if_false]
theorem stR_len {X Ds : List (List Int)} {k a j : Nat} : (stR X Ds k a j).length ≤ (Ds.getD j []).length := by
  unfold stR nrw
  split
  · exact List.length_filter_le _ _
  · split
    · rename_i h
      subst h
      refine Nat.le_trans (List.length_filter_le _ _) ?_
      simp; omega
    · simp
/-- Domains with one number at a place. -/
theorem domsB_with {Ds : List (List Int)} (ok : DomsOk Ds) {i : Nat} {x : Int} (hi : i < Ds.length) (hx : x ∈ Ds.getD i []) : domsB (Ds.set i [x]) = true := by
  have hv : 0 ≤ x ∧ x ≤ 31 := by
    obtain ⟨k, hk, rfl⟩ := List.getElem_of_mem hx
    have := (ok.d i hi).v k hk
    generalize Ds.getD i [] = E at hk this ⊢
    rw [show E.getD k 0 = E[k] by simp [List.getD, hk]] at this
    exact this
  have l1 := ok.l1
  have l2 := ok.l2
  refine domsB_yes (by unfold domsLB; rw [List.length_set]; simp; omega) (fun k hk => ?_)
  rw [List.length_set] at hk
  rw [set_at]
  split
  · refine domB_yes rfl (fun j hj => ?_) (fun j hj => ?_)
    · simp at hj; subst hj; rfl
    · simp at hj; subst hj
      show inB x 0 31 = true
      unfold inB; simp; omega
  · have d := ok.d k hk
    have d1 := d.l1
    have d2 := d.l2
    refine domB_yes (by unfold domLB; rw [decide_eq_true (by omega), decide_eq_true (by omega)]; rfl) (fun j hj => ?_) (fun j hj => ?_)
    · unfold ascB
      by_cases q : j = 0
      · simp [q]
      · have := d.asc j (by omega) hj
        rw [decide_eq_true this, Bool.or_true]
    · have := d.v j hj
      unfold inB; rw [decide_eq_true this.1, decide_eq_true this.2]; rfl
/-- What NarrowDiffers tells. -/
def nrB (X : List (List Int)) (Ds : List (List Int)) : Bool := domsB Ds && decide (X ≠ [])
def nrC (X : List (List Int)) (Ds : List (List Int)) : List (List Int) := (List.range Ds.length).map (nrw X Ds)
theorem nrC_at {X Ds : List (List Int)} {i : Nat} (h : i < Ds.length) : (nrC X Ds).getD i [] = nrw X Ds i := by simp [nrC, List.getD, h]
theorem nrC_len (X Ds : List (List Int)) : (nrC X Ds).length = Ds.length := by simp [nrC]
end Go.Proofs.Ytiobbclciboggaa
