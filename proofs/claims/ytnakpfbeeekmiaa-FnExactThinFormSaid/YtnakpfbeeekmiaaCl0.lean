/- Literals, letters, clauses (plain). -/
import Derived.Test.YtnakpfbeeekmiaaSz
namespace Go.Proofs.Ytnakpfbeeekmiaa

def min64 : Int := -9223372036854775808
/-- The letter of a literal; lw: as 64-bit integers tell it. -/
def ltr (x : Int) : Int := if x < 0 then -x else x
def lw (x : Int) : Int := if x = -9223372036854775808 then x else ltr x
theorem lw_min : lw (-9223372036854775808) = -9223372036854775808 := by decide
theorem lw_ltr {x : Int} (h : x ≠ -9223372036854775808) : lw x = ltr x := if_neg h
theorem ltr_pos (x : Int) : 0 ≤ ltr x := by unfold ltr; split <;> omega
theorem lw_in {x n : Int} (h : inB (lw x) 1 n = true) : x ≠ -9223372036854775808 ∧ lw x = ltr x ∧ 1 ≤ ltr x ∧ ltr x ≤ n := by
  have h1 : x ≠ -9223372036854775808 := by
    intro e
    subst e
    rw [lw_min] at h
    have := inB_ok h
    omega
  have := inB_ok h
  rw [lw_ltr h1] at this
  exact ⟨h1, lw_ltr h1, this.1, this.2⟩
def lets (c : List Int) : List Int := c.map lw
theorem lets_len (c : List Int) : (lets c).length = c.length := by simp [lets]
theorem lets_at {c : List Int} {i : Nat} (h : i < c.length) : (lets c).getD i 0 = lw (c.getD i 0) := by simp [lets, List.getD, h]
def asc1 (n : Int) (L : List Int) (i : Nat) : Bool := inB (L.getD i 0) 1 n && (decide (i = 0) || decide (L.getD (i - 1) 0 < L.getD i 0))
/-- Letters in ascending order. -/
def alB (n : Int) (L : List Int) : Bool := (List.range L.length).all (asc1 n L) && inB n 1 10
/-- A clause. -/
def clB (n : Int) (c : List Int) : Bool := alB n (lets c)
def seenA (c : List Int) (k : Nat) (a : Int) : Bool := (List.range k).any fun j => ltr (c.getD j 0) == a
def lit1 (n : Int) (c : List Int) (i : Nat) : Bool := inB (c.getD i 0) (-n) n && (!(c.getD i 0 == 0) && !seenA c i (ltr (c.getD i 0)))
/-- Literals of different letters. -/
def litsB (n : Int) (c : List Int) : Bool := (List.range c.length).all (lit1 n c)
def ord1 (c : List Int) (i : Nat) : Bool := decide (i = 0) || !decide (ltr (c.getD i 0) < ltr (c.getD (i - 1) 0))
def spcl (n : Int) (c : List Int) : Bool := inB n 1 10 && (litsB n c && (List.range c.length).all (ord1 c))
theorem seenA_yes {c : List Int} {k j : Nat} {a : Int} (h : j < k) (e : ltr (c.getD j 0) = a) : seenA c k a = true := by
  unfold seenA
  rw [List.any_eq_true]
  exact ⟨j, List.mem_range.2 h, beq_iff_eq.2 e⟩
theorem seenA_no {c : List Int} {k : Nat} {a : Int} (h : seenA c k a = false) {j : Nat} (hj : j < k) : ltr (c.getD j 0) ≠ a := by
  intro e
  rw [seenA_yes hj e] at h
  cases h
theorem seenA_none {c : List Int} {k : Nat} {a : Int} (h : ∀ j, j < k → ltr (c.getD j 0) ≠ a) : seenA c k a = false := by
  rw [Bool.eq_false_iff]
  intro hc
  unfold seenA at hc
  rw [List.any_eq_true] at hc
  obtain ⟨j, hj, e⟩ := hc
  exact h j (List.mem_range.1 hj) (by simpa using e)
theorem seenA_succ (c : List Int) (k : Nat) (a : Int) : seenA c (k + 1) a = (seenA c k a || (ltr (c.getD k 0) == a)) := by
  unfold seenA
  rw [List.range_succ, List.any_append]
  simp
/-- What a clause is. -/
structure ClOk (n : Int) (c : List Int) : Prop where
  n1 : 1 ≤ n
  n2 : n ≤ 10
  a : ∀ i, i < c.length → 1 ≤ ltr (c.getD i 0) ∧ ltr (c.getD i 0) ≤ n
  up : ∀ i j, i < j → j < c.length → ltr (c.getD i 0) < ltr (c.getD j 0)
theorem clB_ok {n : Int} {c : List Int} (h : clB n c = true) : ClOk n c := by
  unfold clB alB at h
  rw [Bool.and_eq_true] at h
  obtain ⟨h1, h2⟩ := h
  rw [lets_len] at h1
  have hn := inB_ok h2
  have hs : ∀ i, i < c.length → asc1 n (lets c) i = true := fun i hi => rngAt h1 hi
  have ha : ∀ i, i < c.length → lw (c.getD i 0) = ltr (c.getD i 0) ∧ 1 ≤ ltr (c.getD i 0) ∧ ltr (c.getD i 0) ≤ n := fun i hi => by
    have := hs i hi
    unfold asc1 at this
    rw [Bool.and_eq_true, lets_at hi] at this
    exact (lw_in this.1).2
  have hup : ∀ i, i + 1 < c.length → ltr (c.getD i 0) < ltr (c.getD (i + 1) 0) := fun i hi => by
    have := hs (i + 1) hi
    unfold asc1 at this
    rw [Bool.and_eq_true, lets_at hi, Nat.add_sub_cancel, lets_at (by omega)] at this
    have h2 := this.2
    rw [(ha i (by omega)).1, (ha (i + 1) hi).1] at h2
    simpa using h2
  refine ⟨hn.1, hn.2, fun i hi => (ha i hi).2, ?_⟩
  intro i j hij
  induction j with
  | zero => omega
  | succ j ih =>
    intro hj
    have h1 := hup j hj
    by_cases e : i = j
    · subst e; exact h1
    · have := ih (by omega) (by omega); omega
theorem clB_of {n : Int} {c : List Int} (h : ClOk n c) : clB n c = true := by
  have ha : ∀ i, i < c.length → lw (c.getD i 0) = ltr (c.getD i 0) := fun i hi => by
    refine lw_ltr fun e => ?_
    have := (h.a i hi).2
    rw [e] at this
    have h3 := h.n2
    unfold ltr at this
    omega
  unfold clB alB
  rw [Bool.and_eq_true, lets_len]
  refine ⟨rngAll fun i hi => ?_, by unfold inB; simp [h.n1, h.n2]⟩
  unfold asc1
  rw [Bool.and_eq_true, lets_at hi, ha i hi]
  refine ⟨by unfold inB; rw [decide_eq_true (h.a i hi).1, decide_eq_true (h.a i hi).2]; rfl, ?_⟩
  by_cases e : i = 0
  · simp [e]
  · rw [lets_at (by omega), ha (i - 1) (by omega)]
    have := h.up (i - 1) i (by omega) hi
    rw [decide_eq_true this, Bool.or_true]
theorem litsB_of {n : Int} {c : List Int} (h : ClOk n c) : litsB n c = true := by
  refine rngAll fun i hi => ?_
  unfold lit1
  have h1 := h.a i hi
  have h0 : c.getD i 0 ≠ 0 := by intro e; rw [e] at h1; unfold ltr at h1; omega
  have h2 : inB (c.getD i 0) (-n) n = true := by
    unfold inB
    have : -n ≤ c.getD i 0 ∧ c.getD i 0 ≤ n := by
      unfold ltr at h1
      split at h1 <;> omega
    rw [decide_eq_true this.1, decide_eq_true this.2]; rfl
  rw [h2, seenA_none fun j hj => by have := h.up j i hj hi; omega]
  simpa using h0
theorem spcl_eq (n : Int) (c : List Int) : spcl n c = clB n c := by
  rw [Bool.eq_iff_iff]
  constructor
  · intro h
    unfold spcl at h
    rw [Bool.and_eq_true, Bool.and_eq_true] at h
    obtain ⟨h1, h2, h3⟩ := h
    have hn := inB_ok h1
    have hl : ∀ i, i < c.length → lit1 n c i = true := fun i hi => rngAt h2 hi
    have ho : ∀ i, i < c.length → ord1 c i = true := fun i hi => rngAt h3 hi
    have hup : ∀ i, i + 1 < c.length → ltr (c.getD i 0) < ltr (c.getD (i + 1) 0) := fun i hi => by
      have k1 := hl (i + 1) hi
      have k2 := ho (i + 1) hi
      unfold lit1 at k1
      unfold ord1 at k2
      simp only [Bool.and_eq_true, Bool.not_eq_true'] at k1
      have k3 := seenA_no k1.2.2 (Nat.lt_succ_self i)
      rw [Nat.add_sub_cancel] at k2
      simp at k2
      simp only [List.getD] at k3 ⊢
      omega
    refine clB_of ⟨hn.1, hn.2, fun i hi => ?_, ?_⟩
    · have k1 := hl i hi
      unfold lit1 at k1
      simp only [Bool.and_eq_true, Bool.not_eq_true', beq_eq_false_iff_ne] at k1
      have k2 := inB_ok k1.1
      unfold ltr
      have := k1.2.1
      split <;> omega
    · intro i j hij
      induction j with
      | zero => omega
      | succ j ih =>
        intro hj
        have h1 := hup j hj
        by_cases e : i = j
        · subst e; exact h1
        · have := ih (by omega) (by omega); omega
  · intro h
    have h := clB_ok h
    unfold spcl
    rw [Bool.and_eq_true, Bool.and_eq_true]
    refine ⟨by unfold inB; simp [h.n1, h.n2], litsB_of h, rngAll fun i hi => ?_⟩
    unfold ord1
    by_cases e : i = 0
    · simp [e]
    · have := h.up (i - 1) i (by omega) hi
      simp only [Bool.or_eq_true, Bool.not_eq_true', decide_eq_false_iff_not]
      right; omega
theorem ClOk.len {n : Int} {c : List Int} (h : ClOk n c) : c.length ≤ n.toNat := by
  have : ∀ i, i < c.length → (i : Int) + 1 ≤ ltr (c.getD i 0) := by
    intro i
    induction i with
    | zero => intro hi; have := h.a 0 hi; omega
    | succ i ih => intro hi; have h1 := h.up i (i + 1) (Nat.lt_succ_self _) hi; have := ih (by omega); omega
  by_cases h0 : c.length = 0
  · omega
  · have h1 := this (c.length - 1) (by omega)
    have h2 := h.a (c.length - 1) (by omega)
    omega
end Go.Proofs.Ytnakpfbeeekmiaa
