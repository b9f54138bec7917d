/- Spans: which are valid (plain). -/
import Derived.Test.YtgiijkbgbpohoaaSpanK
import Derived.Test.YtgiijkbgbpohoaaSz
namespace Go.Proofs.Ytgiijkbgbpohoaa

def spB (a : Sp) : Bool := inB a.f 0 100000 && (inB a.t 0 100000 && (decide (a.f < a.t) && inB a.g 0 1000))
def allP (Z : List Sp) : Bool := (List.range Z.length).all fun i => spB (Z.getD i zP)
def few64 (n : Nat) : Bool := decide (1 ≤ (n : Int)) && decide ((n : Int) ≤ 64)
def spansB (Z : List Sp) : Bool := few64 Z.length && allP Z
structure SpOk (a : Sp) : Prop where
  f1 : 0 ≤ a.f
  f2 : a.f < a.t
  t2 : a.t ≤ 100000
  g1 : 0 ≤ a.g
  g2 : a.g ≤ 1000
theorem spB_ok {a : Sp} (h : spB a = true) : SpOk a := by
  unfold spB at h
  simp only [Bool.and_eq_true, decide_eq_true_eq] at h
  obtain ⟨h1, h2, h3, h4⟩ := h
  exact ⟨(inB_ok h1).1, h3, (inB_ok h2).2, (inB_ok h4).1, (inB_ok h4).2⟩
structure SpansOk (Z : List Sp) : Prop where
  n1 : 1 ≤ Z.length
  n2 : Z.length ≤ 64
  ok : ∀ i, i < Z.length → SpOk (Z.getD i zP)
theorem spansB_ok {Z : List Sp} (h : spansB Z = true) : SpansOk Z := by
  unfold spansB few64 at h
  simp only [Bool.and_eq_true, decide_eq_true_eq] at h
  exact ⟨by omega, by omega, fun i hi => spB_ok (rngAt h.2 hi)⟩
theorem few64_cases {n : Nat} : (few64 n = true ∧ 1 ≤ (n : Int) ∧ (n : Int) ≤ 64) ∨ (few64 n = false ∧ (n : Int) < 1) ∨ (few64 n = false ∧ 1 ≤ (n : Int) ∧ 64 < (n : Int)) := by
  unfold few64
  by_cases h1 : 1 ≤ (n : Int)
  · by_cases h2 : (n : Int) ≤ 64
    · exact Or.inl ⟨by simp [h1, h2], h1, h2⟩
    · exact Or.inr (Or.inr ⟨by simp; omega, h1, by omega⟩)
  · exact Or.inr (Or.inl ⟨by simp; omega, by omega⟩)
theorem spansB_bad {Z : List Sp} {k : Nat} (hk : k < Z.length) (h : spB (Z.getD k zP) = false) : spansB Z = false := by
  unfold spansB allP
  rw [rngNot hk h, Bool.and_false]
/-- The model's test of a span: the second bound is one behind the first time. -/
theorem spB_mid {a : Sp} (h1 : inB a.f 0 100000 = true) : (inB a.t 0 100000 && decide (a.f < a.t)) = inB a.t (a.f + 1) 100000 := by
  have := inB_ok h1
  rw [Bool.eq_iff_iff]
  unfold inB
  simp only [Bool.and_eq_true, decide_eq_true_eq]
  omega
theorem spB_three {a : Sp} (h1 : inB a.f 0 100000 = true) : spB a = (inB a.t (a.f + 1) 100000 && inB a.g 0 1000) := by
  unfold spB
  rw [h1, Bool.true_and, ← Bool.and_assoc, spB_mid h1]
theorem spB_one {a : Sp} (h1 : inB a.f 0 100000 = false) : spB a = false := by unfold spB; rw [h1]; rfl
end Go.Proofs.Ytgiijkbgbpohoaa
