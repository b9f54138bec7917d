/- Jobs: which are valid, when they end in an order, and what that tells (plain). -/
import Derived.Test.YtdmlhjhhkiajaaaDoorJobK
import Derived.Test.YtdmlhjhhkiajaaaDoorTb0
import Derived.Test.YtdmlhjhhkiajaaaDoorMix
namespace Go.Proofs.YtdmlhjhhkiajaaaDoor

def jobB (a : Ac) : Bool := inB a.f 1 1000 && (inB a.t 0 100000 && (inB a.r 0 1000 && inB a.c 0 100000))
def allJ (Z : List Ac) : Bool := (List.range Z.length).all fun i => jobB (Z.getD i zA)
def fewJ (n : Nat) : Bool := decide (1 ≤ (n : Int)) && decide ((n : Int) ≤ 12)
def jobsB (Z : List Ac) : Bool := fewJ Z.length && allJ Z
structure JobOk (a : Ac) : Prop where
  f1 : 1 ≤ a.f
  f2 : a.f ≤ 1000
  t1 : 0 ≤ a.t
  t2 : a.t ≤ 100000
  r1 : 0 ≤ a.r
  r2 : a.r ≤ 1000
  c1 : 0 ≤ a.c
  c2 : a.c ≤ 100000
theorem jobB_ok {a : Ac} (h : jobB a = true) : JobOk a := by
  unfold jobB at h
  simp only [Bool.and_eq_true] at h
  obtain ⟨h1, h2, h3, h4⟩ := h
  exact ⟨(inB_ok h1).1, (inB_ok h1).2, (inB_ok h2).1, (inB_ok h2).2, (inB_ok h3).1, (inB_ok h3).2, (inB_ok h4).1, (inB_ok h4).2⟩
structure JobsOk (Z : List Ac) : Prop where
  n1 : 1 ≤ Z.length
  n2 : Z.length ≤ 12
  ok : ∀ i, i < Z.length → JobOk (Z.getD i zA)
theorem jobsB_ok {Z : List Ac} (h : jobsB Z = true) : JobsOk Z := by
  unfold jobsB fewJ at h
  simp only [Bool.and_eq_true, decide_eq_true_eq] at h
  exact ⟨by omega, by omega, fun i hi => jobB_ok (rngAt h.2 hi)⟩
theorem fewJ_cases {n : Nat} : (fewJ n = true ∧ 1 ≤ (n : Int) ∧ (n : Int) ≤ 12) ∨ (fewJ n = false ∧ (n : Int) < 1) ∨ (fewJ n = false ∧ 1 ≤ (n : Int) ∧ 12 < (n : Int)) := by
  unfold fewJ
  by_cases h1 : 1 ≤ (n : Int)
  · by_cases h2 : (n : Int) ≤ 12
    · exact Or.inl ⟨by simp [h1, h2], h1, h2⟩
    · exact Or.inr (Or.inr ⟨by simp; omega, h1, by omega⟩)
  · exact Or.inr (Or.inl ⟨by simp; omega, by omega⟩)
def jvalB (Z : List Ac) (T : List Int) : Bool := jobsB Z && tourB T Z.length
/-- When the first k jobs of an order have ended. -/
def lnS (Z : List Ac) (T : List Int) : Nat → Int
  | 0 => 0
  | k + 1 => lnS Z T k + (Z.getD (tN T k) zA).f
/-- The ends of the first k jobs of an order, by their indices. -/
def endL (Z : List Ac) (T : List Int) : Nat → List Int
  | 0 => List.replicate Z.length 0
  | k + 1 => (endL Z T k).set (tN T k) (lnS Z T (k + 1))
theorem endL_len (Z : List Ac) (T : List Int) : ∀ k, (endL Z T k).length = Z.length
  | 0 => by simp [endL]
  | k + 1 => by unfold endL; rw [List.length_set, endL_len Z T k]
theorem lnS_in {Z : List Ac} {T : List Int} (h : JobsOk Z) (ht : TourOk T Z.length) : ∀ k, k ≤ Z.length → 0 ≤ lnS Z T k ∧ lnS Z T k ≤ 1000 * (k : Int)
  | 0, _ => by simp [lnS]
  | k + 1, hk => by
    have ih := lnS_in h ht k (by omega)
    have hj := h.ok _ (ht.inn k (by omega)).2
    have := hj.f1
    have := hj.f2
    unfold lnS
    omega
theorem endL_in {Z : List Ac} {T : List Int} (h : JobsOk Z) (ht : TourOk T Z.length) : ∀ k, k ≤ Z.length → ∀ i, 0 ≤ (endL Z T k).getD i 0 ∧ (endL Z T k).getD i 0 ≤ 12000
  | 0, _, i => by
    unfold endL
    have e : (List.replicate Z.length (0 : Int)).getD i 0 = 0 := by
      rw [List.getD, List.getElem?_replicate]
      split <;> rfl
    rw [e]; omega
  | k + 1, hk, i => by
    have ih := endL_in h ht k (by omega) i
    have hl := lnS_in h ht (k + 1) hk
    have n2 := h.n2
    unfold endL
    by_cases e : tN T k = i
    · by_cases hi : i < (endL Z T k).length
      · rw [List.getD, List.getElem?_set, if_pos e, if_pos (by rw [e]; exact hi)]
        simp only [Option.getD_some]
        omega
      · rw [List.getD, List.getElem?_set, if_pos e, if_neg (by rw [e]; exact hi)]
        simp
    · rw [List.getD, List.getElem?_set, if_neg e]
      exact ih
def endsL (Z : List Ac) (T : List Int) : List Int := if jvalB Z T then endL Z T Z.length else []
theorem endsL_len (Z : List Ac) (T : List Int) : (endsL Z T).length ≤ 1048576 := by
  unfold endsL
  split
  · rename_i h
    unfold jvalB at h
    rw [Bool.and_eq_true] at h
    have := (jobsB_ok h.1).n2
    rw [endL_len]; omega
  · simp
theorem jval_ok {Z : List Ac} {T : List Int} (h : jvalB Z T = true) : JobsOk Z ∧ TourOk T Z.length := by
  unfold jvalB at h
  rw [Bool.and_eq_true] at h
  exact ⟨jobsB_ok h.1, tourB_ok h.2⟩
theorem endsL_yes {Z : List Ac} {T : List Int} (h : jvalB Z T = true) : endsL Z T = endL Z T Z.length := by unfold endsL; rw [if_pos h]
theorem endsL_no {Z : List Ac} {T : List Int} (h : jvalB Z T = false) : endsL Z T = [] := by unfold endsL; rw [h]; rfl
/-- The weighted sum of the first k ends. -/
def wS (Z : List Ac) (E : List Int) : Nat → Int
  | 0 => 0
  | k + 1 => wS Z E k + (Z.getD k zA).r * E.getD k 0
/-- How late the latest of the first k jobs is. -/
def mlS (Z : List Ac) (E : List Int) : Nat → Int
  | 0 => -9223372036854775808
  | k + 1 => max (mlS Z E k) (E.getD k 0 - (Z.getD k zA).t)
/-- How many of the first k jobs are late. -/
def clS (Z : List Ac) (E : List Int) : Nat → Int
  | 0 => 0
  | k + 1 => clS Z E k + if (Z.getD k zA).t < E.getD k 0 then 1 else 0
theorem mul_in {a b A B : Int} (a0 : 0 ≤ a) (b0 : 0 ≤ b) (ha : a ≤ A) (hb : b ≤ B) : 0 ≤ a * b ∧ a * b ≤ A * B := ⟨Int.mul_nonneg a0 b0, Int.mul_le_mul ha hb b0 (Int.le_trans a0 ha)⟩
theorem wS_in {Z : List Ac} {E : List Int} (h : JobsOk Z) (he : ∀ i, 0 ≤ E.getD i 0 ∧ E.getD i 0 ≤ 12000) : ∀ k, k ≤ Z.length → 0 ≤ wS Z E k ∧ wS Z E k ≤ 12000000 * (k : Int)
  | 0, _ => by simp [wS]
  | k + 1, hk => by
    have ih := wS_in h he k (by omega)
    have hj := h.ok k (by omega)
    have hp := mul_in hj.r1 (he k).1 hj.r2 (he k).2
    unfold wS
    generalize (Z.getD k zA).r * E.getD k 0 = p at *
    omega
theorem mlS_in {Z : List Ac} {E : List Int} (h : JobsOk Z) (he : ∀ i, 0 ≤ E.getD i 0 ∧ E.getD i 0 ≤ 12000) : ∀ k, k ≤ Z.length → (k = 0 ∨ -100000 ≤ mlS Z E k) ∧ mlS Z E k ≤ 12000
  | 0, _ => by simp [mlS]
  | k + 1, hk => by
    have ih := mlS_in h he k (by omega)
    have hj := h.ok k (by omega)
    have h1 := hj.t1
    have h2 := hj.t2
    have h3 := he k
    unfold mlS
    omega
theorem mlS_one {Z : List Ac} {E : List Int} (h : JobsOk Z) (he : ∀ i, 0 ≤ E.getD i 0 ∧ E.getD i 0 ≤ 12000) : mlS Z E 1 = E.getD 0 0 - (Z.getD 0 zA).t := by
  have hj := h.ok 0 h.n1
  have h1 := hj.t1
  have h2 := hj.t2
  have h3 := he 0
  have e : mlS Z E 1 = max (-9223372036854775808) (E.getD 0 0 - (Z.getD 0 zA).t) := rfl
  rw [e]; omega
theorem clS_in {Z : List Ac} {E : List Int} : ∀ k, 0 ≤ clS Z E k ∧ clS Z E k ≤ (k : Int)
  | 0 => by simp [clS]
  | k + 1 => by
    have ih := clS_in (Z := Z) (E := E) k
    unfold clS
    split <;> omega
def weI (Z : List Ac) (T : List Int) : Int := if jvalB Z T then wS Z (endL Z T Z.length) Z.length else 0
def mlI (Z : List Ac) (T : List Int) : Int := if jvalB Z T then mlS Z (endL Z T Z.length) Z.length else 0
def clI (Z : List Ac) (T : List Int) : Int := if jvalB Z T then clS Z (endL Z T Z.length) Z.length else 0
/-- A bound by ready times. -/
def hdS (Z : List Ac) (j : Nat) : Nat → Int
  | 0 => (Z.getD j zA).c
  | k + 1 => hdS Z j k + if (Z.getD j zA).c ≤ (Z.getD k zA).c then (Z.getD k zA).f else 0
def hdM (Z : List Ac) : Nat → Int
  | 0 => 0
  | k + 1 => max (hdM Z k) (hdS Z k Z.length)
theorem hdS_in {Z : List Ac} (h : JobsOk Z) {j : Nat} (hj : j < Z.length) : ∀ k, k ≤ Z.length → 0 ≤ hdS Z j k ∧ hdS Z j k ≤ 100000 + 1000 * (k : Int)
  | 0, _ => by
    have := h.ok j hj
    have := this.c1
    have := (h.ok j hj).c2
    unfold hdS
    omega
  | k + 1, hk => by
    have ih := hdS_in h hj k (by omega)
    have hj := h.ok k (by omega)
    have := hj.f1
    have := hj.f2
    unfold hdS
    split <;> omega
theorem hdM_in {Z : List Ac} (h : JobsOk Z) : ∀ k, k ≤ Z.length → 0 ≤ hdM Z k ∧ hdM Z k ≤ 112000
  | 0, _ => by simp [hdM]
  | k + 1, hk => by
    have ih := hdM_in h k (by omega)
    have h2 := hdS_in h (j := k) (by omega) Z.length (Nat.le_refl _)
    have := h.n2
    unfold hdM
    omega
def hbI (Z : List Ac) : Int := if jobsB Z then hdM Z Z.length else 0
end Go.Proofs.YtdmlhjhhkiajaaaDoor
