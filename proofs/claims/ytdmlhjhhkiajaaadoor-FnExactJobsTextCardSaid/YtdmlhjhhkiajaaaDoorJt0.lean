/- The numbers of jobs (plain). -/
import Derived.Test.YtdmlhjhhkiajaaaDoorJb0
import Derived.Test.YtdmlhjhhkiajaaaDoorLtS
namespace Go.Proofs.YtdmlhjhhkiajaaaDoor

def jn (a : Ac) : List Int := [a.f, a.t, a.r, a.c]
/-- The numbers of the first k jobs. -/
def flK (Z : List Ac) : Nat → List Int
  | 0 => []
  | k + 1 => flK Z k ++ jn (Z.getD k zA)
theorem flK_len (Z : List Ac) : ∀ k, (flK Z k).length = 4 * k
  | 0 => rfl
  | k + 1 => by
    show (flK Z k ++ jn (Z.getD k zA)).length = _
    rw [List.length_append, flK_len Z k]
    show 4 * k + 4 = _
    omega
theorem flK_all {Z : List Ac} (h : JobsOk Z) : ∀ k, k ≤ Z.length → ∀ x ∈ flK Z k, 0 ≤ x ∧ x ≤ 100000
  | 0, _, x, hx => by cases hx
  | k + 1, hk, x, hx => by
    rcases List.mem_append.1 hx with h1 | h1
    · exact flK_all h k (by omega) x h1
    · have hj := h.ok k (by omega)
      obtain ⟨f1, f2⟩ := (⟨hj.f1, hj.f2⟩ : 1 ≤ (Z.getD k zA).f ∧ (Z.getD k zA).f ≤ 1000)
      obtain ⟨t1, t2⟩ := (⟨hj.t1, hj.t2⟩ : 0 ≤ (Z.getD k zA).t ∧ (Z.getD k zA).t ≤ 100000)
      obtain ⟨r1, r2⟩ := (⟨hj.r1, hj.r2⟩ : 0 ≤ (Z.getD k zA).r ∧ (Z.getD k zA).r ≤ 1000)
      obtain ⟨c1, c2⟩ := (⟨hj.c1, hj.c2⟩ : 0 ≤ (Z.getD k zA).c ∧ (Z.getD k zA).c ≤ 100000)
      unfold jn at h1
      simp only [List.mem_cons, List.not_mem_nil, or_false] at h1
      rcases h1 with rfl | rfl | rfl | rfl <;> omega
theorem flK_ok {Z : List Ac} (h : JobsOk Z) : ltOk (flK Z Z.length) = true := by
  have n2 := h.n2
  unfold ltOk
  rw [Bool.and_eq_true, decide_eq_true_eq, flK_len]
  refine ⟨by omega, rngAll fun i hi => ?_⟩
  have := flK_all h Z.length (Nat.le_refl _) ((flK Z Z.length).getD i 0) (by rw [show (flK Z Z.length).getD i 0 = (flK Z Z.length)[i] by simp [List.getD, hi]]; exact List.getElem_mem _)
  generalize (flK Z Z.length).getD i 0 = x at this ⊢
  unfold inB
  simp
  omega
def jtD (Z : List Ac) : List UInt8 := if jobsB Z then txtL (flK Z Z.length) else []
theorem jtD_yes {Z : List Ac} (h : jobsB Z = true) : jtD Z = txtL (flK Z Z.length) ∧ ltD (flK Z Z.length) = txtL (flK Z Z.length) ∧ ltOk (flK Z Z.length) = true := by
  have := flK_ok (jobsB_ok h)
  exact ⟨by unfold jtD; rw [if_pos h], by unfold ltD; rw [if_pos this], this⟩
end Go.Proofs.YtdmlhjhhkiajaaaDoor
