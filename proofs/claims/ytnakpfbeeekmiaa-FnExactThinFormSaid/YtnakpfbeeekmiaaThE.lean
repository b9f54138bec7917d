/- Arrays of ten numbers: whether they differ; clauses as such (plain). -/
import Derived.Test.YtnakpfbeeekmiaaTen
import Derived.Test.YtnakpfbeeekmiaaThA
namespace Go.Proofs.Ytnakpfbeeekmiaa
open Go.RowKit Go.ChangeShapes Go.WideShapes

set_option maxHeartbeats 8000000 in
theorem run_eqTenG (y0 y1 y2 y3 y4 y5 y6 y7 y8 y9 z0 z1 z2 z3 z4 z5 z6 z7 z8 z9 : Int) (w : World) : (Op.equalIn 10000 115 (.agg #[.int .i64 y0, .int .i64 y1, .int .i64 y2, .int .i64 y3, .int .i64 y4, .int .i64 y5, .int .i64 y6, .int .i64 y7, .int .i64 y8, .int .i64 y9]) (.agg #[.int .i64 z0, .int .i64 z1, .int .i64 z2, .int .i64 z3, .int .i64 z4, .int .i64 z5, .int .i64 z6, .int .i64 z7, .int .i64 z8, .int .i64 z9])).run Try.prog w = .ok (decide ([y0, y1, y2, y3, y4, y5, y6, y7, y8, y9] = [z0, z1, z2, z3, z4, z5, z6, z7, z8, z9])) w := by
  obtain ⟨i0, hi, -, -, -⟩ := info_parts Try.infoI
  have uu := Try.underlying2
  have cc : Try.prog.cellsOf 2 = 1 := by kernel_rfl
  have aa := Try.isAgg2
  have zz := Try.sizeOf2
  rw [show (10000 : Nat) = 9999 + 1 from rfl, run_equalIn_array w 9999 _ _ Try.underlying115 hi, cc, show List.range 10 = [0, 1, 2, 3, 4, 5, 6, 7, 8, 9] from rfl]
  simp only [Op.eqItems]
  go_simp
  by_cases h0 : y0 = z0 <;> simp [h0]
  by_cases h1 : y1 = z1 <;> simp [h1]
  by_cases h2 : y2 = z2 <;> simp [h2]
  by_cases h3 : y3 = z3 <;> simp [h3]
  by_cases h4 : y4 = z4 <;> simp [h4]
  by_cases h5 : y5 = z5 <;> simp [h5]
  by_cases h6 : y6 = z6 <;> simp [h6]
  by_cases h7 : y7 = z7 <;> simp [h7]
  by_cases h8 : y8 = z8 <;> simp [h8]
  by_cases h9 : y9 = z9 <;> simp [h9]
def sameTen (y0 y1 y2 y3 y4 y5 y6 y7 y8 y9 z0 z1 z2 z3 z4 z5 z6 z7 z8 z9 : Int) : Bool := decide ([y0, y1, y2, y3, y4, y5, y6, y7, y8, y9] = [z0, z1, z2, z3, z4, z5, z6, z7, z8, z9])
theorem run_neqT (y0 y1 y2 y3 y4 y5 y6 y7 y8 y9 z0 z1 z2 z3 z4 z5 z6 z7 z8 z9 : Int) (w : World) : (binOp .neq 115 (.agg #[.int .i64 y0, .int .i64 y1, .int .i64 y2, .int .i64 y3, .int .i64 y4, .int .i64 y5, .int .i64 y6, .int .i64 y7, .int .i64 y8, .int .i64 y9]) (.agg #[.int .i64 z0, .int .i64 z1, .int .i64 z2, .int .i64 z3, .int .i64 z4, .int .i64 z5, .int .i64 z6, .int .i64 z7, .int .i64 z8, .int .i64 z9])).run Try.prog w = .ok (.bool (!sameTen y0 y1 y2 y3 y4 y5 y6 y7 y8 y9 z0 z1 z2 z3 z4 z5 z6 z7 z8 z9)) w := by
  rw [run_neq_struct, run_eqTenG]; rfl
theorem ten_at1 {P : List Int} {j : Nat} (h : j < P.length) : (ten P).getD j 0 = P.getD j 0 := by unfold ten; simp [List.getD, List.getElem?_append_left h]
theorem ten_at2 (P : List Int) : (ten P).getD P.length 0 = 0 := by unfold ten; simp [List.getD]
theorem cl_ne {n : Int} {P : List Int} (h : ClOk n P) {j : Nat} (hj : j < P.length) : P.getD j 0 ≠ 0 := fun e => by
  have h1 := h.a j hj
  rw [e] at h1
  unfold ltr at h1
  split at h1 <;> omega
theorem ten_len {m : Int} {P Q : List Int} (hQ : ClOk m Q) (h : ∀ j, j < 10 → (ten P).getD j 0 = (ten Q).getD j 0) : ¬ P.length < Q.length := fun hl => by
  have h1 := h P.length (by have := hQ.len; have := hQ.n2; omega)
  rw [ten_at2, ten_at1 hl] at h1
  exact cl_ne hQ hl h1.symm
theorem ten_eq {n m : Int} {P Q : List Int} (hP : ClOk n P) (hQ : ClOk m Q) (q p : Nat → Int) (hq : ∀ j, q j = (ten P).getD j 0) (hp : ∀ j, p j = (ten Q).getD j 0) : sameTen (q 0) (q 1) (q 2) (q 3) (q 4) (q 5) (q 6) (q 7) (q 8) (q 9) (p 0) (p 1) (p 2) (p 3) (p 4) (p 5) (p 6) (p 7) (p 8) (p 9) = decide (P = Q) := by
  unfold sameTen
  refine decide_eq_decide.2 ⟨fun h => ?_, fun h => ?_⟩
  · have hj : ∀ j, j < 10 → (ten P).getD j 0 = (ten Q).getD j 0 := fun j hj => by
      rw [← hq, ← hp]
      simp only [List.cons.injEq, and_true] at h
      obtain ⟨h0, h1, h2, h3, h4, h5, h6, h7, h8, h9⟩ := h
      match j, hj with
      | 0, _ => exact h0
      | 1, _ => exact h1
      | 2, _ => exact h2
      | 3, _ => exact h3
      | 4, _ => exact h4
      | 5, _ => exact h5
      | 6, _ => exact h6
      | 7, _ => exact h7
      | 8, _ => exact h8
      | 9, _ => exact h9
    have l1 := ten_len hQ hj
    have l2 := ten_len hP fun j h => (hj j h).symm
    refine List.ext_getElem (by omega) fun j a b => ?_
    have h3 := hj j (by have := hP.len; have := hP.n2; omega)
    rw [ten_at1 a, ten_at1 b] at h3
    simpa [List.getD, a, b] using h3
  · subst h
    simp only [hq, hp]
end Go.Proofs.Ytnakpfbeeekmiaa
