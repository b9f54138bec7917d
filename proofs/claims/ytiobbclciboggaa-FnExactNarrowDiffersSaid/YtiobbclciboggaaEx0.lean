/- Choices, one after another: what they are (plain). -/
import Derived.Test.YtiobbclciboggaaSz
import Derived.RowKit
namespace Go.Proofs.Ytiobbclciboggaa
open Go.RowKit

/-- The choices that begin with P and, behind it, one of D's things that fits. -/
def extsL (g : List Int → List (List Int)) (fits : List Int → Int → Bool) (P : List Int) : List Int → List (List Int)
  | [] => []
  | x :: D => (if fits P x then g (P ++ [x]) else []) ++ extsL g fits P D
/-- All choices that begin with P; f: how many lists are left. -/
def exts (fits : List Int → Int → Bool) (Ls : List (List Int)) : Nat → List Int → List (List Int)
  | 0, P => [P]
  | f + 1, P => extsL (exts fits Ls f) fits P (Ls.getD P.length [])
theorem dropE {D : List Int} {k : Nat} (h : k < D.length) : D.drop k = D.getD k 0 :: D.drop (k + 1) := by
  rw [List.drop_eq_getElem_cons h]; simp [List.getD, h]
theorem extsL_yes {g : List Int → List (List Int)} {fits : List Int → Int → Bool} {P D : List Int} {k : Nat} (hk : k < D.length) (h : fits P (D.getD k 0) = true) :
    extsL g fits P (D.drop k) = g (P ++ [D.getD k 0]) ++ extsL g fits P (D.drop (k + 1)) := by
  rw [dropE hk]
  show (if fits P (D.getD k 0) = true then _ else _) ++ _ = _
  rw [if_pos h]
theorem extsL_no {g : List Int → List (List Int)} {fits : List Int → Int → Bool} {P D : List Int} {k : Nat} (hk : k < D.length) (h : fits P (D.getD k 0) = false) :
    extsL g fits P (D.drop k) = extsL g fits P (D.drop (k + 1)) := by
  rw [dropE hk]
  show (if fits P (D.getD k 0) = true then _ else _) ++ _ = _
  rw [if_neg (by rw [h]; decide)]
  rfl
theorem extsL_end {g : List Int → List (List Int)} {fits : List Int → Int → Bool} {P D : List Int} {k : Nat} (hk : D.length ≤ k) : extsL g fits P (D.drop k) = [] := by
  rw [List.drop_eq_nil_of_le hk]; rfl
theorem exts_up (fits : List Int → Int → Bool) (Ls : List (List Int)) (f : Nat) (P : List Int) : exts fits Ls (f + 1) P = extsL (exts fits Ls f) fits P ((Ls.getD P.length []).drop 0) := by
  rw [List.drop_zero]; rfl
/-- P is a beginning of a choice: its things are of their lists. -/
structure Beg (Ls : List (List Int)) (P : List Int) : Prop where
  len : P.length ≤ Ls.length
  mem : ∀ i, i < P.length → P.getD i 0 ∈ Ls.getD i []
theorem Beg.nil (Ls : List (List Int)) : Beg Ls [] := ⟨Nat.zero_le _, fun i hi => by simp at hi⟩
theorem Beg.snoc {Ls : List (List Int)} {P : List Int} {x : Int} (h : Beg Ls P) (hl : P.length < Ls.length) (hx : x ∈ Ls.getD P.length []) : Beg Ls (P ++ [x]) := by
  refine ⟨by simp; omega, fun i hi => ?_⟩
  simp only [List.length_append, List.length_cons, List.length_nil] at hi
  by_cases e : i = P.length
  · subst e
    simpa [List.getD] using hx
  · have h1 := h.mem i (by omega)
    have e1 : (P ++ [x]).getD i 0 = P.getD i 0 := by
      simp only [List.getD, List.getElem?_append_left (show i < P.length by omega)]
    rw [e1]; exact h1
theorem getD_in {D : List Int} {k : Nat} (h : k < D.length) : D.getD k 0 ∈ D := by
  rw [show D.getD k 0 = D[k] by simp [List.getD, h]]
  exact List.getElem_mem _
mutual
theorem extsL_len {fits : List Int → Int → Bool} {Ls : List (List Int)} {n f : Nat} {P : List Int} (ih : ∀ Q : List Int, Q.length + f = n → ∀ C ∈ exts fits Ls f Q, C.length = n) (hP : P.length + 1 + f = n) : ∀ D, ∀ C ∈ extsL (exts fits Ls f) fits P D, C.length = n
  | [], C, h => by cases h
  | x :: D, C, h => by
    have h' : C ∈ (if fits P x then exts fits Ls f (P ++ [x]) else []) ++ extsL (exts fits Ls f) fits P D := h
    rcases List.mem_append.1 h' with h1 | h1
    · split at h1
      · exact ih _ (by simp; omega) C h1
      · cases h1
    · exact extsL_len ih hP D C h1
end
theorem exts_len {fits : List Int → Int → Bool} {Ls : List (List Int)} {n : Nat} : ∀ (f : Nat) (P : List Int), P.length + f = n → ∀ C ∈ exts fits Ls f P, C.length = n
  | 0, P, h, C, hC => by
    have : C = P := by simpa [exts] using hC
    rw [this]; omega
  | f + 1, P, h, C, hC => extsL_len (fun Q hQ C hC => exts_len f Q hQ C hC) (by omega) _ C hC
/-- The first one that was kept, or the first of some more. -/
def hdo (A : List (List Int)) (F : List Int) : List Int := if F = [] then A.headD [] else F
theorem hdo_nil (F : List Int) : hdo [] F = F := by
  unfold hdo
  split
  · rename_i h; rw [h]; rfl
  · rfl
theorem hdo_app {A B : List (List Int)} {F : List Int} (h : ∀ C ∈ A, C ≠ []) : hdo (A ++ B) F = hdo B (hdo A F) := by
  cases A with
  | nil => rw [hdo_nil]; rfl
  | cons a A =>
    have ha := h a (by simp)
    by_cases hF : F = []
    · subst hF
      show (if ([] : List Int) = [] then a else []) = (if (if ([] : List Int) = [] then a else []) = [] then _ else (if ([] : List Int) = [] then a else []))
      rw [if_pos rfl, if_neg ha]
    · show (if F = [] then _ else F) = (if (if F = [] then _ else F) = [] then _ else (if F = [] then _ else F))
      simp only [if_neg hF]
theorem hdo_one {P F : List Int} : hdo [P] F = if F = [] then P else F := rfl
/-- How many, as a 64-bit integer tells. -/
def cntW (A : List (List Int)) : Int := wrap64 (A.length : Nat)
theorem wrap_add (a b : Int) : wrap64 (wrap64 a + wrap64 b) = wrap64 (a + b) := by
  unfold wrap64
  omega
theorem wrap_addl (a b : Int) : wrap64 (wrap64 a + b) = wrap64 (a + b) := by
  unfold wrap64
  omega
end Go.Proofs.Ytiobbclciboggaa
