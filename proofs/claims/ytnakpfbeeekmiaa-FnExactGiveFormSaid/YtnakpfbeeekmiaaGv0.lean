/- Forms with given literals (plain). -/
import Derived.Test.YtnakpfbeeekmiaaVf
import Derived.Test.YtnakpfbeeekmiaaRst
import Derived.Test.YtnakpfbeeekmiaaFndI
namespace Go.Proofs.Ytnakpfbeeekmiaa

/-- One of a clause's literals is given. -/
def hasG (G c : List Int) : Bool := anyZ (inS G) c
/-- What is left of the first k clauses. -/
def gvK (G : List Int) (C : List (List Int)) : Nat → List (List Int)
  | 0 => []
  | k + 1 => if hasG G (C.getD k []) then gvK G C k else gvK G C k ++ [rst G (C.getD k [])]
theorem gvK_yes {G : List Int} {C : List (List Int)} {k : Nat} (h : hasG G (C.getD k []) = true) : gvK G C (k + 1) = gvK G C k := by rw [gvK, if_pos h]
theorem gvK_no {G : List Int} {C : List (List Int)} {k : Nat} (h : hasG G (C.getD k []) = false) : gvK G C (k + 1) = gvK G C k ++ [rst G (C.getD k [])] := by rw [gvK, h]; rfl
theorem gvK_few (G : List Int) (C : List (List Int)) : ∀ k, (gvK G C k).length ≤ k
  | 0 => Nat.le_refl _
  | k + 1 => by
    have := gvK_few G C k
    unfold gvK
    split
    · omega
    · simp; omega
theorem gvK_short {G : List Int} {C : List (List Int)} {m : Nat} (h : ∀ k, k < C.length → (C.getD k []).length ≤ m) : ∀ k, k ≤ C.length → ∀ i, i < (gvK G C k).length → ((gvK G C k).getD i []).length ≤ m
  | 0, _, i, hi => by simp [gvK] at hi
  | k + 1, hk, i, hi => by
    have ih := gvK_short (G := G) h k (by omega)
    cases q : hasG G (C.getD k []) with
    | true => rw [gvK_yes q] at hi ⊢; exact ih i hi
    | false =>
      rw [gvK_no q] at hi ⊢
      simp only [List.length_append, List.length_singleton] at hi
      by_cases e : i = (gvK G C k).length
      · have : (gvK G C k ++ [rst G (C.getD k [])]).getD i [] = rst G (C.getD k []) := by rw [e]; simp [List.getD]
        rw [this]; exact Nat.le_trans (rst_len _ _) (h k (by omega))
      · have : (gvK G C k ++ [rst G (C.getD k [])]).getD i [] = (gvK G C k).getD i [] := by simp [List.getD, List.getElem?_append_left (show i < (gvK G C k).length by omega)]
        rw [this]; exact ih i (by omega)
def givB (F : Fm) (G : List Int) : Bool := formB F && litsB F.letters G
def gvF (F : Fm) (G : List Int) : Fm := if givB F G then ⟨F.letters, gvK G F.cs F.cs.length⟩ else ⟨0, []⟩
theorem gvF_no {F : Fm} {G : List Int} (h : givB F G = false) : gvF F G = ⟨0, []⟩ := by unfold gvF; rw [h]; rfl
theorem gvF_yes {F : Fm} {G : List Int} (h : givB F G = true) : gvF F G = ⟨F.letters, gvK G F.cs F.cs.length⟩ := by unfold gvF; rw [if_pos h]
theorem tot_few10 {C : List (List Int)} (h : ∀ i, i < C.length → (C.getD i []).length ≤ 10) : ∀ k, k ≤ C.length → totAt C k ≤ 10 * k
  | 0, _ => Nat.le_refl _
  | k + 1, hk => by
    have ih := tot_few10 h k (by omega)
    have := h k (by omega)
    show totAt C k + (C.getD k []).length ≤ _
    omega
theorem cl_short {F : Fm} (h : FormOk F) : ∀ k, k < F.cs.length → (F.cs.getD k []).length ≤ 10 := fun k hk => by have := (h.cl k hk).len; have := h.n2; omega
theorem gvF_len (F : Fm) (G : List Int) : szL (gvF F G).cs ≤ 1048576 := by
  unfold gvF
  split
  · rename_i h
    unfold givB at h
    rw [Bool.and_eq_true] at h
    have hc := formB_ok h.1
    have h1 := gvK_few G F.cs F.cs.length
    have h2 := hc.few
    have h3 := tot_few10 (C := gvK G F.cs F.cs.length) (gvK_short (cl_short hc) _ (Nat.le_refl _)) _ (Nat.le_refl _)
    show szL (gvK G F.cs F.cs.length) ≤ _
    unfold szL
    omega
  · simp [szL, totAt]
theorem cl_range {n : Int} {c : List Int} (h : ClOk n c) : ∀ i, i < c.length → -10 ≤ c.getD i 0 ∧ c.getD i 0 ≤ 10 := fun i hi => by
  have h1 := h.a i hi
  have h2 := h.n2
  unfold ltr at h1
  split at h1 <;> omega
end Go.Proofs.Ytnakpfbeeekmiaa
