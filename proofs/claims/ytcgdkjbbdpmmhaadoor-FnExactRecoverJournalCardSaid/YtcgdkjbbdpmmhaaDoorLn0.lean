/- The lines of a text, each with its end, and the parts between marks (plain). -/
import Derived.Test.YtcgdkjbbdpmmhaaDoorCo0
namespace Go.Proofs.YtcgdkjbbdpmmhaaDoor
open Go

/-- What is told of the lines of a text. -/
def lins (l : List UInt8) : List (List UInt8) := ((spl l).take ((spl l).length - 1)).map (· ++ [10]) ++ (if (spl l).getD ((spl l).length - 1) [] = [] then [] else [(spl l).getD ((spl l).length - 1) []])
theorem lins_nil : lins [] = [] := by simp [lins, spl]
theorem lins_miss {l : List UInt8} (h : ∀ x ∈ l, x ≠ 10) (h0 : l ≠ []) : lins l = [l] := by
  unfold lins
  rw [spl_miss h]
  simp [h0]
theorem lins_hit {a : List UInt8} (b : List UInt8) (h : ∀ x ∈ a, x ≠ 10) : lins (a ++ 10 :: b) = (a ++ [10]) :: lins b := by
  unfold lins
  rw [spl_hit b h]
  obtain ⟨p, ps, e⟩ : ∃ p ps, spl b = p :: ps := by
    cases hb : spl b with
    | nil => exact absurd hb (spl_ne b)
    | cons p ps => exact ⟨p, ps, rfl⟩
  rw [e]
  simp
theorem lins_at {l : List UInt8} {i : Nat} (h : l[i]? = some 10) (h2 : ∀ k, k < i → l[k]? ≠ some 10) : lins l = l.take (i + 1) :: lins (l.drop (i + 1)) := by
  have e := list_at h
  have hi : i < l.length := (List.getElem?_eq_some_iff.1 h).1
  have e1 : l.take (i + 1) = l.take i ++ [10] := by
    rw [List.take_add_one, h]; rfl
  rw [e1]
  conv => lhs; rw [e]
  exact lins_hit _ (take_no h2)
theorem lins_no {l : List UInt8} (h : Lib.indexByte l 10 = -1) (h0 : l ≠ []) : lins l = [l] := by
  have hn := Lib.indexByte_none h
  exact lins_miss (fun x hx e => by
    obtain ⟨j, hj, rfl⟩ := List.getElem_of_mem hx
    exact hn j (by rw [List.getElem?_eq_getElem hj, e])) h0
theorem lins_yes {l : List UInt8} {i : Nat} (h : Lib.indexByte l 10 = (i : Int)) : lins l = l.take (i + 1) :: lins (l.drop (i + 1)) := by
  obtain ⟨h1, h2⟩ := Lib.indexByte_some h
  exact lins_at h1 h2
/-- What is behind the first blank of a line, and what is before it. -/
def aftL : List UInt8 → List UInt8
  | [] => []
  | c :: r => if c = 32 then r else aftL r
def befL : List UInt8 → List UInt8
  | [] => []
  | c :: r => if c = 32 then [] else c :: befL r
theorem befL_no : ∀ l : List UInt8, ∀ x ∈ befL l, x ≠ 32
  | [], x, h => by simp [befL] at h
  | c :: r, x, h => by
    unfold befL at h
    split at h
    · simp at h
    · rename_i hc
      rcases List.mem_cons.1 h with e | e
      · rw [e]; exact hc
      · exact befL_no r x e
theorem bef_aft : ∀ {l : List UInt8}, 32 ∈ l → l = befL l ++ 32 :: aftL l
  | [], h => by simp at h
  | c :: r, h => by
    unfold befL aftL
    by_cases hc : c = 32
    · rw [if_pos hc, if_pos hc, hc]; rfl
    · rw [if_neg hc, if_neg hc, List.cons_append]
      rcases List.mem_cons.1 h with e | e
      · exact absurd e.symm hc
      · rw [← bef_aft e]
theorem bef_of : ∀ {a : List UInt8} (b : List UInt8), (∀ x ∈ a, x ≠ 32) → befL (a ++ 32 :: b) = a ∧ aftL (a ++ 32 :: b) = b
  | [], b, _ => by simp [befL, aftL]
  | c :: r, b, h => by
    have hc := h c (by simp)
    rw [List.cons_append]
    unfold befL aftL
    rw [if_neg hc, if_neg hc]
    obtain ⟨h1, h2⟩ := bef_of (a := r) b (fun x hx => h x (by simp [hx]))
    rw [h1, h2]
    exact ⟨rfl, rfl⟩
theorem aft_none : ∀ {l : List UInt8}, ¬ 32 ∈ l → aftL l = [] ∧ befL l = l
  | [], _ => by simp [aftL, befL]
  | c :: r, h => by
    have hc : c ≠ 32 := fun e => h (by rw [e]; simp)
    have hr : ¬ 32 ∈ r := fun e => h (by simp [e])
    unfold aftL befL
    rw [if_neg hc, if_neg hc, (aft_none hr).1, (aft_none hr).2]
    exact ⟨rfl, rfl⟩
/-- The line of an entry. -/
def aftB (s : ByteArray) : ByteArray := bsOf (aftL s.data.toList)
theorem aftB_data (s : ByteArray) : (aftB s).data.toList = aftL s.data.toList := by simp [aftB, bsOf]
end Go.Proofs.YtcgdkjbbdpmmhaaDoor
