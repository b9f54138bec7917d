/- Faults in a room: what is in it (plain). -/
import Derived.Test.YtiobbclciboggaaFs0
namespace Go.Proofs.Ytiobbclciboggaa
open Go.RowKit

/-- x goes out before y, by what is still to come. -/
def ltF (rest : List Nat) (x y : Nat) : Bool := decide (rest.idxOf y < rest.idxOf x) || (decide (rest.idxOf x = rest.idxOf y) && decide (x < y))
/-- When x is asked for again, from i on. -/
def agM (Q : List Nat) (i x : Nat) : Nat := if (Q.drop i).idxOf x < (Q.drop i).length then i + (Q.drop i).idxOf x else 64
theorem idx_next {Q : List Nat} {i x : Nat} (hi : i < Q.length) (hx : Q.getD i 0 ≠ x) : (Q.drop i).idxOf x = (Q.drop (i + 1)).idxOf x + 1 := by
  rw [List.drop_eq_getElem_cons hi, List.idxOf_cons]
  have e : Q[i] = Q.getD i 0 := by simp [List.getD, hi]
  have : (Q[i] == x) = false := by rw [e]; simpa using hx
  rw [this]; rfl
theorem agM_is {Q : List Nat} {i x : Nat} (hi : i < Q.length) (hx : Q.getD i 0 ≠ x) : agM Q i x = if (Q.drop (i + 1)).idxOf x < (Q.drop (i + 1)).length then i + 1 + (Q.drop (i + 1)).idxOf x else 64 := by
  unfold agM
  rw [idx_next hi hx]
  have l : (Q.drop i).length = (Q.drop (i + 1)).length + 1 := by simp; omega
  rw [l]
  by_cases h : (Q.drop (i + 1)).idxOf x < (Q.drop (i + 1)).length
  · rw [if_pos (by omega), if_pos h]; omega
  · rw [if_neg (by omega), if_neg h]
/-- The model's test says the same. -/
theorem ltF_model {Q : List Nat} {i x y : Nat} (hq : Q.length ≤ 64) (hi : i < Q.length) (hx : Q.getD i 0 ≠ x) (hy : Q.getD i 0 ≠ y) :
    (decide (agM Q i x > agM Q i y) || (decide (agM Q i x = agM Q i y) && decide (x < y))) = ltF (Q.drop (i + 1)) x y := by
  rw [agM_is hi hx, agM_is hi hy]
  have l : (Q.drop (i + 1)).length = Q.length - (i + 1) := by simp
  have bx : (Q.drop (i + 1)).idxOf x ≤ (Q.drop (i + 1)).length := List.idxOf_le_length
  have b_y : (Q.drop (i + 1)).idxOf y ≤ (Q.drop (i + 1)).length := List.idxOf_le_length
  unfold ltF
  generalize (Q.drop (i + 1)).idxOf x = p at *
  generalize (Q.drop (i + 1)).idxOf y = q at *
  generalize (Q.drop (i + 1)).length = n at *
  have h1 : decide ((if p < n then i + 1 + p else 64) > (if q < n then i + 1 + q else 64)) = decide (q < p) := by
    rw [decide_eq_decide]; split <;> split <;> omega
  have h2 : decide ((if p < n then i + 1 + p else 64) = (if q < n then i + 1 + q else 64)) = decide (p = q) := by
    rw [decide_eq_decide]; split <;> split <;> omega
  rw [h1, h2]
/-- Which place goes out. -/
def outI (rule : Int) (rest Y : List Nat) : Nat := if rule = 2 then mxI (ltF rest) Y Y.length else 0
def fsStep (r : Nat) (rule : Int) (rest : List Nat) (x : Nat) (p : List Nat × Nat) : List Nat × Nat :=
  if x ∈ p.1 then (if rule = 1 then (p.1.filter fun z => !(z == x)) ++ [x] else p.1, p.2)
  else ((if p.1.length = r then p.1.filter fun z => !(z == p.1.getD (outI rule rest p.1) 0) else p.1) ++ [x], p.2 + 1)
/-- Those in the room, and how many faults, behind i asks. -/
def fsS (Q : List Nat) (r : Nat) (rule : Int) : Nat → List Nat × Nat
  | 0 => ([], 0)
  | i + 1 => fsStep r rule (Q.drop (i + 1)) (Q.getD i 0) (fsS Q r rule i)
structure FsOk (Q : List Nat) (r i : Nat) (p : List Nat × Nat) : Prop where
  nd : p.1.Nodup
  len : p.1.length ≤ r
  sub : ∀ y ∈ p.1, y ∈ Q
  few : p.2 ≤ i
theorem outI_lt {rule : Int} {rest Y : List Nat} (h : 0 < Y.length) : outI rule rest Y < Y.length := by
  unfold outI
  split
  · obtain ⟨k, hk⟩ : ∃ k, Y.length = k + 1 := ⟨Y.length - 1, by omega⟩
    rw [hk]; exact mxI_lt _ _ k
  · exact h
theorem filter_lt {Y : List Nat} (nd : Y.Nodup) {i : Nat} (hi : i < Y.length) : (Y.filter fun z => !(z == Y.getD i 0)).length = Y.length - 1 := by
  rw [← erase_filter nd i hi, List.length_append, List.length_take, List.length_drop]; omega
theorem fsStep_ok {Q rest : List Nat} {r i x : Nat} {rule : Int} {p : List Nat × Nat} (hr : 1 ≤ r) (h : FsOk Q r i p) (hx : x ∈ Q) : FsOk Q r (i + 1) (fsStep r rule rest x p) := by
  obtain ⟨Y, f⟩ := p
  obtain ⟨nd, len, sub, few⟩ := h
  dsimp only at nd len sub few
  have add : ∀ L : List Nat, L.Sublist Y → x ∉ L → L.length + 1 ≤ r → ∀ g, g ≤ i + 1 → FsOk Q r (i + 1) (L ++ [x], g) := fun L hs hn hl g hg => by
    refine ⟨?_, by simpa using hl, fun y hy => ?_, hg⟩
    · show (L ++ [x]).Nodup
      rw [List.nodup_append]
      refine ⟨nd.sublist hs, by simp, fun a ha b hb e => ?_⟩
      rw [List.mem_singleton] at hb
      subst hb
      exact hn (e ▸ ha)
    · have hy : y ∈ L ++ [x] := hy
      rcases List.mem_append.1 hy with h1 | h1
      · exact sub y (hs.subset h1)
      · rw [List.mem_singleton] at h1; rw [h1]; exact hx
  unfold fsStep
  dsimp only
  by_cases hm : x ∈ Y
  · rw [if_pos hm]
    split
    · have hl : (Y.filter fun z => !(z == x)).length < Y.length := by
        obtain ⟨k, hk, e⟩ := List.getElem_of_mem hm
        have e2 : Y.getD k 0 = x := by simp [List.getD, hk, e]
        have := filter_lt nd hk
        rw [e2] at this
        omega
      exact add _ List.filter_sublist (by simp) (by omega) f (by omega)
    · exact ⟨nd, len, sub, by show f ≤ i + 1; omega⟩
  · rw [if_neg hm]
    split
    · rename_i hl
      have h0 : 0 < Y.length := by omega
      have := filter_lt nd (outI_lt (rule := rule) (rest := rest) h0)
      exact add _ List.filter_sublist (fun q => hm (List.mem_filter.1 q).1) (by omega) (f + 1) (by omega)
    · exact add Y (List.Sublist.refl _) hm (by omega) (f + 1) (by omega)
theorem fsS_ok {Q : List Nat} {r : Nat} {rule : Int} (hr : 1 ≤ r) : ∀ i, i ≤ Q.length → FsOk Q r i (fsS Q r rule i)
  | 0, _ => ⟨List.nodup_nil, Nat.zero_le _, fun y h => absurd h (List.not_mem_nil), Nat.le_refl _⟩
  | i + 1, hi => fsStep_ok hr (fsS_ok hr i (by omega)) (by rw [show Q.getD i 0 = Q[i] by simp [List.getD, (show i < Q.length by omega)]]; exact List.getElem_mem _)
end Go.Proofs.Ytiobbclciboggaa
