/- Different values of some letters (plain). -/
import Derived.Test.YtaghnkmcnomegaaOd0
namespace Go.Proofs.Ytaghnkmcnomegaa

/-- Has one of the first j of a list these digits? How many different ones are there? -/
def seenJ (Z : List Int) (M j a : Nat) : Bool := (List.range j).any fun i => ((Z.getD i 0).toNat &&& M) == a
def cntJ (Z : List Int) (M : Nat) : Nat → Nat
  | 0 => 0
  | j + 1 => cntJ Z M j + (if seenJ Z M j ((Z.getD j 0).toNat &&& M) then 0 else 1)
theorem seenJ_up (Z : List Int) (M j a : Nat) : seenJ Z M (j + 1) a = (seenJ Z M j a || ((Z.getD j 0).toNat &&& M) == a) := by
  unfold seenJ
  rw [List.range_succ, List.any_append]
  simp
theorem cntJ_le (Z : List Int) (M : Nat) : ∀ j, cntJ Z M j ≤ j
  | 0 => Nat.le_refl _
  | j + 1 => by
    have := cntJ_le Z M j
    unfold cntJ
    split <;> omega
theorem seenJ_app (Z Y : List Int) (M a : Nat) : ∀ j, j ≤ Z.length → seenJ (Z ++ Y) M j a = seenJ Z M j a
  | 0, _ => rfl
  | j + 1, h => by
    rw [seenJ_up, seenJ_up, seenJ_app Z Y M a j (by omega)]
    congr 3
    simp only [List.getD]
    rw [List.getElem?_append_left (by omega)]
theorem cntJ_app (Z Y : List Int) (M : Nat) : ∀ j, j ≤ Z.length → cntJ (Z ++ Y) M j = cntJ Z M j
  | 0, _ => rfl
  | j + 1, h => by
    have e : (Z ++ Y).getD j 0 = Z.getD j 0 := by
      simp only [List.getD]
      rw [List.getElem?_append_left (by omega)]
    show cntJ (Z ++ Y) M j + (if seenJ (Z ++ Y) M j (((Z ++ Y).getD j 0).toNat &&& M) then 0 else 1) = cntJ Z M j + (if seenJ Z M j ((Z.getD j 0).toNat &&& M) then 0 else 1)
    rw [cntJ_app Z Y M j (by omega), e, seenJ_app Z Y M _ j (by omega)]
/-- The same of the models below k. -/
def seenN (L : Nat) (C : List (List Int)) (M k a : Nat) : Bool := (List.range k).any fun n => modelB L C n && (n &&& M) == a
def cntN (L : Nat) (C : List (List Int)) (M : Nat) : Nat → Nat
  | 0 => 0
  | k + 1 => cntN L C M k + (if modelB L C k && !seenN L C M k (k &&& M) then 1 else 0)
theorem seenN_up (L : Nat) (C : List (List Int)) (M k a : Nat) : seenN L C M (k + 1) a = (seenN L C M k a || (modelB L C k && (k &&& M) == a)) := by
  unfold seenN
  rw [List.range_succ, List.any_append]
  simp
theorem cntN_le (L : Nat) (C : List (List Int)) (M : Nat) : ∀ k, cntN L C M k ≤ k
  | 0 => Nat.le_refl _
  | k + 1 => by
    have := cntN_le L C M k
    unfold cntN
    split <;> omega
/-- Which digits models below k have. -/
def seenR (L : Nat) (C : List (List Int)) (M N k : Nat) : List Bool := (List.range N).map fun a => seenN L C M k a
theorem seenR_len (L : Nat) (C : List (List Int)) (M N k : Nat) : (seenR L C M N k).length = N := by simp [seenR]
theorem seenR_at {L : Nat} {C : List (List Int)} {M N k a : Nat} (h : a < N) : (seenR L C M N k).getD a false = seenN L C M k a := by simp [seenR, List.getD, h]
theorem seenR_zero (L : Nat) (C : List (List Int)) (M N : Nat) : List.replicate N false = seenR L C M N 0 := by
  refine List.ext_getElem (by simp [seenR]) fun i h1 h2 => ?_
  rw [List.getElem_replicate]
  simp [seenR, seenN]
theorem seenR_set {L : Nat} {C : List (List Int)} {M N k : Nat} (hm : modelB L C k = true) : (seenR L C M N k).set (k &&& M) true = seenR L C M N (k + 1) := by
  refine List.ext_getElem (by simp [seenR]) fun i h1 h2 => ?_
  rw [List.getElem_set]
  simp only [seenR, List.getElem_map, List.getElem_range]
  rw [seenN_up, hm]
  by_cases h : k &&& M = i
  · rw [if_pos h, h]; simp
  · rw [if_neg h, beq_false_of_ne h]; simp
theorem seenR_no {L : Nat} {C : List (List Int)} {M N k : Nat} (hm : modelB L C k = false) : seenR L C M N k = seenR L C M N (k + 1) := by
  unfold seenR
  refine List.map_congr_left fun a _ => ?_
  rw [seenN_up, hm]; simp
theorem seenR_old {L : Nat} {C : List (List Int)} {M N k : Nat} (hs : seenN L C M k (k &&& M) = true) : seenR L C M N k = seenR L C M N (k + 1) := by
  unfold seenR
  refine List.map_congr_left fun a _ => ?_
  rw [seenN_up]
  by_cases h : k &&& M = a
  · subst h; rw [hs]; simp
  · rw [beq_false_of_ne h]; simp
end Go.Proofs.Ytaghnkmcnomegaa
