/- Packs taken by quotients: what they are (plain). -/
import Derived.Test.YtbaaocgdpgoggaaPb0
import Derived.Test.YtbaaocgdpgoggaaSoI
namespace Go.Proofs.Ytbaaocgdpgoggaa

/-- The things that are taken, in the order of a list, with so much room left. -/
def gpT (S : List Int) : List Nat → Nat → List Nat
  | [], _ => []
  | i :: Y, l => if l < szN S i then gpT S Y l else i :: gpT S Y (l - szN S i)
def gpG (S G : List Int) : List Nat → Nat → Nat
  | [], _ => 0
  | i :: Y, l => if l < szN S i then gpG S G Y l else szN G i + gpG S G Y (l - szN S i)
theorem gpT_sub (S : List Int) : ∀ (Y : List Nat) (l : Nat), (gpT S Y l).Sublist Y
  | [], _ => List.Sublist.slnil
  | i :: Y, l => by
    unfold gpT
    split
    · exact (gpT_sub S Y l).cons i
    · exact (gpT_sub S Y _).cons_cons i
theorem gpT_end {S : List Int} {Y : List Nat} {k l : Nat} (h : k = Y.length) : gpT S (Y.drop k) l = [] := by subst h; rw [List.drop_length]; rfl
theorem gpG_end {S G : List Int} {Y : List Nat} {k l : Nat} (h : k = Y.length) : gpG S G (Y.drop k) l = 0 := by subst h; rw [List.drop_length]; rfl
theorem gpT_no {S : List Int} {Y : List Nat} {k l : Nat} (h : k < Y.length) (hl : l < szN S (Y.getD k 0)) : gpT S (Y.drop k) l = gpT S (Y.drop (k + 1)) l := by
  rw [drop_cons h]; exact if_pos hl
theorem gpT_yes {S : List Int} {Y : List Nat} {k l : Nat} (h : k < Y.length) (hl : ¬ l < szN S (Y.getD k 0)) : gpT S (Y.drop k) l = Y.getD k 0 :: gpT S (Y.drop (k + 1)) (l - szN S (Y.getD k 0)) := by
  rw [drop_cons h]; exact if_neg hl
theorem gpG_no {S G : List Int} {Y : List Nat} {k l : Nat} (h : k < Y.length) (hl : l < szN S (Y.getD k 0)) : gpG S G (Y.drop k) l = gpG S G (Y.drop (k + 1)) l := by
  rw [drop_cons h]; exact if_pos hl
theorem gpG_yes {S G : List Int} {Y : List Nat} {k l : Nat} (h : k < Y.length) (hl : ¬ l < szN S (Y.getD k 0)) : gpG S G (Y.drop k) l = szN G (Y.getD k 0) + gpG S G (Y.drop (k + 1)) (l - szN S (Y.getD k 0)) := by
  rw [drop_cons h]; exact if_neg hl
/-- What the pack holds, in the order of the quotients. -/
def gpP (S G : List Int) (r : Nat) : List Nat := gpT S (thO S G) r
theorem thO_perm (S G : List Int) : (thO S G).Perm (List.range S.length) := insS_perm _ _ _ (Nat.le_refl _)
theorem gpP_nodup (S G : List Int) (r : Nat) : (gpP S G r).Nodup := (gpT_sub S _ _).nodup ((thO_perm S G).nodup_iff.2 List.nodup_range)
theorem gpP_lt {S G : List Int} {r x : Nat} (h : x ∈ gpP S G r) : x < S.length := List.mem_range.1 ((thO_perm S G).mem_iff.1 ((gpT_sub S _ _).subset h))
theorem gpP_len (S G : List Int) (r : Nat) : (gpP S G r).length ≤ S.length := by have := (gpT_sub S (thO S G) r).length_le; rw [thO_len] at this; exact this
/-- The first i indices that the pack holds, in ascending order. -/
def gpF (S G : List Int) (r i : Nat) : List Int := intsN ((List.range i).filter fun x => decide (x ∈ gpP S G r))
theorem gpF_yes {S G : List Int} {r i : Nat} (h : i ∈ gpP S G r) : gpF S G r (i + 1) = gpF S G r i ++ [(i : Int)] := by
  unfold gpF intsN; rw [List.range_succ, List.filter_append, List.map_append]; simp [h]
theorem gpF_no {S G : List Int} {r i : Nat} (h : ¬ i ∈ gpP S G r) : gpF S G r (i + 1) = gpF S G r i := by
  unfold gpF intsN; rw [List.range_succ, List.filter_append, List.map_append]; simp [h]
theorem gpF_len (S G : List Int) (r i : Nat) : (gpF S G r i).length ≤ i := by
  unfold gpF
  rw [intsN_len]
  exact Nat.le_trans (List.length_filter_le _ _) (by simp)
theorem sort_filter (S G : List Int) (r : Nat) : sortL (intsN (gpP S G r)) = gpF S G r S.length := by
  have hp : ((List.range S.length).filter fun x => decide (x ∈ gpP S G r)).Perm (gpP S G r) := by
    refine (List.perm_ext_iff_of_nodup (List.nodup_range.sublist List.filter_sublist) (gpP_nodup S G r)).2 fun x => ?_
    rw [List.mem_filter, List.mem_range]
    constructor
    · rintro ⟨_, h⟩; simpa using h
    · intro h; exact ⟨gpP_lt h, by simpa using h⟩
  refine List.Perm.eq_of_pairwise (le := fun x y : Int => x ≤ y) (fun a b _ _ h1 h2 => Int.le_antisymm h1 h2) ?_ ?_ ?_
  · have := List.pairwise_mergeSort (le := fun x y : Int => decide (x ≤ y)) (fun a b c h1 h2 => by simp at *; omega) (fun a b => by simp; omega) (intsN (gpP S G r))
    exact this.imp fun h => by simpa using h
  · unfold gpF intsN
    rw [List.pairwise_map]
    exact ((List.pairwise_lt_range (n := S.length)).sublist List.filter_sublist).imp fun h => by omega
  · exact (sortL_perm _).trans (hp.map _).symm
def gpA (S G : List Int) (r : Int) : List Int := if canB S G r then gpF S G r.toNat S.length else []
def gpI (S G : List Int) (r : Int) : Int := if canB S G r then (gpG S G (thO S G) r.toNat : Nat) else 0
theorem gpA_no {S G : List Int} {r : Int} (h : canB S G r = false) : gpA S G r = [] := by unfold gpA; rw [h]; rfl
theorem gpI_no {S G : List Int} {r : Int} (h : canB S G r = false) : gpI S G r = 0 := by unfold gpI; rw [h]; rfl
theorem gpA_yes {S G : List Int} {r : Nat} (h : canB S G r = true) : gpA S G r = gpF S G r S.length := by unfold gpA; rw [if_pos h, Int.toNat_natCast]
theorem gpI_yes {S G : List Int} {r : Nat} (h : canB S G r = true) : gpI S G r = (gpG S G (thO S G) r : Nat) := by unfold gpI; rw [if_pos h, Int.toNat_natCast]
theorem gpA_len (S G : List Int) (r : Int) : (gpA S G r).length ≤ 1048576 := by
  unfold gpA
  split
  · rename_i h
    have := (canB_ok h).s.l2
    have := gpF_len S G r.toNat S.length
    omega
  · simp
theorem intsN_app (A : List Nat) (x : Nat) : intsN (A ++ [x]) = intsN A ++ [(x : Int)] := by simp [intsN]
end Go.Proofs.Ytbaaocgdpgoggaa
