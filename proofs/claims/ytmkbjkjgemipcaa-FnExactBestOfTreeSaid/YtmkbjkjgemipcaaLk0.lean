/- What one looks at in a tree (plain). -/
import Derived.Test.YtmkbjkjgemipcaaCh0
import Derived.Test.YtmkbjkjgemipcaaVl
namespace Go.Proofs.Ytmkbjkjgemipcaa
open Go.RowKit

/-- The children of an index, one after another, with low, high and what was looked at. -/
def lkL (g : Nat → Int → Int → Int → Int × Int) (ev : Bool) : List Int → Int → Int → Int → Int × Int × Int
  | [], lo, hi, z => (lo, hi, z)
  | x :: L, lo, hi, z =>
    if lo < hi then
      if ev then lkL g ev L (max lo (g x.toNat lo hi z).1) hi (g x.toNat lo hi z).2
      else lkL g ev L lo (min hi (g x.toNat lo hi z).1) (g x.toNat lo hi z).2
    else (lo, hi, z)
def lkF (P V : List Int) : Nat → Nat → Int → Int → Int → Int × Int
  | 0, _, _, _, z => (0, z)
  | f + 1, a, lo, hi, z =>
    if (chL P a).length = 0 then (V.getD a 0, Go.RowKit.wrap64 (z + 1))
    else ((if evB P a then (lkL (lkF P V f) (evB P a) (chL P a) lo hi z).1 else (lkL (lkF P V f) (evB P a) (chL P a) lo hi z).2.1), (lkL (lkF P V f) (evB P a) (chL P a) lo hi z).2.2)
theorem lkF_end {P V : List Int} {f a : Nat} {lo hi z : Int} (h : (chL P a).length = 0) : lkF P V (f + 1) a lo hi z = (V.getD a 0, Go.RowKit.wrap64 (z + 1)) := if_pos h
theorem lkF_in {P V : List Int} {f a : Nat} {lo hi z : Int} (h : ¬ (chL P a).length = 0) : lkF P V (f + 1) a lo hi z = ((if evB P a then (lkL (lkF P V f) (evB P a) (chL P a) lo hi z).1 else (lkL (lkF P V f) (evB P a) (chL P a) lo hi z).2.1), (lkL (lkF P V f) (evB P a) (chL P a) lo hi z).2.2) := if_neg h
theorem dropI {L : List Int} {k : Nat} (h : k < L.length) : L.drop k = L.getD k 0 :: L.drop (k + 1) := by
  rw [List.drop_eq_getElem_cons h]; simp [List.getD, h]
theorem lkL_end {g : Nat → Int → Int → Int → Int × Int} {ev : Bool} {L : List Int} {k : Nat} {lo hi z : Int} (h : k = L.length) : lkL g ev (L.drop k) lo hi z = (lo, hi, z) := by
  subst h; rw [List.drop_length]; rfl
theorem lkL_stop {g : Nat → Int → Int → Int → Int × Int} {ev : Bool} {L : List Int} {k : Nat} {lo hi z : Int} (h : ¬ lo < hi) : lkL g ev (L.drop k) lo hi z = (lo, hi, z) := by
  cases hd : L.drop k with
  | nil => rfl
  | cons x M => exact if_neg h
theorem lkL_even {g : Nat → Int → Int → Int → Int × Int} {L : List Int} {k c : Nat} {lo hi z : Int} (hk : k < L.length) (hc : L.getD k 0 = (c : Int)) (h : lo < hi) : lkL g true (L.drop k) lo hi z = lkL g true (L.drop (k + 1)) (max lo (g c lo hi z).1) hi (g c lo hi z).2 := by
  rw [dropI hk, hc]
  show (if lo < hi then (if true = true then _ else _) else _) = _
  rw [if_pos h, if_pos rfl, Int.toNat_natCast]
theorem lkL_odd {g : Nat → Int → Int → Int → Int × Int} {L : List Int} {k c : Nat} {lo hi z : Int} (hk : k < L.length) (hc : L.getD k 0 = (c : Int)) (h : lo < hi) : lkL g false (L.drop k) lo hi z = lkL g false (L.drop (k + 1)) lo (min hi (g c lo hi z).1) (g c lo hi z).2 := by
  rw [dropI hk, hc]
  show (if lo < hi then (if false = true then _ else _) else _) = _
  rw [if_pos h, if_neg (by decide), Int.toNat_natCast]
/-- A child lies behind its parent. -/
theorem chL_at {P : List Int} (hp : ∀ i, 0 < i → i < P.length → 0 ≤ P.getD i 0 ∧ P.getD i 0 < i) {a k : Nat} (hk : k < (chL P a).length) : ∃ c : Nat, (chL P a).getD k 0 = (c : Int) ∧ a < c ∧ c < P.length ∧ evB P c = !evB P a := by
  have hm : (chL P a).getD k 0 ∈ chL P a := by simp [List.getD, hk]
  unfold chL chN at hm
  rw [List.mem_map] at hm
  obtain ⟨c, hc, e⟩ := hm
  rw [List.mem_filter, List.mem_range] at hc
  obtain ⟨h1, h2⟩ := hc
  unfold isChild at h2
  simp only [Bool.and_eq_true, decide_eq_true_eq] at h2
  have := hp c h2.1 h1
  exact ⟨c, e.symm, by omega, h1, evB_step hp h2.1 h1 h2.2⟩
def lkI (P V : List Int) : Int := if treeB P V then (lkF P V P.length 0 (-2000000) 2000000 0).1 else 0
def lkN (P V : List Int) : Int := if treeB P V then (lkF P V P.length 0 (-2000000) 2000000 0).2 else 0
theorem lkI_no {P V : List Int} (h : treeB P V = false) : lkI P V = 0 := by unfold lkI; rw [h]; rfl
theorem lkN_no {P V : List Int} (h : treeB P V = false) : lkN P V = 0 := by unfold lkN; rw [h]; rfl
theorem lkI_yes {P V : List Int} (h : treeB P V = true) : lkI P V = (lkF P V P.length 0 (-2000000) 2000000 0).1 := by unfold lkI; rw [if_pos h]
theorem lkN_yes {P V : List Int} (h : treeB P V = true) : lkN P V = (lkF P V P.length 0 (-2000000) 2000000 0).2 := by unfold lkN; rw [if_pos h]
end Go.Proofs.Ytmkbjkjgemipcaa
