/- Rows of which the part behind r is new, and the part ahead of it old (plain). -/
import Derived.Test.YtdmlhjhhkiajaaaDoorSz
namespace Go.Proofs.YtdmlhjhhkiajaaaDoor

def mix (f g : Nat → Int) (n r : Nat) : List Int := (List.range n).map fun x => if r ≤ x then f x else g x
def allF (f : Nat → Int) (n : Nat) : List Int := (List.range n).map f
theorem mix_len (f g : Nat → Int) (n r : Nat) : (mix f g n r).length = n := by simp [mix]
theorem allF_len (f : Nat → Int) (n : Nat) : (allF f n).length = n := by simp [allF]
theorem mix_at {f g : Nat → Int} {n r x : Nat} (h : x < n) : (mix f g n r).getD x 0 = if r ≤ x then f x else g x := by simp [mix, List.getD, h]
theorem mix_old {f g : Nat → Int} {n r x : Nat} (h : x < n) (hr : x < r) : (mix f g n r).getD x 0 = g x := by rw [mix_at h, if_neg (by omega)]
theorem allF_at {f : Nat → Int} {n x : Nat} (h : x < n) : (allF f n).getD x 0 = f x := by simp [allF, List.getD, h]
theorem mix_start (f g : Nat → Int) (n : Nat) : mix f g n n = allF g n := by
  unfold mix allF
  refine List.map_congr_left fun x hx => ?_
  rw [if_neg (by have := List.mem_range.1 hx; omega)]
theorem mix_done {f g : Nat → Int} {n r : Nat} (h : ∀ x, x < r → f x = g x) : mix f g n r = allF f n := by
  unfold mix allF
  refine List.map_congr_left fun x _ => ?_
  split
  · rfl
  · exact (h x (by omega)).symm
theorem mix_set {f g : Nat → Int} {n r : Nat} : (mix f g n (r + 1)).set r (f r) = mix f g n r := by
  refine List.ext_getElem (by simp [mix]) fun i h1 h2 => ?_
  rw [List.getElem_set]
  simp only [mix, List.getElem_map, List.getElem_range]
  by_cases e : r = i
  · subst e; simp
  · rw [if_neg e]
    by_cases e2 : r ≤ i
    · rw [if_pos (by omega), if_pos e2]
    · rw [if_neg (by omega), if_neg e2]
theorem mix_up {f g : Nat → Int} {n r : Nat} : (mix f g n r).set r (g r) = mix f g n (r + 1) := by
  refine List.ext_getElem (by simp [mix]) fun i h1 h2 => ?_
  rw [List.getElem_set]
  simp only [mix, List.getElem_map, List.getElem_range]
  by_cases e : r = i
  · subst e; rw [if_pos rfl, if_neg (by omega)]
  · rw [if_neg e]
    by_cases e2 : r ≤ i
    · rw [if_pos e2, if_pos (by omega)]
    · rw [if_neg e2, if_neg (by omega)]
theorem mix_end {f g : Nat → Int} {n r : Nat} (h : n ≤ r) : mix f g n r = allF g n := by
  unfold mix allF
  refine List.map_congr_left fun x hx => ?_
  rw [if_neg (by have := List.mem_range.1 hx; omega)]
theorem mix_new {f g : Nat → Int} {n r x : Nat} (h : x < n) (hr : r ≤ x) : (mix f g n r).getD x 0 = f x := by rw [mix_at h, if_pos hr]
theorem rep_allF {f : Nat → Int} {n : Nat} {z : Int} (h : ∀ x, x < n → f x = z) : List.replicate n z = allF f n := by
  refine List.ext_getElem (by simp [allF]) fun i h1 h2 => ?_
  rw [List.length_replicate] at h1
  simp [allF, h i h1]
theorem allF_congr {f g : Nat → Int} {n : Nat} (h : ∀ x, x < n → f x = g x) : allF f n = allF g n := by
  unfold allF
  exact List.map_congr_left fun x hx => h x (List.mem_range.1 hx)
/-- The first row of ways to fill: one way to fill nothing. -/
theorem fill0 (S : List Int) (n : Nat) : (List.replicate (n + 1) (0 : Int)).set 0 1 = allF (fillW S 0) (n + 1) := by
  refine List.ext_getElem (by simp [allF]) fun i h1 h2 => ?_
  rw [List.getElem_set]
  simp only [allF, List.getElem_map, List.getElem_range, List.getElem_replicate, fillW]
  by_cases e : i = 0
  · subst e; simp
  · rw [if_neg (fun h => e h.symm), if_neg e]
theorem fill_yes {S : List Int} {i r s : Nat} (hs : S.getD i 0 = (s : Int)) (h : s ≤ r) : fillW S (i + 1) r = fillW S i r + fillW S i (r - s) := by
  show (if (S.getD i 0).toNat ≤ r then _ else _) = _
  rw [hs, Int.toNat_natCast, if_pos h]
theorem fill_no {S : List Int} {i r s : Nat} (hs : S.getD i 0 = (s : Int)) (h : r < s) : fillW S (i + 1) r = fillW S i r := by
  show (if (S.getD i 0).toNat ≤ r then _ else _) = _
  rw [hs, Int.toNat_natCast, if_neg (by omega)]
theorem best_yes {S G : List Int} {i r s : Nat} (hs : S.getD i 0 = (s : Int)) (h : s ≤ r) : bestG S G (i + 1) r = max (bestG S G i r) (bestG S G i (r - s) + G.getD i 0) := by
  show (if (S.getD i 0).toNat ≤ r then max (bestG S G i r) (bestG S G i (r - (S.getD i 0).toNat) + G.getD i 0) else _) = _
  rw [hs, Int.toNat_natCast, if_pos h]
theorem best_no {S G : List Int} {i r s : Nat} (hs : S.getD i 0 = (s : Int)) (h : r < s) : bestG S G (i + 1) r = bestG S G i r := by
  show (if (S.getD i 0).toNat ≤ r then _ else _) = _
  rw [hs, Int.toNat_natCast, if_neg (by omega)]
theorem nat_of {x : Int} (h : 0 ≤ x) : ∃ s : Nat, x = (s : Int) := ⟨x.toNat, by omega⟩
/-- The answers of WaysToFill. -/
def fillB (S : List Int) (r : Int) : Bool := sizesB S && inB r 0 1000
def fillI (S : List Int) (r : Int) : Int := if fillB S r then fillW S S.length r.toNat else 0
def gainL (S G : List Int) (r : Int) : List Int := if canB S G r then allF (bestG S G S.length) (r.toNat + 1) else []
theorem gainL_len {S G : List Int} {r : Int} : (gainL S G r).length ≤ 1048576 := by
  unfold gainL
  split
  · rename_i h
    have := (canB_ok h).r1
    rw [allF_len]; omega
  · simp
end Go.Proofs.YtdmlhjhhkiajaaaDoor
