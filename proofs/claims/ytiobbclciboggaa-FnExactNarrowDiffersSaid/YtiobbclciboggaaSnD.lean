/- Which numbers of domains are in a choice, as a model marks them. -/
import Derived.Test.YtiobbclciboggaaFst
import Derived.Test.YtiobbclciboggaaLs
namespace Go.Proofs.Ytiobbclciboggaa
open Go.RowKit Go.ChangeShapes Go.WideShapes

def atD (Ds : List (List Int)) (a b : Nat) : Int := (Ds.getD a []).getD b 0
/-- Marks, and those of a choice, ahead of place (i, k). -/
def mkD (Ds : List (List Int)) (C : List Int) (M : Nat → Nat → Bool) (i k : Nat) : Nat → Nat → Bool := fun a b => M a b || ((decide (a < i) || (decide (a = i) && decide (b < k))) && decide (atD Ds a b = C.getD a 0))
/-- Marks, and those of choices. -/
def seenX (Ds : List (List Int)) (M : Nat → Nat → Bool) (X : List (List Int)) : Nat → Nat → Bool := fun a b => M a b || X.any fun C => decide (atD Ds a b = C.getD a 0)
theorem seenX_nil (Ds : List (List Int)) (M : Nat → Nat → Bool) : seenX Ds M [] = M := by funext a b; simp [seenX]
theorem seenX_app (Ds : List (List Int)) (M : Nat → Nat → Bool) (X Y : List (List Int)) : seenX Ds M (X ++ Y) = seenX Ds (seenX Ds M X) Y := by
  funext a b; simp only [seenX, List.any_append, Bool.or_assoc]
theorem mkD_zero (Ds : List (List Int)) (C : List Int) (M : Nat → Nat → Bool) : mkD Ds C M 0 0 = M := by funext a b; simp [mkD]
/-- Where the marks lie. -/
structure Seen (lo p B : Nat) (G : Nat → Nat) (Ds : List (List Int)) (M : Nat → Nat → Bool) (w : World) : Prop where
  row : ∀ i, i < Ds.length → w.cell? ⟨B, i, none⟩ = some (.slice (some ⟨G i, 0, none⟩) (Ds.getD i []).length (Ds.getD i []).length)
  cell : ∀ i, i < Ds.length → ∀ k, k < (Ds.getD i []).length → w.cell? ⟨G i, k, none⟩ = some (.bool (M i k))
  free : ∀ i, i < Ds.length → ∀ k, w.frozen? ⟨G i, k, none⟩ = false
  glt : ∀ i, i < Ds.length → G i < w.heap.size
  b1 : lo ≤ B
  b2 : B < p
  g1 : ∀ i, i < Ds.length → lo ≤ G i
  g2 : ∀ i, i < Ds.length → G i < p
  ne : ∀ i, i < Ds.length → G i ≠ B
  inj : ∀ i j, i < Ds.length → j < Ds.length → i ≠ j → G i ≠ G j
theorem Seen.keep {lo p B : Nat} {G : Nat → Nat} {Ds : List (List Int)} {M : Nat → Nat → Bool} {w w' : World} (h : Seen lo p B G Ds M w) (hb : ∀ k, k < w.heap.size → k < p → w'.heap[k]? = w.heap[k]?) (hs : w.heap.size ≤ w'.heap.size) : Seen lo p B G Ds M w' := by
  refine ⟨fun i hi => ?_, fun i hi k hk => ?_, fun i hi k => ?_, fun i hi => Nat.lt_of_lt_of_le (h.glt i hi) hs, h.b1, h.b2, h.g1, h.g2, h.ne, h.inj⟩
  · rw [World.cell?_of_block (w := w) (a := ⟨B, i, none⟩) (hb B (cell_block (h.row i hi)) h.b2)]; exact h.row i hi
  · rw [World.cell?_of_block (w := w) (a := ⟨G i, k, none⟩) (hb (G i) (h.glt i hi) (h.g2 i hi))]; exact h.cell i hi k hk
  · rw [World.frozen?_of_block (w := w) (a := ⟨G i, k, none⟩) (hb (G i) (h.glt i hi) (h.g2 i hi))]; exact h.free i hi k
theorem Seen.below {lo p B : Nat} {G : Nat → Nat} {Ds : List (List Int)} {M : Nat → Nat → Bool} {w w' : World} (h : Seen lo p B G Ds M w) (hb : Below w.heap.size w w') : Seen lo p B G Ds M w' := h.keep (fun k hk _ => hb.block k hk) hb.size
theorem Seen.put {lo p B : Nat} {G : Nat → Nat} {Ds : List (List Int)} {M : Nat → Nat → Bool} {w : World} (h : Seen lo p B G Ds M w) (u : Value) : Seen lo p B G Ds M (w.setCell ⟨p, 0, none⟩ u) :=
  h.keep (fun k _ hp => Below.heap_setCell _ _ _ _ (by show k ≠ p; omega)) (by simp [World.setCell])
theorem Seen.congr {lo p B : Nat} {G : Nat → Nat} {Ds : List (List Int)} {M M' : Nat → Nat → Bool} {w : World} (h : Seen lo p B G Ds M w) (e : ∀ i, i < Ds.length → ∀ k, k < (Ds.getD i []).length → M i k = M' i k) : Seen lo p B G Ds M' w :=
  ⟨h.row, fun i hi k hk => by rw [← e i hi k hk]; exact h.cell i hi k hk, h.free, h.glt, h.b1, h.b2, h.g1, h.g2, h.ne, h.inj⟩
theorem Seen.set {lo p B : Nat} {G : Nat → Nat} {Ds : List (List Int)} {M : Nat → Nat → Bool} {w : World} (h : Seen lo p B G Ds M w) {i k : Nat} (hi : i < Ds.length) (hk : k < (Ds.getD i []).length) :
    Seen lo p B G Ds (fun a b => M a b || (decide (a = i) && decide (b = k))) (w.setCell ⟨G i, k, none⟩ (.bool true)) := by
  refine ⟨fun j hj => ?_, fun j hj l hl => ?_, fun j hj l => by rw [World.frozen?_setCell]; exact h.free j hj l, fun j hj => by simp [World.setCell]; exact h.glt j hj, h.b1, h.b2, h.g1, h.g2, h.ne, h.inj⟩
  · rw [World.cell?_setCell_other _ _ _ _ (by intro q; injection q with q _ _; exact h.ne i hi q)]; exact h.row j hj
  · by_cases e : j = i
    · subst e
      by_cases e2 : l = k
      · subst e2
        rw [World.cell?_setCell_same _ _ _ (h.cell j hj l hl)]; simp
      · rw [World.cell?_setCell_other _ _ _ _ (by intro q; injection q with _ q _; exact e2 q.symm), h.cell j hj l hl]; simp [e2]
    · rw [World.cell?_setCell_other _ _ _ _ (by intro q; injection q with q _ _; exact h.inj i j hi hj (fun x => e x.symm) q), h.cell j hj l hl]; simp [e]
theorem mkD_yes {Ds : List (List Int)} {C : List Int} {M : Nat → Nat → Bool} {i k : Nat} (h : atD Ds i k = C.getD i 0) : (fun a b => mkD Ds C M i k a b || (decide (a = i) && decide (b = k))) = mkD Ds C M i (k + 1) := by
  funext a b
  unfold mkD
  by_cases e : a = i
  · subst e
    by_cases e2 : b = k
    · subst e2
      simp [h]
    · have : decide (b < k + 1) = decide (b < k) := by rw [decide_eq_decide]; omega
      simp [e2, this]
  · simp [e]
theorem mkD_no {Ds : List (List Int)} {C : List Int} {M : Nat → Nat → Bool} {i k : Nat} (h : ¬ atD Ds i k = C.getD i 0) : mkD Ds C M i k = mkD Ds C M i (k + 1) := by
  funext a b
  unfold mkD
  by_cases e : a = i
  · subst e
    by_cases e2 : b = k
    · subst e2
      rw [decide_eq_false h]
      simp
    · have : decide (b < k + 1) = decide (b < k) := by rw [decide_eq_decide]; omega
      simp [this]
  · simp [e]
theorem mkD_row {Ds : List (List Int)} {C : List Int} {M : Nat → Nat → Bool} {i : Nat} : ∀ a, a < Ds.length → ∀ b, b < (Ds.getD a []).length → mkD Ds C M i (Ds.getD i []).length a b = mkD Ds C M (i + 1) 0 a b := by
  intro a _ b hb
  unfold mkD
  by_cases e : a = i
  · subst e
    rw [decide_eq_true hb]
    simp
  · have : decide (a < i + 1) = decide (a < i) := by rw [decide_eq_decide]; omega
    simp [e, this]
theorem mkD_end {Ds : List (List Int)} {C : List Int} {M : Nat → Nat → Bool} : ∀ a, a < Ds.length → ∀ b, b < (Ds.getD a []).length → mkD Ds C M Ds.length 0 a b = seenX Ds M [C] a b := by
  intro a ha b _
  simp [mkD, seenX, ha]
end Go.Proofs.Ytiobbclciboggaa
