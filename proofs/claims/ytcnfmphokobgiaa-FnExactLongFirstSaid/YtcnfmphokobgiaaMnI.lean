/- The least and the greatest of a list of integers, and where the least is: the library's functions. -/
import Derived.Test.YtcnfmphokobgiaaIdxP
import Derived.Test.YtcnfmphokobgiaaMaxP
import Derived.Test.YtcnfmphokobgiaaMinP
import Derived.Test.YtcnfmphokobgiaaLp0
import Derived.Test.YtcnfmphokobgiaaArr
namespace Go.Proofs.Ytcnfmphokobgiaa
open Go.RowKit Go.ChangeShapes Go.WideShapes

theorem fmin_all : ∀ (l : List Int) (a : Int), l.foldl min a ≤ a ∧ (∀ z ∈ l, l.foldl min a ≤ z) ∧ (l.foldl min a = a ∨ l.foldl min a ∈ l)
  | [], a => ⟨Int.le_refl _, (fun z hz => by cases hz), Or.inl rfl⟩
  | x :: l, a => by
    obtain ⟨h1, h2, h3⟩ := fmin_all l (min a x)
    refine ⟨by show l.foldl min (min a x) ≤ a; omega, fun z hz => ?_, ?_⟩
    · show l.foldl min (min a x) ≤ z
      rcases List.mem_cons.1 hz with rfl | hz
      · omega
      · exact h2 z hz
    · show l.foldl min (min a x) = a ∨ l.foldl min (min a x) ∈ x :: l
      rcases h3 with h3 | h3
      · by_cases c : a ≤ x
        · exact Or.inl (by omega)
        · exact Or.inr (by rw [h3, show min a x = x by omega]; exact List.mem_cons_self)
      · exact Or.inr (List.mem_cons_of_mem _ h3)
theorem fmax_all : ∀ (l : List Int) (a : Int), a ≤ l.foldl max a ∧ (∀ z ∈ l, z ≤ l.foldl max a) ∧ (l.foldl max a = a ∨ l.foldl max a ∈ l)
  | [], a => ⟨Int.le_refl _, (fun z hz => by cases hz), Or.inl rfl⟩
  | x :: l, a => by
    obtain ⟨h1, h2, h3⟩ := fmax_all l (max a x)
    refine ⟨by show a ≤ l.foldl max (max a x); omega, fun z hz => ?_, ?_⟩
    · show z ≤ l.foldl max (max a x)
      rcases List.mem_cons.1 hz with rfl | hz
      · omega
      · exact h2 z hz
    · show l.foldl max (max a x) = a ∨ l.foldl max (max a x) ∈ x :: l
      rcases h3 with h3 | h3
      · by_cases c : x ≤ a
        · exact Or.inl (by omega)
        · exact Or.inr (by rw [h3, show max a x = x by omega]; exact List.mem_cons_self)
      · exact Or.inr (List.mem_cons_of_mem _ h3)
theorem getD_inI {F : List Int} {i : Nat} (h : i < F.length) : F.getD i 0 ∈ F := by
  have e : F.getD i 0 = F[i] := by simp [List.getD, h]
  rw [e]; exact List.getElem_mem h
theorem head_inI {F : List Int} (h : 1 ≤ F.length) : F.headD 0 ∈ F := by
  cases F with
  | nil => simp at h
  | cons x l => exact List.mem_cons_self
theorem minOf_amin {F : List Int} {m : Nat} (hl : F.length = m) (hm : 1 ≤ m) : Lib.minOf F = F.getD (aminF F m) 0 := by
  obtain ⟨h1, h2, h3⟩ := fmin_all F (F.headD 0)
  have ha := aminF_in F hm
  have u := h2 _ (getD_inI (F := F) (i := aminF F m) (by omega))
  have hm2 : Lib.minOf F ∈ F := by
    rcases h3 with h3 | h3
    · show F.foldl min (F.headD 0) ∈ F
      rw [h3]; exact head_inI (by omega)
    · exact h3
  obtain ⟨j, hj, e⟩ := List.getElem_of_mem hm2
  have l := aminF_le F m j (by omega)
  rw [show F.getD j 0 = F[j] by simp [List.getD, hj], e] at l
  have u2 : Lib.minOf F ≤ F.getD (aminF F m) 0 := u
  omega
theorem maxOf_is {F : List Int} {m : Nat} {x : Int} (hl : F.length = m) (hm : 1 ≤ m) (h : (∀ i, i < m → F.getD i 0 ≤ x) ∧ ∃ i, i < m ∧ F.getD i 0 = x) : Lib.maxOf F = x := by
  obtain ⟨h1, h2, h3⟩ := fmax_all F (F.headD 0)
  obtain ⟨ha, i, hi, he⟩ := h
  have u := h2 _ (getD_inI (F := F) (i := i) (by omega))
  have hm2 : Lib.maxOf F ∈ F := by
    rcases h3 with h3 | h3
    · show F.foldl max (F.headD 0) ∈ F
      rw [h3]; exact head_inI (by omega)
    · exact h3
  obtain ⟨j, hj, e⟩ := List.getElem_of_mem hm2
  have l := ha j (by omega)
  rw [show F.getD j 0 = F[j] by simp [List.getD, hj], e] at l
  have u2 : F.getD i 0 ≤ Lib.maxOf F := u
  omega
theorem min_is (b m c : Nat) (F : List Int) (w : World) (hA : Arr (Value.int .i64) 0 w b 0 F) (hl : F.length = m) (hm : 1 ≤ m) (h8 : m ≤ 1048576) :
    Calls Try.prog 112 #[.slice (some ⟨b, 0, none⟩) m c] w (fun e w' => e = .returned (.int .i64 (F.getD (aminF F m) 0)) ∧ w' = w) := by
  have h := AnyG.slices_Min_int Try.minI b 0 m c F w (by omega) (by omega) (by omega) hA.cells
  rw [show F.take m = F from List.take_of_length_le (by omega), minOf_amin hl hm] at h
  exact h
theorem max_is (b m c : Nat) (F : List Int) (x : Int) (w : World) (hA : Arr (Value.int .i64) 0 w b 0 F) (hl : F.length = m) (hm : 1 ≤ m) (h8 : m ≤ 1048576) (hx : (∀ i, i < m → F.getD i 0 ≤ x) ∧ ∃ i, i < m ∧ F.getD i 0 = x) :
    Calls Try.prog 113 #[.slice (some ⟨b, 0, none⟩) m c] w (fun e w' => e = .returned (.int .i64 x) ∧ w' = w) := by
  have h := AnyG.slices_Max_int Try.maxI b 0 m c F w (by omega) (by omega) (by omega) hA.cells
  rw [show F.take m = F from List.take_of_length_le (by omega), maxOf_is hl hm hx] at h
  exact h
theorem idx_is (b m c : Nat) (F : List Int) (w : World) (hA : Arr (Value.int .i64) 0 w b 0 F) (hl : F.length = m) (hm : 1 ≤ m) (h8 : m ≤ 1048576) :
    Calls Try.prog 111 #[.slice (some ⟨b, 0, none⟩) m c, .int .i64 (F.getD (aminF F m) 0)] w (fun e w' => e = .returned (.int .i64 (aminF F m)) ∧ w' = w) := by
  have h := AnyG.slices_Index_int Try.idxI b 0 m c F (F.getD (aminF F m) 0) w (by omega) (by omega) hA.cells
  rw [Lib.idxOf_hit F m (aminF F m) _ (aminF_in F hm) (by omega) rfl fun j hj e => by have := aminF_first F m j hj; omega] at h
  exact h
end Go.Proofs.Ytcnfmphokobgiaa
