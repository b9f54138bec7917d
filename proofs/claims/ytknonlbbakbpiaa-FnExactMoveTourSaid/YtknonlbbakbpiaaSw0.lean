/- Shorter tours by turned parts (plain). -/
import Derived.Test.YtknonlbbakbpiaaTourS
namespace Go.Proofs.Ytknonlbbakbpiaa

/-- The part from i to k is turned around; nothing is where i is not less than k. -/
def turnF (T : List Int) (i k : Nat) : List Int := (List.range T.length).map fun j => if i ≤ j ∧ j ≤ k then T.getD (i + k - j) 0 else T.getD j 0
theorem turnF_len (T : List Int) (i k : Nat) : (turnF T i k).length = T.length := by simp [turnF]
theorem turnF_at {T : List Int} {i k j : Nat} (h : j < T.length) : (turnF T i k).getD j 0 = if i ≤ j ∧ j ≤ k then T.getD (i + k - j) 0 else T.getD j 0 := by simp [turnF, List.getD, h]
theorem turnF_id {T : List Int} {i k : Nat} (h : ¬ i < k) : turnF T i k = T := by
  refine List.ext_getElem (turnF_len T i k) fun j a b => ?_
  have h1 := turnF_at (i := i) (k := k) b
  have e : (if i ≤ j ∧ j ≤ k then T.getD (i + k - j) 0 else T.getD j 0) = T.getD j 0 := by
    split
    · rename_i q
      have : i + k - j = j := by omega
      rw [this]
    · rfl
  rw [e] at h1
  simpa [List.getD, a, b] using h1
theorem turnF_ok {T : List Int} {n i k : Nat} (h : TourOk T n) (hk : k < n) : TourOk (turnF T i k) n := by
  refine ⟨by rw [turnF_len]; exact h.len, fun j hj => ?_⟩
  have e : ∃ m, m < n ∧ (turnF T i k).getD j 0 = T.getD m 0 := by
    rw [turnF_at (by rw [h.len]; exact hj)]
    split
    · rename_i q; exact ⟨i + k - j, by omega, rfl⟩
    · exact ⟨j, hj, rfl⟩
  obtain ⟨m, hm, e⟩ := e
  have := h.inn m hm
  unfold tN at this ⊢
  rw [e]; exact this
/-- Is the tour shorter with the part turned? -/
def btr (L T : List Int) (n i k : Nat) : Bool := decide (longT L (turnF T i k) n n < longT L T n n)
theorem btr_id {L T : List Int} {n i k : Nat} (h : ¬ i < k) : btr L T n i k = false := by unfold btr; rw [turnF_id h]; simp
/-- The first pair of places by which it is shorter. -/
def fstB (L T : List Int) (n : Nat) : Option Nat := (List.range (n * n)).find? fun m => btr L T n (m / n) (m % n)
theorem div_of {n i k : Nat} (hk : k < n) : (i * n + k) / n = i ∧ (i * n + k) % n = k := by
  have hn : 0 < n := by omega
  exact ⟨by rw [Nat.mul_comm, Nat.mul_add_div hn, Nat.div_eq_of_lt hk]; omega, by rw [Nat.mul_comm, Nat.mul_add_mod]; exact Nat.mod_eq_of_lt hk⟩
theorem fstB_some {L T : List Int} {n i k : Nat} (hi : i < n) (hk : k < n) (h : btr L T n i k = true) (h1 : ∀ a b, a < i → b < n → btr L T n a b = false) (h2 : ∀ b, b < k → btr L T n i b = false) : fstB L T n = some (i * n + k) := by
  have hn : 0 < n := by omega
  obtain ⟨d1, d2⟩ := div_of (i := i) hk
  unfold fstB
  rw [List.find?_range_eq_some]
  refine ⟨by rw [d1, d2]; exact h, List.mem_range.2 ?_, fun m hm => ?_⟩
  · have : i * n + n ≤ n * n := by rw [← Nat.succ_mul]; exact Nat.mul_le_mul_right n hi
    omega
  · have hdm := Nat.div_add_mod m n
    have hml := Nat.mod_lt m hn
    have hd : m / n ≤ i := by rw [← d1]; exact Nat.div_le_div_right (by omega)
    rw [Bool.not_eq_true']
    by_cases e : m / n = i
    · rw [e]
      refine h2 _ ?_
      rw [e, Nat.mul_comm] at hdm
      omega
    · exact h1 _ _ (by omega) hml
theorem fstB_none {L T : List Int} {n : Nat} (h : ∀ a b, a < n → b < n → btr L T n a b = false) : fstB L T n = none := by
  unfold fstB
  rw [List.find?_eq_none]
  intro m hm
  have hm := List.mem_range.1 hm
  have hn : 0 < n := by
    rcases Nat.eq_zero_or_pos n with e | e
    · subst e; simp at hm
    · exact e
  rw [h _ _ (Nat.div_lt_of_lt_mul hm) (Nat.mod_lt m hn)]; simp
/-- Shorter and shorter, and how often. -/
def swR (L : List Int) (n : Nat) : Nat → List Int → Int → List Int × Int
  | 0, T, c => (T, c)
  | f + 1, T, c => match fstB L T n with
    | none => (T, c)
    | some m => swR L n f (turnF T (m / n) (m % n)) (c + 1)
theorem swR_end {L T : List Int} {n f : Nat} {c : Int} (h : fstB L T n = none) : swR L n (f + 1) T c = (T, c) := by rw [swR, h]
theorem swR_go {L T : List Int} {n f i k : Nat} {c : Int} (hk : k < n) (h : fstB L T n = some (i * n + k)) : swR L n (f + 1) T c = swR L n f (turnF T i k) (c + 1) := by
  rw [swR, h]
  simp only
  rw [(div_of hk).1, (div_of hk).2]
theorem swR_len {L : List Int} {n : Nat} : ∀ (f : Nat) (T : List Int) (c : Int), (swR L n f T c).1.length = T.length
  | 0, T, c => rfl
  | f + 1, T, c => by
    cases h : fstB L T n with
    | none => rw [swR_end h]
    | some m =>
      rw [swR, h]
      simp only
      rw [swR_len f, turnF_len]
/-- What holds at each tour: as far as it goes on, all comes out as at the first one. -/
structure SwAt (L : List Int) (n : Nat) (R : List Int × Int) (T : List Int) (c : Int) : Prop where
  ok : TourOk T n
  end_ : ∃ f, swR L n f T c = R ∧ longT L T n n < (f : Int)
  cnt : 0 ≤ c ∧ c + longT L T n n ≤ 20000
theorem SwAt.next {L T : List Int} {n i k : Nat} {R : List Int × Int} {c : Int} (hL : CityOk L n) (h : SwAt L n R T c) (hi : i < n) (hk : k < n) (hb : btr L T n i k = true) (h1 : ∀ a b, a < i → b < n → btr L T n a b = false) (h2 : ∀ b, b < k → btr L T n i b = false) : SwAt L n R (turnF T i k) (c + 1) ∧ longT L (turnF T i k) n n < longT L T n n := by
  have hlt : longT L (turnF T i k) n n < longT L T n n := of_decide_eq_true hb
  have ok2 := turnF_ok (i := i) h.ok hk
  obtain ⟨f, hf, hl⟩ := h.end_
  have p0 := (longT_in hL h.ok n (Nat.le_refl _)).1
  have p1 := (longT_in hL ok2 n (Nat.le_refl _)).1
  obtain ⟨g, rfl⟩ : ∃ g, f = g + 1 := ⟨f - 1, by omega⟩
  rw [swR_go hk (fstB_some hi hk hb h1 h2)] at hf
  have hc := h.cnt
  exact ⟨⟨ok2, ⟨g, hf, by omega⟩, by omega, by omega⟩, hlt⟩
theorem SwAt.done {L T : List Int} {n : Nat} {R : List Int × Int} {c : Int} (hL : CityOk L n) (h : SwAt L n R T c) (h1 : ∀ a b, a < n → b < n → btr L T n a b = false) : (T, c) = R := by
  obtain ⟨f, hf, hl⟩ := h.end_
  have p0 := (longT_in hL h.ok n (Nat.le_refl _)).1
  obtain ⟨g, rfl⟩ : ∃ g, f = g + 1 := ⟨f - 1, by omega⟩
  rw [swR_end (fstB_none h1)] at hf
  exact hf
end Go.Proofs.Ytknonlbbakbpiaa
