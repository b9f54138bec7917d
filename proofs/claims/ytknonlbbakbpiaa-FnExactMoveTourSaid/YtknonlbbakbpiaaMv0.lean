/- Shorter tours by moved cities (plain). Written by tools/mkmv.py. -/
import Derived.Test.YtknonlbbakbpiaaTourS
import Derived.Test.YtknonlbbakbpiaaSw0
namespace Go.Proofs.Ytknonlbbakbpiaa

/-- A list without its i-th element; with one more; with one moved. -/
def dropF (T : List Int) (i : Nat) : List Int := T.take i ++ T.drop (i + 1)
def putF (Z : List Int) (k : Nat) (x : Int) : List Int := Z.take k ++ x :: Z.drop k
def movF (T : List Int) (i k : Nat) : List Int := putF (dropF T i) k (T.getD i 0)
theorem dropF_len {T : List Int} {i : Nat} (h : i < T.length) : (dropF T i).length = T.length - 1 := by simp [dropF]; omega
theorem putF_len {Z : List Int} {k : Nat} {x : Int} (h : k ≤ Z.length) : (putF Z k x).length = Z.length + 1 := by simp [putF]; omega
theorem movF_len {T : List Int} {i k : Nat} (hi : i < T.length) (hk : k < T.length) : (movF T i k).length = T.length := by
  unfold movF
  rw [putF_len (by rw [dropF_len hi]; omega), dropF_len hi]
  omega
theorem putF_at {Z : List Int} {k j : Nat} {x : Int} (hk : k ≤ Z.length) : (putF Z k x).getD j 0 = if j < k then Z.getD j 0 else if j = k then x else Z.getD (j - 1) 0 := by
  unfold putF
  by_cases h : j < k
  · rw [if_pos h, List.getD, List.getElem?_append_left (by simp; omega), List.getElem?_take_of_lt h, List.getD]
  · rw [if_neg h, List.getD, List.getElem?_append_right (by simp; omega), List.length_take, Nat.min_eq_left hk]
    by_cases e : j = k
    · subst e; simp
    · rw [if_neg e, show j - k = (j - k - 1) + 1 by omega, List.getElem?_cons_succ, List.getElem?_drop, show k + (j - k - 1) = j - 1 by omega, List.getD]
theorem dropF_at {T : List Int} {i j : Nat} (h : i < T.length) : (dropF T i).getD j 0 = if j < i then T.getD j 0 else T.getD (j + 1) 0 := by
  unfold dropF
  by_cases e : j < i
  · rw [if_pos e, List.getD, List.getElem?_append_left (by simp; omega), List.getElem?_take_of_lt e, List.getD]
  · rw [if_neg e, List.getD, List.getElem?_append_right (by simp; omega), List.length_take, Nat.min_eq_left (by omega), List.getElem?_drop, show i + 1 + (j - i) = j + 1 by omega, List.getD]
theorem movF_id {T : List Int} {i : Nat} (h : i < T.length) : movF T i i = T := by
  refine List.ext_getElem (movF_len h h) fun j a b => ?_
  have h1 : (movF T i i).getD j 0 = T.getD j 0 := by
    unfold movF
    rw [putF_at (by rw [dropF_len h]; omega)]
    by_cases e : j < i
    · rw [if_pos e, dropF_at h, if_pos e]
    · rw [if_neg e]
      by_cases q : j = i
      · rw [if_pos q, q]
      · rw [if_neg q, dropF_at h, if_neg (by omega), show j - 1 + 1 = j by omega]
  simpa [List.getD, a, b] using h1
theorem movF_ok {T : List Int} {n i k : Nat} (h : TourOk T n) (hi : i < n) (hk : k < n) : TourOk (movF T i k) n := by
  have hl := h.len
  refine ⟨by rw [movF_len (by omega) (by omega)]; exact hl, fun j hj => ?_⟩
  have e : ∃ m, m < n ∧ (movF T i k).getD j 0 = T.getD m 0 := by
    unfold movF
    rw [putF_at (by rw [dropF_len (by omega)]; omega), dropF_at (by omega), dropF_at (by omega)]
    by_cases e1 : j < k
    · rw [if_pos e1]
      by_cases e2 : j < i
      · rw [if_pos e2]; exact ⟨j, hj, rfl⟩
      · rw [if_neg e2]; exact ⟨j + 1, by omega, rfl⟩
    · rw [if_neg e1]
      by_cases e2 : j = k
      · rw [if_pos e2]; exact ⟨i, hi, rfl⟩
      · rw [if_neg e2]
        by_cases e3 : j - 1 < i
        · rw [if_pos e3]; exact ⟨j - 1, by omega, rfl⟩
        · rw [if_neg e3]; exact ⟨j - 1 + 1, by omega, rfl⟩
  obtain ⟨m, hm, e⟩ := e
  have := h.inn m hm
  unfold tN at this ⊢
  rw [e]; exact this
/-- Is the tour shorter with the part turned? -/
def bmv (L T : List Int) (n i k : Nat) : Bool := decide (longT L (movF T i k) n n < longT L T n n)
theorem bmv_id {L T : List Int} {n i : Nat} (h : i < T.length) : bmv L T n i i = false := by unfold bmv; rw [movF_id h]; simp
/-- The first pair of places by which it is shorter. -/
def fstM (L T : List Int) (n : Nat) : Option Nat := (List.range (n * n)).find? fun m => bmv L T n (m / n) (m % n)
theorem fstM_some {L T : List Int} {n i k : Nat} (hi : i < n) (hk : k < n) (h : bmv L T n i k = true) (h1 : ∀ a b, a < i → b < n → bmv L T n a b = false) (h2 : ∀ b, b < k → bmv L T n i b = false) : fstM L T n = some (i * n + k) := by
  have hn : 0 < n := by omega
  obtain ⟨d1, d2⟩ := div_of (i := i) hk
  unfold fstM
  rw [List.find?_range_eq_some]
  refine ⟨by rw [d1, d2]; exact h, List.mem_range.2 ?_, fun m hm => ?_⟩
  · have : i * n + n ≤ n * n := by rw [← Nat.succ_mul]; exact Nat.mul_le_mul_right n hi
    omega
  · have hdm := Nat.div_add_mod m n
    have hml := Nat.mod_lt m hn
    have hd : m / n ≤ i := by rw [← d1]; exact Nat.div_le_div_right (by omega)
    rw [Bool.not_eq_true']
    by_cases e : m / n = i
    · rw [e]
      refine h2 _ ?_
      rw [e, Nat.mul_comm] at hdm
      omega
    · exact h1 _ _ (by omega) hml
theorem fstM_none {L T : List Int} {n : Nat} (h : ∀ a b, a < n → b < n → bmv L T n a b = false) : fstM L T n = none := by
  unfold fstM
  rw [List.find?_eq_none]
  intro m hm
  have hm := List.mem_range.1 hm
  have hn : 0 < n := by
    rcases Nat.eq_zero_or_pos n with e | e
    · subst e; simp at hm
    · exact e
  rw [h _ _ (Nat.div_lt_of_lt_mul hm) (Nat.mod_lt m hn)]; simp
/-- Shorter and shorter, and how often. -/
def mvR (L : List Int) (n : Nat) : Nat → List Int → Int → List Int × Int
  | 0, T, c => (T, c)
  | f + 1, T, c => match fstM L T n with
    | none => (T, c)
    | some m => mvR L n f (movF T (m / n) (m % n)) (c + 1)
theorem mvR_end {L T : List Int} {n f : Nat} {c : Int} (h : fstM L T n = none) : mvR L n (f + 1) T c = (T, c) := by rw [mvR, h]
theorem mvR_go {L T : List Int} {n f i k : Nat} {c : Int} (hk : k < n) (h : fstM L T n = some (i * n + k)) : mvR L n (f + 1) T c = mvR L n f (movF T i k) (c + 1) := by
  rw [mvR, h]
  simp only
  rw [(div_of hk).1, (div_of hk).2]
theorem fstM_lt {L T : List Int} {n m : Nat} (h : fstM L T n = some m) : m / n < n ∧ m % n < n := by
  have h1 := List.mem_range.1 (List.mem_of_find?_eq_some h)
  have hn : 0 < n := by
    rcases Nat.eq_zero_or_pos n with e | e
    · subst e; simp at h1
    · exact e
  exact ⟨Nat.div_lt_of_lt_mul h1, Nat.mod_lt m hn⟩
theorem mvR_len {L : List Int} {n : Nat} : ∀ (f : Nat) (T : List Int) (c : Int), T.length = n → (mvR L n f T c).1.length = n
  | 0, T, c, h => h
  | f + 1, T, c, h0 => by
    cases h : fstM L T n with
    | none => rw [mvR_end h]; exact h0
    | some m =>
      rw [mvR, h]
      simp only
      obtain ⟨h1, h2⟩ := fstM_lt h
      rw [mvR_len f _ _ (by rw [movF_len (by omega) (by omega)]; exact h0)]
/-- What holds at each tour: as far as it goes on, all comes out as at the first one. -/
structure MvAt (L : List Int) (n : Nat) (R : List Int × Int) (T : List Int) (c : Int) : Prop where
  ok : TourOk T n
  end_ : ∃ f, mvR L n f T c = R ∧ longT L T n n < (f : Int)
  cnt : 0 ≤ c ∧ c + longT L T n n ≤ 20000
theorem MvAt.next {L T : List Int} {n i k : Nat} {R : List Int × Int} {c : Int} (hL : CityOk L n) (h : MvAt L n R T c) (hi : i < n) (hk : k < n) (hb : bmv L T n i k = true) (h1 : ∀ a b, a < i → b < n → bmv L T n a b = false) (h2 : ∀ b, b < k → bmv L T n i b = false) : MvAt L n R (movF T i k) (c + 1) ∧ longT L (movF T i k) n n < longT L T n n := by
  have hlt : longT L (movF T i k) n n < longT L T n n := of_decide_eq_true hb
  have ok2 := movF_ok (i := i) h.ok hi hk
  obtain ⟨f, hf, hl⟩ := h.end_
  have p0 := (longT_in hL h.ok n (Nat.le_refl _)).1
  have p1 := (longT_in hL ok2 n (Nat.le_refl _)).1
  obtain ⟨g, rfl⟩ : ∃ g, f = g + 1 := ⟨f - 1, by omega⟩
  rw [mvR_go hk (fstM_some hi hk hb h1 h2)] at hf
  have hc := h.cnt
  exact ⟨⟨ok2, ⟨g, hf, by omega⟩, by omega, by omega⟩, hlt⟩
theorem MvAt.done {L T : List Int} {n : Nat} {R : List Int × Int} {c : Int} (hL : CityOk L n) (h : MvAt L n R T c) (h1 : ∀ a b, a < n → b < n → bmv L T n a b = false) : (T, c) = R := by
  obtain ⟨f, hf, hl⟩ := h.end_
  have p0 := (longT_in hL h.ok n (Nat.le_refl _)).1
  obtain ⟨g, rfl⟩ : ∃ g, f = g + 1 := ⟨f - 1, by omega⟩
  rw [mvR_end (fstM_none h1)] at hf
  exact hf
end Go.Proofs.Ytknonlbbakbpiaa
