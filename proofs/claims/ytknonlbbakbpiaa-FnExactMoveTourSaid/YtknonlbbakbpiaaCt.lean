/- Ways between cities: what they are (plain). -/
import Derived.Test.YtknonlbbakbpiaaSz
namespace Go.Proofs.Ytknonlbbakbpiaa

/-- The least number from 1 to 10 whose square is not less than m, 10 if none is. -/
def rootN (m : Nat) : Nat := if m ≤ 1 then 1 else if m ≤ 4 then 2 else if m ≤ 9 then 3 else if m ≤ 16 then 4 else if m ≤ 25 then 5 else if m ≤ 36 then 6 else if m ≤ 49 then 7 else if m ≤ 64 then 8 else if m ≤ 81 then 9 else 10
theorem rootN_val (m : Nat) : (rootN m = 1 ∧ m ≤ 1) ∨ (rootN m = 2 ∧ 1 < m ∧ m ≤ 4) ∨ (rootN m = 3 ∧ 4 < m ∧ m ≤ 9) ∨ (rootN m = 4 ∧ 9 < m ∧ m ≤ 16) ∨ (rootN m = 5 ∧ 16 < m ∧ m ≤ 25) ∨ (rootN m = 6 ∧ 25 < m ∧ m ≤ 36) ∨ (rootN m = 7 ∧ 36 < m ∧ m ≤ 49) ∨ (rootN m = 8 ∧ 49 < m ∧ m ≤ 64) ∨ (rootN m = 9 ∧ 64 < m ∧ m ≤ 81) ∨ (rootN m = 10 ∧ 81 < m) := by
  unfold rootN
  split
  · omega
  split
  · omega
  split
  · omega
  split
  · omega
  split
  · omega
  split
  · omega
  split
  · omega
  split
  · omega
  split <;> omega
theorem rootN_in (m : Nat) : 1 ≤ rootN m ∧ rootN m ≤ 10 := by have := rootN_val m; omega
theorem few10 {k : Nat} (h1 : 1 ≤ k) (h2 : k ≤ 10) : k = 1 ∨ k = 2 ∨ k = 3 ∨ k = 4 ∨ k = 5 ∨ k = 6 ∨ k = 7 ∨ k = 8 ∨ k = 9 ∨ k = 10 := by omega
theorem rootN_step {m k : Nat} (h1 : 1 ≤ k) (h2 : k < 10) (h : k * k < m) : k + 1 ≤ rootN m := by
  have hv := rootN_val m
  generalize rootN m = r at *
  rcases few10 h1 (by omega) with rfl | rfl | rfl | rfl | rfl | rfl | rfl | rfl | rfl | rfl <;> omega
theorem rootN_end {m k : Nat} (h1 : 1 ≤ k) (hk : k ≤ rootN m) (h : 10 ≤ k ∨ m ≤ k * k) : k = rootN m := by
  have hv := rootN_val m
  generalize rootN m = r at *
  rcases few10 h1 (by omega) with rfl | rfl | rfl | rfl | rfl | rfl | rfl | rfl | rfl | rfl <;> omega
/-- The way from i to k, of n cities. -/
def atW (L : List Int) (n i k : Nat) : Int := L.getD (i * n + k) 0
def goodW (L : List Int) (n i k : Nat) : Bool := inB (atW L n i k) 0 1000 && (decide (atW L n i k = atW L n k i) && (decide (i ≠ k) || decide (atW L n i k = 0)))
def cityB (L : List Int) : Bool := decide (rootN L.length * rootN L.length = L.length) && (List.range (rootN L.length)).all fun i => (List.range (rootN L.length)).all fun k => goodW L (rootN L.length) i k
def cityN (L : List Int) : Int := if cityB L then (rootN L.length : Int) else 0
structure CityOk (L : List Int) (n : Nat) : Prop where
  n1 : 1 ≤ n
  n2 : n ≤ 10
  sq : n * n = L.length
  inn : ∀ i k, i < n → k < n → 0 ≤ atW L n i k ∧ atW L n i k ≤ 1000
  sym : ∀ i k, i < n → k < n → atW L n i k = atW L n k i
  zer : ∀ i, i < n → atW L n i i = 0
theorem goodW_ok {L : List Int} {n i k : Nat} (h : goodW L n i k = true) : (0 ≤ atW L n i k ∧ atW L n i k ≤ 1000) ∧ atW L n i k = atW L n k i ∧ (i = k → atW L n i k = 0) := by
  unfold goodW at h
  simp only [Bool.and_eq_true, Bool.or_eq_true, decide_eq_true_eq] at h
  exact ⟨inB_ok h.1, h.2.1, fun e => h.2.2.elim (fun x => absurd e x) id⟩
theorem goodW_mk {L : List Int} {n i k : Nat} (h1 : inB (atW L n i k) 0 1000 = true) (h2 : atW L n i k = atW L n k i) (h3 : i = k → atW L n i k = 0) : goodW L n i k = true := by
  unfold goodW
  simp only [Bool.and_eq_true, Bool.or_eq_true, decide_eq_true_eq]
  refine ⟨h1, h2, ?_⟩
  by_cases e : i = k
  · exact Or.inr (h3 e)
  · exact Or.inl e
theorem cityB_ok {L : List Int} (h : cityB L = true) : CityOk L (rootN L.length) := by
  unfold cityB at h
  simp only [Bool.and_eq_true, decide_eq_true_eq] at h
  obtain ⟨h1, h2⟩ := h
  have hg : ∀ i k, i < rootN L.length → k < rootN L.length → goodW L (rootN L.length) i k = true := fun i k hi hk => rngAt (rngAt h2 hi) hk
  exact ⟨(rootN_in _).1, (rootN_in _).2, h1, fun i k hi hk => (goodW_ok (hg i k hi hk)).1, fun i k hi hk => (goodW_ok (hg i k hi hk)).2.1, fun i hi => (goodW_ok (hg i i hi hi)).2.2 rfl⟩
theorem cityB_no1 {L : List Int} (h : rootN L.length * rootN L.length ≠ L.length) : cityB L = false := by unfold cityB; rw [decide_eq_false h, Bool.false_and]
theorem cityB_no2 {L : List Int} {i k : Nat} (hi : i < rootN L.length) (hk : k < rootN L.length) (h : goodW L (rootN L.length) i k = false) : cityB L = false := by
  unfold cityB
  rw [rngNot hi (rngNot hk h), Bool.and_false]
theorem cityB_yes {L : List Int} (h : rootN L.length * rootN L.length = L.length) (hg : ∀ i k, i < rootN L.length → k < rootN L.length → goodW L (rootN L.length) i k = true) : cityB L = true := by
  unfold cityB
  rw [decide_eq_true h, Bool.true_and]
  exact rngAll fun i hi => rngAll fun k hk => hg i k hi hk
theorem at_lt {n i k : Nat} (hi : i < n) (hk : k < n) : i * n + k < n * n := by
  have : i * n + n ≤ n * n := by rw [← Nat.succ_mul]; exact Nat.mul_le_mul_right n hi
  omega
theorem cityB_noR {L : List Int} (h : rootN L.length * rootN L.length = L.length) (hg : allIn L 0 1000 = false) : cityB L = false := by
  cases hc : cityB L with
  | false => rfl
  | true =>
    have ok := cityB_ok hc
    have : allIn L 0 1000 = true := rngAll fun j hj => by
      have hn := ok.n1
      have e : j / rootN L.length * rootN L.length + j % rootN L.length = j := by rw [Nat.mul_comm]; exact Nat.div_add_mod j _
      have hm : j % rootN L.length < rootN L.length := Nat.mod_lt _ hn
      have hd : j / rootN L.length < rootN L.length := by
        rw [Nat.div_lt_iff_lt_mul hn, h]; exact hj
      have := ok.inn _ _ hd hm
      unfold atW at this
      rw [e] at this
      unfold inB
      simp only [Bool.and_eq_true, decide_eq_true_eq]
      exact this
    rw [this] at hg; cases hg
theorem cityB_no3 {L : List Int} {i k : Nat} (hi : i < rootN L.length) (hk : k < rootN L.length) (h : atW L (rootN L.length) i k ≠ atW L (rootN L.length) k i) : cityB L = false := by
  cases hc : cityB L with
  | false => rfl
  | true => exact absurd ((cityB_ok hc).sym i k hi hk) h
theorem cityB_no4 {L : List Int} {i : Nat} (hi : i < rootN L.length) (h : atW L (rootN L.length) i i ≠ 0) : cityB L = false := by
  cases hc : cityB L with
  | false => rfl
  | true => exact absurd ((cityB_ok hc).zer i hi) h
/-- Half of the pairs are enough. -/
theorem cityB_half {L : List Int} (h : rootN L.length * rootN L.length = L.length) (ha : allIn L 0 1000 = true) (hs : ∀ i, i < rootN L.length → ∀ k, k ≤ i → atW L (rootN L.length) i k = atW L (rootN L.length) k i)
    (hz : ∀ i, i < rootN L.length → atW L (rootN L.length) i i = 0) : cityB L = true := by
  refine cityB_yes h fun i k hi hk => goodW_mk ?_ ?_ ?_
  · exact rngAt ha (Nat.lt_of_lt_of_eq (at_lt hi hk) h)
  · rcases Nat.le_total k i with hl | hl
    · exact hs i hi k hl
    · exact (hs k hk i hl).symm
  · rintro rfl; exact hz i hi
theorem cityN_yes {L : List Int} (h : cityB L = true) : cityN L = (rootN L.length : Int) := by unfold cityN; rw [if_pos h]
theorem cityN_no {L : List Int} (h : cityB L = false) : cityN L = 0 := by unfold cityN; rw [if_neg (by rw [h]; decide)]
theorem city_len {L : List Int} {n : Nat} (h : CityOk L n) : L.length ≤ 100 := by
  have := Nat.mul_le_mul h.n2 h.n2
  rw [h.sq] at this; exact this
end Go.Proofs.Ytknonlbbakbpiaa
