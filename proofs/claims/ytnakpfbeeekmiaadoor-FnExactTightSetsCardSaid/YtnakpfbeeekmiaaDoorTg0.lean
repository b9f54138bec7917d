/- Sets of domains with no more numbers (plain). -/
import Derived.Test.YtnakpfbeeekmiaaDoorPop48
import Derived.Test.YtnakpfbeeekmiaaDoorHv0
import Derived.Test.YtnakpfbeeekmiaaDoorDm0
import Derived.Test.YtnakpfbeeekmiaaDoorInS
namespace Go.Proofs.YtnakpfbeeekmiaaDoor

theorem popN_zero : ∀ k, popN k 0 = 0
  | 0 => rfl
  | k + 1 => by unfold popN; rw [Nat.zero_div, popN_zero k]
theorem popN_or : ∀ (n m x : Nat), x < n → popN n (m ||| 2 ^ x) = popN n m + (if m.testBit x then 0 else 1)
  | 0, m, x, h => by omega
  | n + 1, m, 0, _ => by
    have h1 : (m ||| 2 ^ 0) % 2 = 1 := by
      have : (m ||| 2 ^ 0).testBit 0 = true := by rw [Nat.testBit_or]; simp
      rw [Nat.testBit_zero] at this
      exact of_decide_eq_true this
    have h2 : (m ||| 2 ^ 0) / 2 = m / 2 := by
      apply Nat.eq_of_testBit_eq
      intro i
      rw [← Nat.testBit_succ, ← Nat.testBit_succ, Nat.testBit_or]
      simp [Nat.testBit_succ]
    unfold popN
    rw [h1, h2, Nat.testBit_zero]
    rcases Nat.mod_two_eq_zero_or_one m with h | h <;> simp [h] <;> omega
  | n + 1, m, x + 1, hx => by
    have h1 : (m ||| 2 ^ (x + 1)) % 2 = m % 2 := by
      have : (m ||| 2 ^ (x + 1)).testBit 0 = m.testBit 0 := by rw [Nat.testBit_or]; simp
      rw [Nat.testBit_zero, Nat.testBit_zero] at this
      have h := decide_eq_decide.1 this
      omega
    have h2 : (m ||| 2 ^ (x + 1)) / 2 = m / 2 ||| 2 ^ x := by
      apply Nat.eq_of_testBit_eq
      intro i
      rw [← Nat.testBit_succ, Nat.testBit_or, Nat.testBit_or, ← Nat.testBit_succ, Nat.testBit_two_pow, Nat.testBit_two_pow]
      congr 1
      rw [decide_eq_decide]; omega
    unfold popN
    rw [h1, h2, popN_or n (m / 2) x (by omega), Nat.testBit_succ]
    omega
/-- The numbers of the first k of a list, a bit each. -/
def mskE (E : List Int) : Nat → Nat
  | 0 => 0
  | k + 1 => mskE E k ||| 2 ^ (E.getD k 0).toNat
theorem mskE_bit (E : List Int) (x : Nat) : ∀ k, (mskE E k).testBit x = true ↔ ∃ j, j < k ∧ (E.getD j 0).toNat = x
  | 0 => by simp [mskE]
  | k + 1 => by
    unfold mskE
    rw [Nat.testBit_or, Bool.or_eq_true, mskE_bit E x k, Nat.testBit_two_pow, decide_eq_true_eq]
    constructor
    · rintro (⟨j, h, e⟩ | e)
      · exact ⟨j, by omega, e⟩
      · exact ⟨k, by omega, e⟩
    · rintro ⟨j, h, e⟩
      by_cases q : j = k
      · subst q; exact Or.inr e
      · exact Or.inl ⟨j, by omega, e⟩
theorem mskE_lt {E : List Int} (h : ∀ i, i < E.length → 0 ≤ E.getD i 0 ∧ E.getD i 0 ≤ 31) : ∀ k, k ≤ E.length → mskE E k < 2 ^ 32
  | 0, _ => by show (0 : Nat) < 2 ^ 32; decide
  | k + 1, hk => by
    unfold mskE
    refine Nat.or_lt_two_pow (mskE_lt h k (by omega)) (Nat.pow_lt_pow_right (by omega) ?_)
    have := h k (by omega); omega
theorem mskE_snoc (E : List Int) (x : Int) : mskE (E ++ [x]) (E.length + 1) = mskE E E.length ||| 2 ^ x.toNat := by
  have h : ∀ k, k ≤ E.length → mskE (E ++ [x]) k = mskE E k := fun k hk => by
    induction k with
    | zero => rfl
    | succ k ih =>
      unfold mskE
      rw [ih (by omega)]
      congr 3
      simp [List.getD, List.getElem?_append_left (show k < E.length by omega)]
  show mskE (E ++ [x]) E.length ||| 2 ^ ((E ++ [x]).getD E.length 0).toNat = _
  rw [h _ (Nat.le_refl _)]
  congr 3
  simp [List.getD]
theorem inS_bit {E : List Int} (h : ∀ i, i < E.length → 0 ≤ E.getD i 0 ∧ E.getD i 0 ≤ 31) {x : Int} (h0 : 0 ≤ x) : inS E x = (mskE E E.length).testBit x.toNat := by
  rw [Bool.eq_iff_iff, mskE_bit]
  unfold inS
  rw [List.any_eq_true]
  constructor
  · rintro ⟨j, hj, e⟩
    exact ⟨j, List.mem_range.1 hj, by rw [eq_of_beq e]⟩
  · rintro ⟨j, hj, e⟩
    have := h j hj
    exact ⟨j, List.mem_range.2 hj, by rw [beq_iff_eq]; omega⟩
/-- What those of the first k domains hold that are in a set. -/
def orD (Ds : List (List Int)) : Nat → Nat → Nat
  | 0, _ => 0
  | k + 1, m => orD Ds k m ||| (if m.testBit k then mskE (Ds.getD k []) (Ds.getD k []).length else 0)
theorem orD_lt {Ds : List (List Int)} (h : ∀ k, k < Ds.length → mskE (Ds.getD k []) (Ds.getD k []).length < 2 ^ 32) (m : Nat) : ∀ k, k ≤ Ds.length → orD Ds k m < 2 ^ 32
  | 0, _ => by simp [orD]
  | k + 1, hk => by
    have ih := orD_lt h m k (by omega)
    unfold orD
    split
    · exact Nat.or_lt_two_pow ih (h k (by omega))
    · rw [Nat.or_zero]; exact ih
theorem orD_zero (Ds : List (List Int)) : ∀ k, orD Ds k 0 = 0
  | 0 => rfl
  | k + 1 => by unfold orD; rw [orD_zero Ds k, Nat.zero_testBit]; simp
theorem orD_same {Ds : List (List Int)} {m m' t : Nat} (h : ∀ i, i < t → m.testBit i = m'.testBit i) : ∀ k, k ≤ t → orD Ds k m = orD Ds k m'
  | 0, _ => rfl
  | k + 1, hk => by unfold orD; rw [orD_same h k (by omega), h k (by omega)]
theorem orD_low {Ds : List (List Int)} {m t q : Nat} (h : m = 2 ^ t * (2 * q + 1)) : ∀ k, t < k → orD Ds k m = orD Ds k (m &&& (m - 1)) ||| mskE (Ds.getD t []) (Ds.getD t []).length
  | 0, hk => by omega
  | k + 1, hk => by
    by_cases e : k = t
    · subst e
      unfold orD
      rw [orD_same (Ds := Ds) (t := k) (m := m) (m' := m &&& (m - 1)) (fun i hi => by rw [low_bit h]; simp; omega) k (Nat.le_refl _), has_bit h, low_bit h]
      simp
    · have ih := orD_low (Ds := Ds) h k (by omega)
      unfold orD
      rw [ih, low_bit h]
      have : decide (k ≠ t) = true := by simpa using e
      rw [this, Bool.and_true, Nat.or_assoc, Nat.or_assoc, Nat.or_comm (mskE (Ds.getD t []) _)]
/-- How many of the first k bits are in a set. -/
def cntB : Nat → Nat → Nat
  | 0, _ => 0
  | k + 1, m => cntB k m + (if m.testBit k then 1 else 0)
theorem cntB_up (m : Nat) : ∀ k, cntB (k + 1) m = m % 2 + cntB k (m / 2)
  | 0 => by
    unfold cntB cntB
    rw [Nat.testBit_zero]
    rcases Nat.mod_two_eq_zero_or_one m with h | h <;> simp [h]
  | k + 1 => by
    have ih := cntB_up m k
    show cntB (k + 1) m + _ = m % 2 + (cntB k (m / 2) + _)
    rw [ih, Nat.testBit_succ]; omega
theorem cntB_pop : ∀ k m, cntB k m = popN k m
  | 0, _ => rfl
  | k + 1, m => by rw [cntB_up, cntB_pop k]; rfl
theorem popN_big : ∀ (n k m : Nat), m < 2 ^ n → n ≤ k → popN k m = popN n m
  | 0, k, m, h, _ => by
    have : m = 0 := by simpa using h
    subst this; rw [popN_zero, popN_zero]
  | n + 1, 0, m, _, h => by omega
  | n + 1, k + 1, m, h, hk => by
    unfold popN
    rw [popN_big n k (m / 2) (by rw [Nat.pow_succ] at h; omega) (by omega)]
theorem cntB_all {n m : Nat} (h : m < 2 ^ n) (hn : n ≤ 48) : cntB n m = popN 48 m := by rw [cntB_pop, popN_big n 48 m h hn]
theorem cntB_le : ∀ k m, cntB k m ≤ k
  | 0, _ => Nat.le_refl _
  | k + 1, m => by have := cntB_le k m; unfold cntB; split <;> omega
/-- A set with no more numbers than domains. -/
def tightB (Ds : List (List Int)) (m : Nat) : Bool := popN 48 (orD Ds Ds.length m) == popN 48 m
def tgT (Ds : List (List Int)) (k : Nat) : List Int := ((List.range k).filter (tightB Ds)).map fun (m : Nat) => ((m : Nat) : Int)
theorem tgT_yes {Ds : List (List Int)} {k : Nat} (h : tightB Ds k = true) : tgT Ds (k + 1) = tgT Ds k ++ [(k : Int)] := by
  unfold tgT; rw [List.range_succ, List.filter_append, List.map_append]; simp [h]
theorem tgT_no {Ds : List (List Int)} {k : Nat} (h : tightB Ds k = false) : tgT Ds (k + 1) = tgT Ds k := by
  unfold tgT; rw [List.range_succ, List.filter_append, List.map_append]; simp [h]
theorem tgT_few (Ds : List (List Int)) (k : Nat) : (tgT Ds k).length ≤ k := by
  unfold tgT
  rw [List.length_map]
  exact Nat.le_trans (List.length_filter_le _ _) (by simp)
def tgL (Ds : List (List Int)) : List Int := if domsB Ds then tgT Ds (2 ^ Ds.length) else []
theorem tgL_len (Ds : List (List Int)) : (tgL Ds).length ≤ 1048576 := by
  unfold tgL
  split
  · rename_i h
    have h1 := (domsB_ok h).l2
    have h2 := tgT_few Ds (2 ^ Ds.length)
    have h3 : 2 ^ Ds.length ≤ 2 ^ 6 := Nat.pow_le_pow_right (by omega) h1
    omega
  · simp
/-- The numbers that the model has put together: different ones, those of the set. -/
structure NuOk (Nu : List Int) (S : Nat) : Prop where
  rng : ∀ i, i < Nu.length → 0 ≤ Nu.getD i 0 ∧ Nu.getD i 0 ≤ 31
  msk : mskE Nu Nu.length = S
  cnt : popN 48 S = Nu.length
  few : Nu.length ≤ 48
theorem NuOk.nil : NuOk [] 0 := ⟨fun i h => by simp at h, rfl, popN_zero 48, by simp⟩
theorem NuOk.old {Nu : List Int} {S : Nat} (h : NuOk Nu S) {x : Int} (h0 : 0 ≤ x) (hin : inS Nu x = true) : NuOk Nu (S ||| 2 ^ x.toNat) := by
  rw [inS_bit h.rng h0, h.msk] at hin
  have e : S ||| 2 ^ x.toNat = S := by
    apply Nat.eq_of_testBit_eq
    intro i
    rw [Nat.testBit_or, Nat.testBit_two_pow]
    by_cases q : x.toNat = i
    · rw [← q, hin]; simp
    · simp [q]
  rw [e]; exact h
theorem NuOk.new {Nu : List Int} {S : Nat} (h : NuOk Nu S) {x : Int} (h0 : 0 ≤ x) (h1 : x ≤ 31) (hin : inS Nu x = false) : NuOk (Nu ++ [x]) (S ||| 2 ^ x.toNat) := by
  rw [inS_bit h.rng h0, h.msk] at hin
  have hp := popN_or 48 S x.toNat (by omega)
  rw [hin] at hp
  have hl : (Nu ++ [x]).length = Nu.length + 1 := by simp
  have hc : popN 48 (S ||| 2 ^ x.toNat) = Nu.length + 1 := by rw [hp, h.cnt]; rfl
  refine ⟨fun i hi => ?_, by rw [hl, mskE_snoc, h.msk], by rw [hl, hc], by rw [hl, ← hc]; exact popN_leN 48 _⟩
  rw [hl] at hi
  by_cases q : i = Nu.length
  · subst q
    have : (Nu ++ [x]).getD Nu.length 0 = x := by simp [List.getD]
    rw [this]; exact ⟨h0, h1⟩
  · have : (Nu ++ [x]).getD i 0 = Nu.getD i 0 := by simp [List.getD, List.getElem?_append_left (show i < Nu.length by omega)]
    rw [this]; exact h.rng i (by omega)
end Go.Proofs.YtnakpfbeeekmiaaDoor
