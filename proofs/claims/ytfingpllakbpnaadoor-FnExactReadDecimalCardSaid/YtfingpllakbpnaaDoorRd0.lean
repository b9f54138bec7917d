/- The number with a decimal text (plain). -/
import Derived.Test.YtfingpllakbpnaaDoorTx0
import Derived.Test.YtfingpllakbpnaaDoorSz
import Derived.Lib.ParseIntB
namespace Go.Proofs.YtfingpllakbpnaaDoor
open Go

theorem pU_app (M : Nat) : ∀ (l1 l2 : List UInt8) (acc : Nat) {v : Nat}, Lib.parseUintM M acc l1 = .ok v → Lib.parseUintM M acc (l1 ++ l2) = Lib.parseUintM M v l2
  | [], l2, acc, v, h => by
    simp only [Lib.parseUintM] at h
    injection h with h
    subst h; rfl
  | c :: r, l2, acc, v, h => by
    simp only [Lib.parseUintM, List.cons_append] at h ⊢
    split at h
    · rename_i h1
      rw [if_pos h1]
      split at h
      · cases h
      · rename_i h2
        rw [if_neg h2]
        split at h
        · cases h
        · rename_i h3
          rw [if_neg h3]
          exact pU_app M r l2 _ h
    · cases h
theorem dig_nat {q : Nat} (h : q < 10) : (UInt8.ofNat (48 + q)).toNat = 48 + q := by
  rw [UInt8.toNat_ofNat', show (2 ^ 8 : Nat) = 256 from rfl]; omega
theorem pU_dec {M : Nat} (u : Nat) (hM : u ≤ M) (hu : u ≤ 1000000000000000000) : Lib.parseUintM M 0 (Lib.decDigits u) = .ok u := by
  induction u using Nat.strongRecOn with
  | _ u ih =>
    by_cases h : u < 10
    · rw [dec_small h]
      simp only [Lib.parseUintM, dig_nat h]
      rw [if_pos (by omega), if_neg (by omega), if_neg (by omega)]
      congr 1; omega
    · rw [dec_big h, pU_app M _ _ 0 (ih (u / 10) (by omega) (by omega) (by omega))]
      have hq : u % 10 < 10 := by omega
      simp only [Lib.parseUintM, dig_nat hq]
      rw [if_pos (by omega), if_neg (by omega), if_neg (by omega)]
      congr 1; omega
theorem dec_digits (u : Nat) : ∀ c ∈ Lib.decDigits u, 48 ≤ c.toNat ∧ c.toNat ≤ 57 := by
  induction u using Nat.strongRecOn with
  | _ u ih =>
    intro c hc
    by_cases h : u < 10
    · rw [dec_small h, List.mem_singleton] at hc
      subst hc
      rw [dig_nat h]; omega
    · rw [dec_big h, List.mem_append, List.mem_singleton] at hc
      rcases hc with hc | hc
      · exact ih (u / 10) (by omega) c hc
      · subst hc
        rw [dig_nat (by omega)]; omega
theorem dec_cons (u : Nat) : ∃ c r, Lib.decDigits u = c :: r := by
  cases h : Lib.decDigits u with
  | nil =>
    exfalso
    rw [Lib.decDigits_eq] at h
    have := Lib.nDigits_pos u
    have h2 := congrArg List.length h
    simp at h2; omega
  | cons c r => exact ⟨c, r, rfl⟩
theorem pU64 (u : Nat) (hu : u ≤ 1000000000000000000) : Lib.parseUintB 64 (Lib.decDigits u) = .ok u := by
  unfold Lib.parseUintB
  obtain ⟨c, r, e⟩ := dec_cons u
  rw [if_neg (by rw [e]; exact fun h => by cases h)]
  exact pU_dec u (by omega) hu
theorem parse_itoa {n : Int} (h : -1000000000000000 ≤ n ∧ n ≤ 1000000000000000) : Lib.parseIntB 64 (Lib.itoa n) = .ok n := by
  have hp := pU64 n.natAbs (by omega)
  by_cases hn : n < 0
  · rw [itoa_neg hn]
    unfold Lib.parseIntB
    have e : (45 : UInt8).toNat = 45 := rfl
    simp only [e]
    rw [if_pos (Or.inr trivial), hp]
    simp only
    have e63 : (2 : Nat) ^ (64 - 1) = 9223372036854775808 := by decide
    rw [e63]
    have hx : ¬ (True ∧ 9223372036854775808 < n.natAbs) := by omega
    have hy : ¬ (¬ True ∧ 9223372036854775808 ≤ n.natAbs) := by simp
    rw [if_neg hy, if_neg hx, if_pos trivial]
    congr 1; omega
  · rw [itoa_pos hn]
    obtain ⟨c, r, e⟩ := dec_cons n.natAbs
    have hc := dec_digits n.natAbs c (by rw [e]; simp)
    rw [e] at hp ⊢
    unfold Lib.parseIntB
    simp only
    rw [if_neg (by omega), hp]
    simp only
    rw [if_neg (by simp; omega), if_neg (by simp; omega), if_neg (by omega)]
    congr 1; omega
/-- The number that the digits of a text spell. -/
def dgF (a : Nat) (c : UInt8) : Nat := if 48 ≤ c.toNat ∧ c.toNat ≤ 57 then 10 * a + (c.toNat - 48) else a
def dgS (S : List UInt8) : Nat := S.foldl dgF 0
def valS (S : List UInt8) : Int := if S.head? = some 45 then -(dgS S : Int) else (dgS S : Int)
def rdB (S : List UInt8) : Bool := decide (1 ≤ S.length ∧ S.length ≤ 17) && (inB (valS S) (-1000000000000000) 1000000000000000 && decide (Lib.itoa (valS S) = S))
def rdN (S : List UInt8) : Int := if rdB S then valS S else 0
theorem dgS_dec (u : Nat) : dgS (Lib.decDigits u) = u := by
  induction u using Nat.strongRecOn with
  | _ u ih =>
    unfold dgS at ih ⊢
    by_cases h : u < 10
    · rw [dec_small h]
      show dgF 0 _ = _
      unfold dgF
      rw [dig_nat h, if_pos (by omega)]; omega
    · rw [dec_big h, List.foldl_append, ih (u / 10) (by omega)]
      show dgF (u / 10) _ = _
      unfold dgF
      rw [dig_nat (by omega), if_pos (by omega)]; omega
theorem valS_itoa {n : Int} : valS (Lib.itoa n) = n := by
  by_cases hn : n < 0
  · rw [itoa_neg hn]
    unfold valS
    rw [if_pos (show (45 :: Lib.decDigits n.natAbs).head? = some 45 from rfl)]
    have : dgS (45 :: Lib.decDigits n.natAbs) = n.natAbs := by
      have h := dgS_dec n.natAbs
      unfold dgS at h ⊢
      rw [List.foldl_cons, show dgF 0 45 = 0 from rfl]
      exact h
    omega
  · rw [itoa_pos hn]
    obtain ⟨c, r, e⟩ := dec_cons n.natAbs
    have hc := dec_digits n.natAbs c (by rw [e]; simp)
    have h := dgS_dec n.natAbs
    unfold valS
    rw [if_neg, h]
    · omega
    · rw [e]
      intro h2
      injection h2 with h2
      subst h2
      have : (45 : UInt8).toNat = 45 := rfl
      omega
theorem nD_le : ∀ (n v : Nat), Lib.nDigits v = n + 1 → 10 ^ n ≤ v ∨ n = 0
  | 0, _, _ => Or.inr rfl
  | n + 1, v, hv => by
    left
    by_cases hs : v < 10
    · rw [Lib.nDigits_small hs] at hv; omega
    · rw [Lib.nDigits_big hs] at hv
      rcases nD_le n (v / 10) (by omega) with h2 | h2
      · rw [Nat.pow_succ]; omega
      · subst h2; simp; omega
theorem dec_len16 {u : Nat} (h : u ≤ 1000000000000000) : 1 ≤ (Lib.decDigits u).length ∧ (Lib.decDigits u).length ≤ 16 := by
  rw [Lib.decDigits_eq, List.length_map, List.length_range]
  refine ⟨Lib.nDigits_pos u, ?_⟩
  rcases Nat.lt_or_ge 16 (Lib.nDigits u) with h1 | h1
  · exfalso
    rcases nD_le (Lib.nDigits u - 1) u (by omega) with h2 | h2
    · have h3 : 10 ^ 16 ≤ 10 ^ (Lib.nDigits u - 1) := Nat.pow_le_pow_right (by omega) (by omega)
      have h5 : (10 : Nat) ^ 16 = 10000000000000000 := by decide
      omega
    · omega
  · exact h1
theorem itoa_len17 {n : Int} (h : -1000000000000000 ≤ n ∧ n ≤ 1000000000000000) : 1 ≤ (Lib.itoa n).length ∧ (Lib.itoa n).length ≤ 17 := by
  have := dec_len16 (u := n.natAbs) (by omega)
  by_cases hn : n < 0
  · rw [itoa_neg hn, List.length_cons]; omega
  · rw [itoa_pos hn]; omega
theorem rdB_itoa {n : Int} (h : inB n (-1000000000000000) 1000000000000000 = true) : rdB (Lib.itoa n) = true ∧ rdN (Lib.itoa n) = n := by
  have h1 : rdB (Lib.itoa n) = true := by
    unfold rdB
    rw [valS_itoa, h, decide_eq_true (itoa_len17 (inB_ok h)), decide_eq_true rfl]; rfl
  exact ⟨h1, by unfold rdN; rw [if_pos h1, valS_itoa]⟩
theorem rdB_parse {S : List UInt8} (h : rdB S = true) : Lib.parseIntB 64 S = .ok (valS S) ∧ inB (valS S) (-1000000000000000) 1000000000000000 = true ∧ Lib.itoa (valS S) = S := by
  unfold rdB at h
  simp only [Bool.and_eq_true, decide_eq_true_eq] at h
  have hp := parse_itoa (inB_ok h.2.1)
  rw [h.2.2] at hp
  exact ⟨hp, h.2.1, h.2.2⟩
theorem rdN_no {S : List UInt8} (h : rdB S = false) : rdN S = 0 := by unfold rdN; rw [h]; rfl
/-- What the program tells of a text that is parsed. -/
theorem rd_ok {S : List UInt8} {n : Int} (h : Lib.parseIntB 64 S = .ok n) (h1 : inB n (-1000000000000000) 1000000000000000 = true) (h2 : Lib.itoa n = S) : rdB S = true ∧ rdN S = n := by
  subst h2; exact rdB_itoa h1
theorem rd_out {S : List UInt8} {n : Int} (h : Lib.parseIntB 64 S = .ok n) (h1 : inB n (-1000000000000000) 1000000000000000 = false) : rdB S = false := by
  rw [Bool.eq_false_iff]
  intro hc
  obtain ⟨a, b, _⟩ := rdB_parse hc
  rw [h] at a
  injection a with a
  rw [← a, h1] at b; cases b
theorem rd_other {S : List UInt8} {n : Int} (h : Lib.parseIntB 64 S = .ok n) (h1 : Lib.itoa n ≠ S) : rdB S = false := by
  rw [Bool.eq_false_iff]
  intro hc
  obtain ⟨a, _, c⟩ := rdB_parse hc
  rw [h] at a
  injection a with a
  rw [← a] at c
  exact h1 c
theorem rd_err {S : List UInt8} (h : ∀ n, Lib.parseIntB 64 S ≠ .ok n) : rdB S = false := by
  rw [Bool.eq_false_iff]
  intro hc
  exact h _ (rdB_parse hc).1
/-- The digits of the first k bytes. -/
theorem dg_take {S : List UInt8} {k : Nat} (h : k < S.length) : dgS (S.take (k + 1)) = dgF (dgS (S.take k)) S[k] := by
  unfold dgS
  rw [List.take_succ_eq_append_getElem h, List.foldl_append]; rfl
theorem dg_bound {S : List UInt8} : ∀ k, dgS (S.take k) < 10 ^ k
  | 0 => by simp [dgS]
  | k + 1 => by
    have ih := dg_bound (S := S) k
    rw [Nat.pow_succ]
    rcases Nat.lt_or_ge k S.length with h | h
    · rw [dg_take h]
      unfold dgF
      split <;> omega
    · rw [List.take_of_length_le (by omega)]
      rw [List.take_of_length_le (by omega)] at ih
      omega
end Go.Proofs.YtfingpllakbpnaaDoor
