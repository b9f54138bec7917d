/- The decimal text of a number, digit by digit from behind (plain). -/
import Derived.Lib.ItoaNum
namespace Go.Proofs.YtfingpllakbpnaaDoor
open Go

theorem dec_small {u : Nat} (h : u < 10) : Lib.decDigits u = [UInt8.ofNat (48 + u)] := by
  rw [Lib.decDigits, dif_pos h]
theorem dec_big {u : Nat} (h : ¬ u < 10) : Lib.decDigits u = Lib.decDigits (u / 10) ++ [UInt8.ofNat (48 + u % 10)] := by
  rw [Lib.decDigits, dif_neg h]
/-- Behind the digits D, of the text of u, is still q to write. -/
structure DcAt (u q : Nat) (D : List UInt8) : Prop where
  eq : (q ≠ 0 ∨ D = []) → Lib.decDigits u = Lib.decDigits q ++ D
  fin : q = 0 → D ≠ [] → Lib.decDigits u = D
  le : q * 10 ^ D.length ≤ u
theorem dcAt_start (u : Nat) : DcAt u u [] := ⟨fun _ => (List.append_nil _).symm, fun _ h => absurd rfl h, by simp⟩
theorem dcAt_len {u q : Nat} {D : List UInt8} (h : DcAt u q D) (hu : u ≤ 9223372036854775808) (hq : q ≠ 0 ∨ D = []) : D.length ≤ 18 := by
  rcases hq with hq | rfl
  · rcases Nat.lt_or_ge 18 D.length with h1 | h1
    · have h2 : 10 ^ 19 ≤ 10 ^ D.length := Nat.pow_le_pow_right (by omega) h1
      have h3 : 1 * 10 ^ D.length ≤ q * 10 ^ D.length := Nat.mul_le_mul_right _ (by omega)
      have h4 := h.le
      have h5 : (10 : Nat) ^ 19 = 10000000000000000000 := by decide
      omega
    · exact h1
  · simp
theorem dcAt_step {u q : Nat} {D : List UInt8} (h : DcAt u q D) (hq : q ≠ 0 ∨ D = []) : DcAt u (q / 10) (UInt8.ofNat (48 + q % 10) :: D) := by
  have e := h.eq hq
  refine ⟨fun h1 => ?_, fun h1 _ => ?_, ?_⟩
  · have hb : ¬ q < 10 := by
      intro h2
      rcases h1 with h1 | h1
      · omega
      · cases h1
    rw [e, dec_big hb, List.append_assoc]; rfl
  · have hb : q < 10 := by omega
    rw [e, dec_small hb, Nat.mod_eq_of_lt hb]; rfl
  · rw [List.length_cons, Nat.pow_succ]
    have h2 : q / 10 * 10 ≤ q := Nat.div_mul_le_self q 10
    have h3 : q / 10 * 10 * 10 ^ D.length ≤ q * 10 ^ D.length := Nat.mul_le_mul_right _ h2
    have h4 := h.le
    have h5 : q / 10 * (10 ^ D.length * 10) = q / 10 * 10 * 10 ^ D.length := by rw [Nat.mul_assoc, Nat.mul_comm (10 ^ D.length)]
    omega
theorem dcAt_end {u : Nat} {D : List UInt8} (h : DcAt u 0 D) (hD : D ≠ []) : Lib.decDigits u = D := h.fin rfl hD
theorem dcAt_len2 {u q : Nat} {D : List UInt8} (h : DcAt u q D) (hu : u ≤ 9223372036854775808) : D.length ≤ 19 ∨ q ≠ 0 := by
  by_cases hq : q = 0
  · left
    subst hq
    by_cases hD : D = []
    · subst hD; simp
    · have e := h.fin rfl hD
      have hl := Lib.decDigits_eq u
      rw [← e, hl, List.length_map, List.length_range]
      rcases Nat.lt_or_ge 19 (Lib.nDigits u) with h1 | h1
      · exfalso
        have : ∀ n v, Lib.nDigits v = n + 1 → 10 ^ n ≤ v ∨ n = 0 := by
          intro n
          induction n with
          | zero => intro v _; exact Or.inr rfl
          | succ n ih =>
            intro v hv
            left
            by_cases hs : v < 10
            · rw [Lib.nDigits_small hs] at hv; omega
            · rw [Lib.nDigits_big hs] at hv
              rcases ih (v / 10) (by omega) with h2 | h2
              · rw [Nat.pow_succ]; omega
              · subst h2; simp; omega
        rcases this (Lib.nDigits u - 1) u (by omega) with h2 | h2
        · have h3 : 10 ^ 19 ≤ 10 ^ (Lib.nDigits u - 1) := Nat.pow_le_pow_right (by omega) (by omega)
          have h5 : (10 : Nat) ^ 19 = 10000000000000000000 := by decide
          omega
        · omega
      · exact h1
  · exact Or.inr hq
theorem itoa_neg {n : Int} (h : n < 0) : Lib.itoa n = 45 :: Lib.decDigits n.natAbs := by unfold Lib.itoa; rw [if_pos h]
theorem itoa_pos {n : Int} (h : ¬ n < 0) : Lib.itoa n = Lib.decDigits n.natAbs := by
  unfold Lib.itoa; rw [if_neg h]
  congr 1; omega
end Go.Proofs.YtfingpllakbpnaaDoor
