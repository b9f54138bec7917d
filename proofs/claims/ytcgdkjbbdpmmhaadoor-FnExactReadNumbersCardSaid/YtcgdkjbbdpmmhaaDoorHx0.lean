/- The digits of a number's bits (plain). -/
import Derived.Test.YtcgdkjbbdpmmhaaDoorSpm0
import Derived.Test.YtcgdkjbbdpmmhaaDoorExt
namespace Go.Proofs.YtcgdkjbbdpmmhaaDoor
open Go

def hxB (c : UInt8) : Bool := decide (48 ≤ c.toNat ∧ c.toNat ≤ 57) || decide (97 ≤ c.toNat ∧ c.toNat ≤ 102)
def hxV (c : UInt8) : Nat := if 48 ≤ c.toNat ∧ c.toNat ≤ 57 then c.toNat - 48 else if 97 ≤ c.toNat ∧ c.toNat ≤ 102 then c.toNat - 87 else 0
theorem hxV_le (c : UInt8) : hxV c ≤ 15 := by
  unfold hxV
  split
  · omega
  · split <;> omega
def hxN (S : List UInt8) : Nat := S.foldl (fun a c => 16 * a + hxV c) 0
theorem hxN_take {S : List UInt8} {k : Nat} (h : k < S.length) : hxN (S.take (k + 1)) = 16 * hxN (S.take k) + hxV S[k] := by
  unfold hxN
  rw [List.take_succ_eq_append_getElem h, List.foldl_append]; rfl
theorem hxN_bound (S : List UInt8) : ∀ k, hxN (S.take k) < 16 ^ k
  | 0 => by simp [hxN]
  | k + 1 => by
    have h := hxN_bound S k
    rw [Nat.pow_succ]
    by_cases hk : k < S.length
    · rw [hxN_take hk]
      have := hxV_le S[k]
      omega
    · rw [List.take_of_length_le (by omega)]
      rw [List.take_of_length_le (by omega)] at h
      omega
def hxOk (S : List UInt8) : Bool := decide (S.length = 8) && (S.all hxB && decide (Fl.told (hxN S) = hxN S))
def hxR (S : List UInt8) : Nat := if hxOk S then hxN S else 0
theorem hxR_no {S : List UInt8} (h : hxOk S = false) : hxR S = 0 := by unfold hxR; rw [h]; rfl
theorem hx_len {S : List UInt8} (h : ¬ S.length = 8) : hxOk S = false := by unfold hxOk; rw [decide_eq_false h]; rfl
theorem hx_bad {S : List UInt8} {k : Nat} (hk : k < S.length) (h : hxB S[k] = false) : hxOk S = false := by
  have : S.all hxB = false := by
    rw [Bool.eq_false_iff]
    intro hc
    have := List.all_eq_true.1 hc _ (List.getElem_mem hk)
    rw [h] at this; cases this
  unfold hxOk; rw [this]; simp
theorem hx_told {S : List UInt8} (h : ¬ Fl.told (hxN S) = hxN S) : hxOk S = false := by unfold hxOk; rw [decide_eq_false h]; simp
theorem hx_good {S : List UInt8} (h1 : S.length = 8) (h2 : ∀ k (h : k < S.length), hxB S[k] = true) (h3 : Fl.told (hxN S) = hxN S) : hxOk S = true ∧ hxR S = hxN S := by
  have ha : S.all hxB = true := List.all_eq_true.2 fun x hx => by
    obtain ⟨j, hj, rfl⟩ := List.getElem_of_mem hx
    exact h2 j hj
  have : hxOk S = true := by unfold hxOk; rw [decide_eq_true h1, ha, decide_eq_true h3]; rfl
  exact ⟨this, by unfold hxR; rw [this]; rfl⟩
theorem hxN_8 {S : List UInt8} (h1 : S.length = 8) : hxN S < 4294967296 := by
  have h := hxN_bound S 8
  rw [List.take_of_length_le (by omega)] at h
  have : (16 : Nat) ^ 8 = 4294967296 := by decide
  omega
theorem hxB_digit {c : UInt8} (h : 48 ≤ c.toNat ∧ c.toNat ≤ 57) : hxB c = true ∧ hxV c = c.toNat - 48 := by
  unfold hxB hxV; rw [decide_eq_true h, if_pos h]; exact ⟨rfl, rfl⟩
theorem hxB_letter {c : UInt8} (h : 97 ≤ c.toNat ∧ c.toNat ≤ 102) : hxB c = true ∧ hxV c = c.toNat - 87 := by
  unfold hxB hxV; rw [decide_eq_true h, if_neg (by omega), if_pos h, Bool.or_true]; exact ⟨rfl, rfl⟩
theorem hxB_other {c : UInt8} (h1 : ¬ (48 ≤ c.toNat ∧ c.toNat ≤ 57)) (h2 : ¬ (97 ≤ c.toNat ∧ c.toNat ≤ 102)) : hxB c = false ∧ hxV c = 0 := by
  unfold hxB hxV; rw [decide_eq_false h1, decide_eq_false h2, if_neg h1, if_neg h2]; exact ⟨rfl, rfl⟩
end Go.Proofs.YtcgdkjbbdpmmhaaDoor
