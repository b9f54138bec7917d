/- The eight digits of 32 bits (plain). -/
import Derived.Test.YtcgdkjbbdpmmhaaDoorTx0
namespace Go.Proofs.YtcgdkjbbdpmmhaaDoor
open Go

def hxC (v : Nat) : UInt8 := if v < 10 then UInt8.ofNat (48 + v) else UInt8.ofNat (87 + v)
theorem hxC_val {v : Nat} (h : v < 16) : (hxC v).toNat = if v < 10 then 48 + v else 87 + v := by
  unfold hxC
  split
  · rw [UInt8.toNat_ofNat', show (2 ^ 8 : Nat) = 256 from rfl]; omega
  · rw [UInt8.toNat_ofNat', show (2 ^ 8 : Nat) = 256 from rfl]; omega
/-- The eight digits. -/
def hx8 (n : Nat) : List UInt8 := (List.range 8).map fun i => hxC (n / 16 ^ (7 - i) % 16)
theorem hx8_len (n : Nat) : (hx8 n).length = 8 := by simp [hx8]
theorem hx8_at (n : Nat) {i : Nat} (h : i < (hx8 n).length) : (hx8 n)[i] = hxC (n / 16 ^ (7 - i) % 16) := by simp [hx8]
/-- The last j digits. -/
def hxD (n j : Nat) : List UInt8 := (hx8 n).drop (8 - j)
theorem hxD_len (n : Nat) {j : Nat} (h : j ≤ 8) : (hxD n j).length = j := by unfold hxD; rw [List.length_drop, hx8_len]; omega
theorem hxD_succ (n : Nat) {j : Nat} (h : j < 8) : hxD n (j + 1) = hxC (n / 16 ^ j % 16) :: hxD n j := by
  unfold hxD
  rw [List.drop_eq_getElem_cons (by rw [hx8_len]; omega), hx8_at]
  rw [show 7 - (8 - (j + 1)) = j by omega, show 8 - (j + 1) + 1 = 8 - j by omega]
theorem hxD_zero (n : Nat) : hxD n 0 = [] := by unfold hxD; rw [List.drop_of_length_le (by rw [hx8_len]; omega)]
theorem hx8_full (n : Nat) {j : Nat} (hj : j < 8) (h : n / 16 ^ j < 16) : List.replicate (7 - j) 48 ++ hxD n (j + 1) = hx8 n := by
  unfold hxD
  conv => rhs; rw [← List.take_append_drop (8 - (j + 1)) (hx8 n)]
  congr 1
  refine List.ext_getElem (by rw [List.length_replicate, List.length_take, hx8_len]; omega) fun i h1 h2 => ?_
  rw [List.length_replicate] at h1
  rw [List.getElem_replicate, List.getElem_take, hx8_at]
  have : n / 16 ^ (7 - i) = 0 := by
    obtain ⟨d, hd⟩ : ∃ d, 7 - i = j + 1 + d := ⟨7 - i - (j + 1), by omega⟩
    rw [hd, Nat.pow_add, Nat.pow_succ, Nat.mul_assoc, ← Nat.div_div_eq_div_mul, Nat.div_eq_of_lt]
    exact Nat.lt_of_lt_of_le h (Nat.le_mul_of_pos_right _ (Nat.pow_pos (by omega)))
  rw [this]
  rfl
theorem hx_step (n j : Nat) : n / 16 ^ j / 16 = n / 16 ^ (j + 1) := by rw [Nat.div_div_eq_div_mul, Nat.pow_succ]
theorem hx_small {n j : Nat} (hn : n < 4294967296) (h : 16 ≤ n / 16 ^ j) : j < 7 := by
  rcases Nat.lt_or_ge j 7 with h1 | h1
  · exact h1
  · have : n / 16 ^ j ≤ n / 16 ^ 7 := Nat.div_le_div_left (Nat.pow_le_pow_right (by omega) h1) (by decide)
    have h2 : (16 : Nat) ^ 7 = 268435456 := by decide
    rw [h2] at this
    omega
theorem hx_dig {u : Nat} (h : u < 16) (hb : u < (⟨#[48, 49, 50, 51, 52, 53, 54, 55, 56, 57, 97, 98, 99, 100, 101, 102, 103, 104, 105, 106, 107, 108, 109, 110, 111, 112, 113, 114, 115, 116, 117, 118, 119, 120, 121, 122]⟩ : ByteArray).size) :
    (⟨#[48, 49, 50, 51, 52, 53, 54, 55, 56, 57, 97, 98, 99, 100, 101, 102, 103, 104, 105, 106, 107, 108, 109, 110, 111, 112, 113, 114, 115, 116, 117, 118, 119, 120, 121, 122]⟩ : ByteArray)[u] = hxC u := by
  have : ∀ v : Fin 16, (⟨#[48, 49, 50, 51, 52, 53, 54, 55, 56, 57, 97, 98, 99, 100, 101, 102, 103, 104, 105, 106, 107, 108, 109, 110, 111, 112, 113, 114, 115, 116, 117, 118, 119, 120, 121, 122]⟩ : ByteArray).data.toList[v.val]? = some (hxC v.val) := by decide
  have h2 := this ⟨u, h⟩
  have h3 : (⟨#[48, 49, 50, 51, 52, 53, 54, 55, 56, 57, 97, 98, 99, 100, 101, 102, 103, 104, 105, 106, 107, 108, 109, 110, 111, 112, 113, 114, 115, 116, 117, 118, 119, 120, 121, 122]⟩ : ByteArray).data.toList[u]? = some (hxC u) := h2
  rw [List.getElem?_eq_getElem (by rw [Array.length_toList]; exact hb)] at h3
  injection h3
end Go.Proofs.YtcgdkjbbdpmmhaaDoor
