/- How many binary digits are 1 (plain): the way of masks, for numbers below 2^48. -/
import Derived.Test.YtnakpfbeeekmiaaPop
namespace Go.Proofs.Ytnakpfbeeekmiaa

/-- Masks part by part. -/
theorem and_parts (k a b m n : Nat) (ha : a < 2 ^ k) (hm : m < 2 ^ k) : (a + 2 ^ k * b) &&& (m + 2 ^ k * n) = (a &&& m) + 2 ^ k * (b &&& n) := by
  have hx : a &&& m < 2 ^ k := Nat.lt_of_le_of_lt Nat.and_le_left ha
  rw [Nat.add_comm a, Nat.add_comm m, Nat.add_comm (a &&& m)]
  apply Nat.eq_of_testBit_eq
  intro i
  rw [Nat.testBit_and, Nat.testBit_two_pow_mul_add _ ha, Nat.testBit_two_pow_mul_add _ hm, Nat.testBit_two_pow_mul_add _ hx]
  split
  · rw [Nat.testBit_and]
  · rw [Nat.testBit_and]
theorem and_low (k a b m : Nat) (ha : a < 2 ^ k) (hm : m < 2 ^ k) : (a + 2 ^ k * b) &&& m = a &&& m := by
  have := and_parts k a b m 0 ha hm
  rw [Nat.mul_zero, Nat.add_zero, Nat.and_zero, Nat.mul_zero, Nat.add_zero] at this
  exact this
/-- A mask of parts that repeat, three of 16 digits each. -/
theorem and3 (p a b c : Nat) (q : Nat) (hp : p < 65536) (hq : q = p + 65536 * (p + 65536 * (p + 65536 * p))) (ha : a < 65536) (hb : b < 65536) (hc : c < 65536) :
    (a + 65536 * (b + 65536 * c)) &&& q = (a &&& p) + 65536 * ((b &&& p) + 65536 * (c &&& p)) := by
  subst hq
  have h1 := and_parts 16 a (b + 65536 * c) p (p + 65536 * (p + 65536 * p)) (by omega) (by omega)
  have h2 := and_parts 16 b c p (p + 65536 * p) (by omega) (by omega)
  have h3 := and_parts 16 c 0 p p (by omega) (by omega)
  have e : (2 : Nat) ^ 16 = 65536 := by decide
  rw [e] at h1 h2 h3
  rw [Nat.mul_zero, Nat.add_zero, Nat.zero_and, Nat.mul_zero, Nat.add_zero] at h3
  rw [h1, h2, h3]
theorem and1 (p a q : Nat) (hp : p < 65536) (hq : q = p + 65536 * (p + 65536 * (p + 65536 * p))) (ha : a < 65536) : a &&& q = a &&& p := by
  have h := and3 p a 0 0 q hp hq ha (by omega) (by omega)
  rw [Nat.zero_and] at h
  simpa using h
def M1 : Nat := 6148914691236517205
def M2 : Nat := 3689348814741910323
def M3 : Nat := 1085102592571150095
theorem m1_eq : (6148914691236517205 : Nat) = 21845 + 65536 * (21845 + 65536 * (21845 + 65536 * 21845)) := by decide
theorem m2_eq : (3689348814741910323 : Nat) = 13107 + 65536 * (13107 + 65536 * (13107 + 65536 * 13107)) := by decide
theorem m3_eq : (1085102592571150095 : Nat) = 3855 + 65536 * (3855 + 65536 * (3855 + 65536 * 3855)) := by decide
theorem shr_div (x k : Nat) : x >>> k = x / 2 ^ k := Nat.shiftRight_eq_div_pow x k
/-- The first step, part by part. -/
def st1 (a : Nat) : Nat := ((a / 2) &&& 21845) + (a &&& 21845)
theorem st1_le (a : Nat) : st1 a ≤ 43690 := by
  have h1 : (a / 2) &&& 21845 ≤ 21845 := Nat.and_le_right
  have h2 : a &&& 21845 ≤ 21845 := Nat.and_le_right
  unfold st1
  omega
theorem ones1_16 {a : Nat} (ha : a < 65536) : ones1 a = st1 a := by
  unfold ones1 st1
  rw [shr_div, Nat.pow_one, and1 21845 (a / 2) _ (by omega) m1_eq (by omega), and1 21845 a _ (by omega) m1_eq ha]
theorem ones1_48 {a b c : Nat} (ha : a < 65536) (hb : b < 65536) (hc : c < 65536) : ones1 (a + 65536 * (b + 65536 * c)) = st1 a + 65536 * (st1 b + 65536 * st1 c) := by
  unfold ones1 st1
  have e : (a + 65536 * (b + 65536 * c)) / 2 = (a / 2 + 2 ^ 15 * (b % 2)) + 65536 * ((b / 2 + 2 ^ 15 * (c % 2)) + 65536 * (c / 2)) := by omega
  rw [shr_div, Nat.pow_one, e, and3 21845 _ _ _ _ (by omega) m1_eq (by omega) (by omega) (by omega), and3 21845 _ _ _ _ (by omega) m1_eq ha hb hc]
  rw [and_low 15 (a / 2) (b % 2) 21845 (by omega) (by omega), and_low 15 (b / 2) (c % 2) 21845 (by omega) (by omega)]
  omega
/-- The second step. -/
def st2 (a : Nat) : Nat := ((a / 4) &&& 13107) + (a &&& 13107)
theorem st2_le (a : Nat) : st2 a ≤ 26214 := by
  have h1 : (a / 4) &&& 13107 ≤ 13107 := Nat.and_le_right
  have h2 : a &&& 13107 ≤ 13107 := Nat.and_le_right
  unfold st2
  omega
theorem nib (a : Nat) : (a &&& 13107) % 16 ≤ 3 := by
  have := Nat.and_mod_two_pow (a := a) (b := 13107) (n := 4)
  rw [show (2 : Nat) ^ 4 = 16 by decide] at this
  rw [this, show 13107 % 16 = 3 by decide]
  exact Nat.and_le_right
theorem st2_nib (a : Nat) : st2 a % 16 ≤ 6 := by
  have h1 := nib (a / 4)
  have h2 := nib a
  unfold st2
  omega
theorem ones2_16 {a : Nat} (ha : a < 65536) : ones2 a = st2 a := by
  unfold ones2 st2
  rw [shr_div, show (2 : Nat) ^ 2 = 4 by decide, and1 13107 (a / 4) _ (by omega) m2_eq (by omega), and1 13107 a _ (by omega) m2_eq ha]
theorem ones2_48 {a b c : Nat} (ha : a < 65536) (hb : b < 65536) (hc : c < 65536) : ones2 (a + 65536 * (b + 65536 * c)) = st2 a + 65536 * (st2 b + 65536 * st2 c) := by
  unfold ones2 st2
  have e : (a + 65536 * (b + 65536 * c)) / 4 = (a / 4 + 2 ^ 14 * (b % 4)) + 65536 * ((b / 4 + 2 ^ 14 * (c % 4)) + 65536 * (c / 4)) := by omega
  rw [shr_div, show (2 : Nat) ^ 2 = 4 by decide, e, and3 13107 _ _ _ _ (by omega) m2_eq (by omega) (by omega) (by omega), and3 13107 _ _ _ _ (by omega) m2_eq ha hb hc]
  rw [and_low 14 (a / 4) (b % 4) 13107 (by omega) (by omega), and_low 14 (b / 4) (c % 4) 13107 (by omega) (by omega)]
  omega
/-- The third step. -/
def st3 (a : Nat) : Nat := (a / 16 + a) &&& 3855
theorem st3_le (a : Nat) : st3 a ≤ 3855 := Nat.and_le_right
theorem st3_top (y t : Nat) : (y + 4096 * t) &&& 3855 = y &&& 3855 := by
  have h1 := and_low 12 (y % 4096) (y / 4096 + t) 3855 (by omega) (by omega)
  have h2 := and_low 12 (y % 4096) (y / 4096) 3855 (by omega) (by omega)
  rw [show (2 : Nat) ^ 12 = 4096 by decide] at h1 h2
  rw [show y % 4096 + 4096 * (y / 4096 + t) = y + 4096 * t by omega] at h1
  rw [show y % 4096 + 4096 * (y / 4096) = y by omega] at h2
  rw [h1, h2]
theorem ones3_16 {a : Nat} (ha : a ≤ 26214) : ones3 a = st3 a := by
  unfold ones3 st3
  rw [shr_div, show (2 : Nat) ^ 4 = 16 by decide, and1 3855 _ _ (by omega) m3_eq (by omega)]
theorem ones3_48 {a b c : Nat} (ha : a ≤ 26214) (hb : b ≤ 26214) (hc : c ≤ 26214) (nb : b % 16 ≤ 6) (nc : c % 16 ≤ 6) : ones3 (a + 65536 * (b + 65536 * c)) = st3 a + 65536 * (st3 b + 65536 * st3 c) := by
  unfold ones3 st3
  have e : (a + 65536 * (b + 65536 * c)) / 16 + (a + 65536 * (b + 65536 * c)) = ((a / 16 + a) + 4096 * (b % 16)) + 65536 * (((b / 16 + b) + 4096 * (c % 16)) + 65536 * (c / 16 + c)) := by omega
  rw [shr_div, show (2 : Nat) ^ 4 = 16 by decide, e, and3 3855 _ _ _ _ (by omega) m3_eq (by omega) (by omega) (by omega), st3_top, st3_top]
theorem end_16 {u : Nat} (h : u ≤ 3855) : ones6 (ones5 (ones4 u)) &&& 127 = (u % 256 + u / 256) % 128 := by
  have h4 : ones4 u = u + u / 256 := by unfold ones4; rw [shr_div]
  have h5 : ones5 (u + u / 256) = u + u / 256 := by unfold ones5; rw [shr_div]; omega
  have h6 : ones6 (u + u / 256) = u + u / 256 := by unfold ones6; rw [shr_div]; omega
  rw [h4, h5, h6, show (127 : Nat) = 2 ^ 7 - 1 by decide, Nat.and_two_pow_sub_one_eq_mod]
  omega
theorem st3_low (a : Nat) : st3 a % 256 ≤ 15 := by
  unfold st3
  have := Nat.and_mod_two_pow (a := a / 16 + a) (b := 3855) (n := 8)
  rw [show (2 : Nat) ^ 8 = 256 by decide] at this
  rw [this, show 3855 % 256 = 15 by decide]
  exact Nat.and_le_right
theorem popN_split : ∀ (j k a b : Nat), a < 2 ^ j → popN (j + k) (a + 2 ^ j * b) = popN j a + popN k b
  | 0, k, a, b, h => by
    have : a = 0 := by simpa using h
    subst this
    simp [popN]
  | j + 1, k, a, b, h => by
    rw [show j + 1 + k = (j + k) + 1 by omega]
    show (a + 2 ^ (j + 1) * b) % 2 + popN (j + k) ((a + 2 ^ (j + 1) * b) / 2) = (a % 2 + popN j (a / 2)) + popN k b
    have e : 2 ^ (j + 1) * b = 2 * (2 ^ j * b) := by rw [Nat.pow_succ]; rw [Nat.mul_comm (2 ^ j) 2, Nat.mul_assoc]
    rw [e]
    have h2 : a / 2 < 2 ^ j := by rw [Nat.pow_succ] at h; omega
    rw [show (a + 2 * (2 ^ j * b)) / 2 = a / 2 + 2 ^ j * b by omega, show (a + 2 * (2 ^ j * b)) % 2 = a % 2 by omega, popN_split j k (a / 2) b h2]
    omega
theorem end_48 {u v w : Nat} (hu : u ≤ 3855) (hv : v ≤ 3855) (hw : w ≤ 3855) (lu : u % 256 ≤ 15) (lv : v % 256 ≤ 15) (lw : w % 256 ≤ 15) :
    ones6 (ones5 (ones4 (u + 65536 * (v + 65536 * w)))) &&& 127 = (u % 256 + u / 256) + ((v % 256 + v / 256) + (w % 256 + w / 256)) := by
  obtain ⟨u0, hu0⟩ : ∃ q, q = u % 256 := ⟨_, rfl⟩
  obtain ⟨u1, hu1⟩ : ∃ q, q = u / 256 := ⟨_, rfl⟩
  obtain ⟨v0, hv0⟩ : ∃ q, q = v % 256 := ⟨_, rfl⟩
  obtain ⟨v1, hv1⟩ : ∃ q, q = v / 256 := ⟨_, rfl⟩
  obtain ⟨w0, hw0⟩ : ∃ q, q = w % 256 := ⟨_, rfl⟩
  obtain ⟨w1, hw1⟩ : ∃ q, q = w / 256 := ⟨_, rfl⟩
  rw [← hu0, ← hu1, ← hv0, ← hv1, ← hw0, ← hw1]
  have eu : u = u0 + 256 * u1 := by omega
  have ev : v = v0 + 256 * v1 := by omega
  have ew : w = w0 + 256 * w1 := by omega
  have bu : u0 ≤ 15 ∧ u1 ≤ 15 := by omega
  have bv : v0 ≤ 15 ∧ v1 ≤ 15 := by omega
  have bw : w0 ≤ 15 ∧ w1 ≤ 15 := by omega
  rw [eu, ev, ew]
  clear hu hv hw lu lv lw hu0 hu1 hv0 hv1 hw0 hw1 eu ev ew
  have h4 : ones4 (u0 + 256 * u1 + 65536 * (v0 + 256 * v1 + 65536 * (w0 + 256 * w1))) = (u0 + u1) + 256 * (u1 + v0) + 65536 * (v0 + v1) + 16777216 * (v1 + w0) + 4294967296 * (w0 + w1) + 1099511627776 * w1 := by
    unfold ones4
    rw [shr_div, show (2 : Nat) ^ 8 = 256 by decide]
    omega
  rw [h4]
  have h5 : ones5 ((u0 + u1) + 256 * (u1 + v0) + 65536 * (v0 + v1) + 16777216 * (v1 + w0) + 4294967296 * (w0 + w1) + 1099511627776 * w1) = (u0 + u1 + v0 + v1) + 256 * (u1 + v0 + v1 + w0) + 65536 * (v0 + v1 + w0 + w1) + 16777216 * (v1 + w0 + w1) + 4294967296 * (w0 + w1) + 1099511627776 * w1 := by
    unfold ones5
    rw [shr_div, show (2 : Nat) ^ 16 = 65536 by decide]
    omega
  rw [h5]
  unfold ones6
  rw [shr_div, show (2 : Nat) ^ 32 = 4294967296 by decide, show (127 : Nat) = 2 ^ 7 - 1 by decide, Nat.and_two_pow_sub_one_eq_mod, show (2 : Nat) ^ 7 = 128 by decide]
  clear h4 h5
  have h6 : ((u0 + u1 + v0 + v1) + 256 * (u1 + v0 + v1 + w0) + 65536 * (v0 + v1 + w0 + w1) + 16777216 * (v1 + w0 + w1) + 4294967296 * (w0 + w1) + 1099511627776 * w1) / 4294967296 = (w0 + w1) + 256 * w1 := by omega
  rw [h6]
  clear h6
  omega
theorem pop_16 {a : Nat} (ha : a < 65536) : pop a = (st3 (st2 (st1 a)) % 256 + st3 (st2 (st1 a)) / 256) := by
  have h := (ones_ok ha).1
  unfold onesX at h
  have b1 := st1_le a
  have b2 := st2_le (st1 a)
  have b3 := st3_le (st2 (st1 a))
  have b4 := st3_low (st2 (st1 a))
  rw [ones1_16 ha, ones2_16 (by omega), ones3_16 b2, end_16 b3] at h
  omega
/-- Numbers below 2^48. -/
theorem ones48 {x : Nat} (hx : x < 281474976710656) : onesX x = popN 48 x ∧ ones1 x < 281474976710656 ∧ ones2 (ones1 x) < 281474976710656 ∧ ones3 (ones2 (ones1 x)) < 281474976710656 := by
  obtain ⟨a, b, c, e, ha, hb, hc⟩ : ∃ a b c, x = a + 65536 * (b + 65536 * c) ∧ a < 65536 ∧ b < 65536 ∧ c < 65536 := ⟨x % 65536, x / 65536 % 65536, x / 4294967296, by omega, by omega, by omega, by omega⟩
  subst e
  have a1 := st1_le a
  have b1 := st1_le b
  have c1 := st1_le c
  have a2 := st2_le (st1 a)
  have b2 := st2_le (st1 b)
  have c2 := st2_le (st1 c)
  have a3 := st3_le (st2 (st1 a))
  have b3 := st3_le (st2 (st1 b))
  have c3 := st3_le (st2 (st1 c))
  have h1 := ones1_48 ha hb hc
  have h2 := ones2_48 (a := st1 a) (b := st1 b) (c := st1 c) (by omega) (by omega) (by omega)
  have h3 := ones3_48 a2 b2 c2 (st2_nib _) (st2_nib _)
  have h4 := end_48 a3 b3 c3 (st3_low _) (st3_low _) (st3_low _)
  have p1 := popN_split 16 32 a (b + 65536 * c) (by omega)
  have p2 := popN_split 16 16 b c (by omega)
  rw [show (2 : Nat) ^ 16 = 65536 by decide] at p1 p2
  have q1 := pop_16 ha
  have q2 := pop_16 hb
  have q3 := pop_16 hc
  unfold pop at q1 q2 q3
  refine ⟨?_, by rw [h1]; omega, by rw [h1, h2]; omega, by rw [h1, h2, h3]; omega⟩
  unfold onesX
  rw [h1, h2, h3, h4, show (48 : Nat) = 16 + 32 by omega, p1, show (32 : Nat) = 16 + 16 by omega, p2, q1, q2, q3]
theorem popN_leN : ∀ k x, popN k x ≤ k
  | 0, _ => Nat.le_refl _
  | k + 1, x => by have := popN_leN k (x / 2); unfold popN; omega
end Go.Proofs.Ytnakpfbeeekmiaa
