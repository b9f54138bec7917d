/- What UnitsOf needs: Va0 Pop Pop48 Am0 Fo LiI AmS FndI Gv0 SfP ClI Mix NumB Ins0 Ins1. -/
import Derived.RowKit
import Derived.Test.YtnakpfbeeekmiaaUnitsOfB
import Derived.Test.YtnakpfbeeekmiaaUnitsOfA
import Derived.Lib.Builder
import Derived.WalkSpells
import Derived.Deep.AppendLies
import Derived.Shelf.SlGeneric
import Derived.Shelf.SlSortCmp.Whole1
import Derived.Test.YtnakpfbeeekmiaaChecked
import Derived.Deep.LoopGhost
import Derived.Sort.Defs
/- The letters that a number tells (plain). -/
namespace Go.Proofs.Ytnakpfbeeekmiaa

/-- The letters up to k that are true. -/
def trueK (L n k : Nat) : List Int := ((List.range k).filter fun i => n.testBit (L - (i + 1))).map fun i : Nat => (i : Int) + 1
theorem trueK_yes {L n k : Nat} (h : n.testBit (L - (k + 1)) = true) : trueK L n (k + 1) = trueK L n k ++ [(k : Int) + 1] := by
  unfold trueK
  rw [List.range_succ, List.filter_append, List.map_append]
  simp [h]
theorem trueK_no {L n k : Nat} (h : n.testBit (L - (k + 1)) = false) : trueK L n (k + 1) = trueK L n k := by
  unfold trueK
  rw [List.range_succ, List.filter_append, List.map_append]
  simp [h]
theorem trueK_len (L n : Nat) : ∀ k, (trueK L n k).length ≤ k
  | 0 => by simp [trueK]
  | k + 1 => by
    have ih := trueK_len L n k
    cases h : n.testBit (L - (k + 1)) with
    | true => rw [trueK_yes h, List.length_append]; simp; omega
    | false => rw [trueK_no h]; omega
theorem trueK_mem {L n k : Nat} {x : Int} : x ∈ trueK L n k ↔ ∃ i : Nat, i < k ∧ n.testBit (L - (i + 1)) = true ∧ x = (i : Int) + 1 := by
  unfold trueK
  rw [List.mem_map]
  constructor
  · rintro ⟨i, hi, rfl⟩
    rw [List.mem_filter, List.mem_range] at hi
    exact ⟨i, hi.1, hi.2, rfl⟩
  · rintro ⟨i, h1, h2, rfl⟩
    exact ⟨i, List.mem_filter.2 ⟨List.mem_range.2 h1, h2⟩, rfl⟩
end Go.Proofs.Ytnakpfbeeekmiaa
/- How many binary digits are 1 (plain): the way of masks, for numbers below 65536. -/
namespace Go.Proofs.Ytnakpfbeeekmiaa

def ones1 (x : Nat) : Nat := ((x >>> 1) &&& 6148914691236517205) + (x &&& 6148914691236517205)
def ones2 (x : Nat) : Nat := ((x >>> 2) &&& 3689348814741910323) + (x &&& 3689348814741910323)
def ones3 (x : Nat) : Nat := ((x >>> 4) + x) &&& 1085102592571150095
def ones4 (x : Nat) : Nat := x + (x >>> 8)
def ones5 (x : Nat) : Nat := x + (x >>> 16)
def ones6 (x : Nat) : Nat := x + (x >>> 32)
def onesX (x : Nat) : Nat := ones6 (ones5 (ones4 (ones3 (ones2 (ones1 x))))) &&& 127
def popN : Nat → Nat → Nat
  | 0, _ => 0
  | k + 1, x => x % 2 + popN k (x / 2)
def pop (x : Nat) : Nat := popN 16 x
def chk (a : Nat) : Nat → Bool
  | 0 => true
  | n + 1 => Nat.beq (onesX (a + n)) (pop (a + n)) && (Nat.ble (ones1 (a + n)) 65536 && (Nat.ble (ones2 (ones1 (a + n))) 65536 && (Nat.ble (ones3 (ones2 (ones1 (a + n)))) 65536 && chk a n)))
theorem chk_at {a : Nat} : ∀ {n : Nat}, chk a n = true → ∀ k, k < n → onesX (a + k) = pop (a + k) ∧ ones1 (a + k) ≤ 65536 ∧ ones2 (ones1 (a + k)) ≤ 65536 ∧ ones3 (ones2 (ones1 (a + k))) ≤ 65536
  | 0, _, k, hk => by omega
  | n + 1, h, k, hk => by
    simp only [chk, Bool.and_eq_true] at h
    obtain ⟨h1, h2, h3, h4, h5⟩ := h
    by_cases e : k = n
    · subst e; exact ⟨Nat.eq_of_beq_eq_true h1, Nat.le_of_ble_eq_true h2, Nat.le_of_ble_eq_true h3, Nat.le_of_ble_eq_true h4⟩
    · exact chk_at h5 k (by omega)
theorem chk_0 : chk 0 1024 = true := by decide +kernel
theorem chk_1 : chk 1024 1024 = true := by decide +kernel
theorem chk_2 : chk 2048 1024 = true := by decide +kernel
theorem chk_3 : chk 3072 1024 = true := by decide +kernel
theorem chk_4 : chk 4096 1024 = true := by decide +kernel
theorem chk_5 : chk 5120 1024 = true := by decide +kernel
theorem chk_6 : chk 6144 1024 = true := by decide +kernel
theorem chk_7 : chk 7168 1024 = true := by decide +kernel
theorem chk_8 : chk 8192 1024 = true := by decide +kernel
theorem chk_9 : chk 9216 1024 = true := by decide +kernel
theorem chk_10 : chk 10240 1024 = true := by decide +kernel
theorem chk_11 : chk 11264 1024 = true := by decide +kernel
theorem chk_12 : chk 12288 1024 = true := by decide +kernel
theorem chk_13 : chk 13312 1024 = true := by decide +kernel
theorem chk_14 : chk 14336 1024 = true := by decide +kernel
theorem chk_15 : chk 15360 1024 = true := by decide +kernel
theorem chk_16 : chk 16384 1024 = true := by decide +kernel
theorem chk_17 : chk 17408 1024 = true := by decide +kernel
theorem chk_18 : chk 18432 1024 = true := by decide +kernel
theorem chk_19 : chk 19456 1024 = true := by decide +kernel
theorem chk_20 : chk 20480 1024 = true := by decide +kernel
theorem chk_21 : chk 21504 1024 = true := by decide +kernel
theorem chk_22 : chk 22528 1024 = true := by decide +kernel
theorem chk_23 : chk 23552 1024 = true := by decide +kernel
theorem chk_24 : chk 24576 1024 = true := by decide +kernel
theorem chk_25 : chk 25600 1024 = true := by decide +kernel
theorem chk_26 : chk 26624 1024 = true := by decide +kernel
theorem chk_27 : chk 27648 1024 = true := by decide +kernel
theorem chk_28 : chk 28672 1024 = true := by decide +kernel
theorem chk_29 : chk 29696 1024 = true := by decide +kernel
theorem chk_30 : chk 30720 1024 = true := by decide +kernel
theorem chk_31 : chk 31744 1024 = true := by decide +kernel
theorem chk_32 : chk 32768 1024 = true := by decide +kernel
theorem chk_33 : chk 33792 1024 = true := by decide +kernel
theorem chk_34 : chk 34816 1024 = true := by decide +kernel
theorem chk_35 : chk 35840 1024 = true := by decide +kernel
theorem chk_36 : chk 36864 1024 = true := by decide +kernel
theorem chk_37 : chk 37888 1024 = true := by decide +kernel
theorem chk_38 : chk 38912 1024 = true := by decide +kernel
theorem chk_39 : chk 39936 1024 = true := by decide +kernel
theorem chk_40 : chk 40960 1024 = true := by decide +kernel
theorem chk_41 : chk 41984 1024 = true := by decide +kernel
theorem chk_42 : chk 43008 1024 = true := by decide +kernel
theorem chk_43 : chk 44032 1024 = true := by decide +kernel
theorem chk_44 : chk 45056 1024 = true := by decide +kernel
theorem chk_45 : chk 46080 1024 = true := by decide +kernel
theorem chk_46 : chk 47104 1024 = true := by decide +kernel
theorem chk_47 : chk 48128 1024 = true := by decide +kernel
theorem chk_48 : chk 49152 1024 = true := by decide +kernel
theorem chk_49 : chk 50176 1024 = true := by decide +kernel
theorem chk_50 : chk 51200 1024 = true := by decide +kernel
theorem chk_51 : chk 52224 1024 = true := by decide +kernel
theorem chk_52 : chk 53248 1024 = true := by decide +kernel
theorem chk_53 : chk 54272 1024 = true := by decide +kernel
theorem chk_54 : chk 55296 1024 = true := by decide +kernel
theorem chk_55 : chk 56320 1024 = true := by decide +kernel
theorem chk_56 : chk 57344 1024 = true := by decide +kernel
theorem chk_57 : chk 58368 1024 = true := by decide +kernel
theorem chk_58 : chk 59392 1024 = true := by decide +kernel
theorem chk_59 : chk 60416 1024 = true := by decide +kernel
theorem chk_60 : chk 61440 1024 = true := by decide +kernel
theorem chk_61 : chk 62464 1024 = true := by decide +kernel
theorem chk_62 : chk 63488 1024 = true := by decide +kernel
theorem chk_63 : chk 64512 1024 = true := by decide +kernel
theorem chk_all : ∀ i, i < 64 → chk (1024 * i) 1024 = true
  | 0, _ => chk_0
  | 1, _ => chk_1
  | 2, _ => chk_2
  | 3, _ => chk_3
  | 4, _ => chk_4
  | 5, _ => chk_5
  | 6, _ => chk_6
  | 7, _ => chk_7
  | 8, _ => chk_8
  | 9, _ => chk_9
  | 10, _ => chk_10
  | 11, _ => chk_11
  | 12, _ => chk_12
  | 13, _ => chk_13
  | 14, _ => chk_14
  | 15, _ => chk_15
  | 16, _ => chk_16
  | 17, _ => chk_17
  | 18, _ => chk_18
  | 19, _ => chk_19
  | 20, _ => chk_20
  | 21, _ => chk_21
  | 22, _ => chk_22
  | 23, _ => chk_23
  | 24, _ => chk_24
  | 25, _ => chk_25
  | 26, _ => chk_26
  | 27, _ => chk_27
  | 28, _ => chk_28
  | 29, _ => chk_29
  | 30, _ => chk_30
  | 31, _ => chk_31
  | 32, _ => chk_32
  | 33, _ => chk_33
  | 34, _ => chk_34
  | 35, _ => chk_35
  | 36, _ => chk_36
  | 37, _ => chk_37
  | 38, _ => chk_38
  | 39, _ => chk_39
  | 40, _ => chk_40
  | 41, _ => chk_41
  | 42, _ => chk_42
  | 43, _ => chk_43
  | 44, _ => chk_44
  | 45, _ => chk_45
  | 46, _ => chk_46
  | 47, _ => chk_47
  | 48, _ => chk_48
  | 49, _ => chk_49
  | 50, _ => chk_50
  | 51, _ => chk_51
  | 52, _ => chk_52
  | 53, _ => chk_53
  | 54, _ => chk_54
  | 55, _ => chk_55
  | 56, _ => chk_56
  | 57, _ => chk_57
  | 58, _ => chk_58
  | 59, _ => chk_59
  | 60, _ => chk_60
  | 61, _ => chk_61
  | 62, _ => chk_62
  | 63, _ => chk_63
  | i + 64, h => by omega
theorem ones_ok {x : Nat} (h : x < 65536) : onesX x = pop x ∧ ones1 x ≤ 65536 ∧ ones2 (ones1 x) ≤ 65536 ∧ ones3 (ones2 (ones1 x)) ≤ 65536 := by
  have := chk_at (chk_all (x / 1024) (by omega)) (x % 1024) (by omega)
  rw [show 1024 * (x / 1024) + x % 1024 = x by omega] at this
  exact this
end Go.Proofs.Ytnakpfbeeekmiaa
/- How many binary digits are 1 (plain): the way of masks, for numbers below 2^48. -/
namespace Go.Proofs.Ytnakpfbeeekmiaa

/-- Masks part by part. -/
theorem and_parts (k a b m n : Nat) (ha : a < 2 ^ k) (hm : m < 2 ^ k) : (a + 2 ^ k * b) &&& (m + 2 ^ k * n) = (a &&& m) + 2 ^ k * (b &&& n) := by
  have hx : a &&& m < 2 ^ k := Nat.lt_of_le_of_lt Nat.and_le_left ha
  rw [Nat.add_comm a, Nat.add_comm m, Nat.add_comm (a &&& m)]
  apply Nat.eq_of_testBit_eq
  intro i
  rw [Nat.testBit_and, Nat.testBit_two_pow_mul_add _ ha, Nat.testBit_two_pow_mul_add _ hm, Nat.testBit_two_pow_mul_add _ hx]
  split
  · rw [Nat.testBit_and]
  · rw [Nat.testBit_and]
theorem and_low (k a b m : Nat) (ha : a < 2 ^ k) (hm : m < 2 ^ k) : (a + 2 ^ k * b) &&& m = a &&& m := by
  have := and_parts k a b m 0 ha hm
  rw [Nat.mul_zero, Nat.add_zero, Nat.and_zero, Nat.mul_zero, Nat.add_zero] at this
  exact this
/-- A mask of parts that repeat, three of 16 digits each. -/
theorem and3 (p a b c : Nat) (q : Nat) (hp : p < 65536) (hq : q = p + 65536 * (p + 65536 * (p + 65536 * p))) (ha : a < 65536) (hb : b < 65536) (hc : c < 65536) :
    (a + 65536 * (b + 65536 * c)) &&& q = (a &&& p) + 65536 * ((b &&& p) + 65536 * (c &&& p)) := by
  subst hq
  have h1 := and_parts 16 a (b + 65536 * c) p (p + 65536 * (p + 65536 * p)) (by omega) (by omega)
  have h2 := and_parts 16 b c p (p + 65536 * p) (by omega) (by omega)
  have h3 := and_parts 16 c 0 p p (by omega) (by omega)
  have e : (2 : Nat) ^ 16 = 65536 := by decide
  rw [e] at h1 h2 h3
  rw [Nat.mul_zero, Nat.add_zero, Nat.zero_and, Nat.mul_zero, Nat.add_zero] at h3
  rw [h1, h2, h3]
theorem and1 (p a q : Nat) (hp : p < 65536) (hq : q = p + 65536 * (p + 65536 * (p + 65536 * p))) (ha : a < 65536) : a &&& q = a &&& p := by
  have h := and3 p a 0 0 q hp hq ha (by omega) (by omega)
  rw [Nat.zero_and] at h
  simpa using h
def M1 : Nat := 6148914691236517205
def M2 : Nat := 3689348814741910323
def M3 : Nat := 1085102592571150095
theorem m1_eq : (6148914691236517205 : Nat) = 21845 + 65536 * (21845 + 65536 * (21845 + 65536 * 21845)) := by decide
theorem m2_eq : (3689348814741910323 : Nat) = 13107 + 65536 * (13107 + 65536 * (13107 + 65536 * 13107)) := by decide
theorem m3_eq : (1085102592571150095 : Nat) = 3855 + 65536 * (3855 + 65536 * (3855 + 65536 * 3855)) := by decide
theorem shr_div (x k : Nat) : x >>> k = x / 2 ^ k := Nat.shiftRight_eq_div_pow x k
/-- The first step, part by part. -/
def st1 (a : Nat) : Nat := ((a / 2) &&& 21845) + (a &&& 21845)
theorem st1_le (a : Nat) : st1 a ≤ 43690 := by
  have h1 : (a / 2) &&& 21845 ≤ 21845 := Nat.and_le_right
  have h2 : a &&& 21845 ≤ 21845 := Nat.and_le_right
  unfold st1
  omega
theorem ones1_16 {a : Nat} (ha : a < 65536) : ones1 a = st1 a := by
  unfold ones1 st1
  rw [shr_div, Nat.pow_one, and1 21845 (a / 2) _ (by omega) m1_eq (by omega), and1 21845 a _ (by omega) m1_eq ha]
theorem ones1_48 {a b c : Nat} (ha : a < 65536) (hb : b < 65536) (hc : c < 65536) : ones1 (a + 65536 * (b + 65536 * c)) = st1 a + 65536 * (st1 b + 65536 * st1 c) := by
  unfold ones1 st1
  have e : (a + 65536 * (b + 65536 * c)) / 2 = (a / 2 + 2 ^ 15 * (b % 2)) + 65536 * ((b / 2 + 2 ^ 15 * (c % 2)) + 65536 * (c / 2)) := by omega
  rw [shr_div, Nat.pow_one, e, and3 21845 _ _ _ _ (by omega) m1_eq (by omega) (by omega) (by omega), and3 21845 _ _ _ _ (by omega) m1_eq ha hb hc]
  rw [and_low 15 (a / 2) (b % 2) 21845 (by omega) (by omega), and_low 15 (b / 2) (c % 2) 21845 (by omega) (by omega)]
  omega
/-- The second step. -/
def st2 (a : Nat) : Nat := ((a / 4) &&& 13107) + (a &&& 13107)
theorem st2_le (a : Nat) : st2 a ≤ 26214 := by
  have h1 : (a / 4) &&& 13107 ≤ 13107 := Nat.and_le_right
  have h2 : a &&& 13107 ≤ 13107 := Nat.and_le_right
  unfold st2
  omega
theorem nib (a : Nat) : (a &&& 13107) % 16 ≤ 3 := by
  have := Nat.and_mod_two_pow (a := a) (b := 13107) (n := 4)
  rw [show (2 : Nat) ^ 4 = 16 by decide] at this
  rw [this, show 13107 % 16 = 3 by decide]
  exact Nat.and_le_right
theorem st2_nib (a : Nat) : st2 a % 16 ≤ 6 := by
  have h1 := nib (a / 4)
  have h2 := nib a
  unfold st2
  omega
theorem ones2_16 {a : Nat} (ha : a < 65536) : ones2 a = st2 a := by
  unfold ones2 st2
  rw [shr_div, show (2 : Nat) ^ 2 = 4 by decide, and1 13107 (a / 4) _ (by omega) m2_eq (by omega), and1 13107 a _ (by omega) m2_eq ha]
theorem ones2_48 {a b c : Nat} (ha : a < 65536) (hb : b < 65536) (hc : c < 65536) : ones2 (a + 65536 * (b + 65536 * c)) = st2 a + 65536 * (st2 b + 65536 * st2 c) := by
  unfold ones2 st2
  have e : (a + 65536 * (b + 65536 * c)) / 4 = (a / 4 + 2 ^ 14 * (b % 4)) + 65536 * ((b / 4 + 2 ^ 14 * (c % 4)) + 65536 * (c / 4)) := by omega
  rw [shr_div, show (2 : Nat) ^ 2 = 4 by decide, e, and3 13107 _ _ _ _ (by omega) m2_eq (by omega) (by omega) (by omega), and3 13107 _ _ _ _ (by omega) m2_eq ha hb hc]
  rw [and_low 14 (a / 4) (b % 4) 13107 (by omega) (by omega), and_low 14 (b / 4) (c % 4) 13107 (by omega) (by omega)]
  omega
/-- The third step. -/
def st3 (a : Nat) : Nat := (a / 16 + a) &&& 3855
theorem st3_le (a : Nat) : st3 a ≤ 3855 := Nat.and_le_right
theorem st3_top (y t : Nat) : (y + 4096 * t) &&& 3855 = y &&& 3855 := by
  have h1 := and_low 12 (y % 4096) (y / 4096 + t) 3855 (by omega) (by omega)
  have h2 := and_low 12 (y % 4096) (y / 4096) 3855 (by omega) (by omega)
  rw [show (2 : Nat) ^ 12 = 4096 by decide] at h1 h2
  rw [show y % 4096 + 4096 * (y / 4096 + t) = y + 4096 * t by omega] at h1
  rw [show y % 4096 + 4096 * (y / 4096) = y by omega] at h2
  rw [h1, h2]
theorem ones3_16 {a : Nat} (ha : a ≤ 26214) : ones3 a = st3 a := by
  unfold ones3 st3
  rw [shr_div, show (2 : Nat) ^ 4 = 16 by decide, and1 3855 _ _ (by omega) m3_eq (by omega)]
theorem ones3_48 {a b c : Nat} (ha : a ≤ 26214) (hb : b ≤ 26214) (hc : c ≤ 26214) (nb : b % 16 ≤ 6) (nc : c % 16 ≤ 6) : ones3 (a + 65536 * (b + 65536 * c)) = st3 a + 65536 * (st3 b + 65536 * st3 c) := by
  unfold ones3 st3
  have e : (a + 65536 * (b + 65536 * c)) / 16 + (a + 65536 * (b + 65536 * c)) = ((a / 16 + a) + 4096 * (b % 16)) + 65536 * (((b / 16 + b) + 4096 * (c % 16)) + 65536 * (c / 16 + c)) := by omega
  rw [shr_div, show (2 : Nat) ^ 4 = 16 by decide, e, and3 3855 _ _ _ _ (by omega) m3_eq (by omega) (by omega) (by omega), st3_top, st3_top]
theorem end_16 {u : Nat} (h : u ≤ 3855) : ones6 (ones5 (ones4 u)) &&& 127 = (u % 256 + u / 256) % 128 := by
  have h4 : ones4 u = u + u / 256 := by unfold ones4; rw [shr_div]
  have h5 : ones5 (u + u / 256) = u + u / 256 := by unfold ones5; rw [shr_div]; omega
  have h6 : ones6 (u + u / 256) = u + u / 256 := by unfold ones6; rw [shr_div]; omega
  rw [h4, h5, h6, show (127 : Nat) = 2 ^ 7 - 1 by decide, Nat.and_two_pow_sub_one_eq_mod]
  omega
theorem st3_low (a : Nat) : st3 a % 256 ≤ 15 := by
  unfold st3
  have := Nat.and_mod_two_pow (a := a / 16 + a) (b := 3855) (n := 8)
  rw [show (2 : Nat) ^ 8 = 256 by decide] at this
  rw [this, show 3855 % 256 = 15 by decide]
  exact Nat.and_le_right
theorem popN_split : ∀ (j k a b : Nat), a < 2 ^ j → popN (j + k) (a + 2 ^ j * b) = popN j a + popN k b
  | 0, k, a, b, h => by
    have : a = 0 := by simpa using h
    subst this
    simp [popN]
  | j + 1, k, a, b, h => by
    rw [show j + 1 + k = (j + k) + 1 by omega]
    show (a + 2 ^ (j + 1) * b) % 2 + popN (j + k) ((a + 2 ^ (j + 1) * b) / 2) = (a % 2 + popN j (a / 2)) + popN k b
    have e : 2 ^ (j + 1) * b = 2 * (2 ^ j * b) := by rw [Nat.pow_succ]; rw [Nat.mul_comm (2 ^ j) 2, Nat.mul_assoc]
    rw [e]
    have h2 : a / 2 < 2 ^ j := by rw [Nat.pow_succ] at h; omega
    rw [show (a + 2 * (2 ^ j * b)) / 2 = a / 2 + 2 ^ j * b by omega, show (a + 2 * (2 ^ j * b)) % 2 = a % 2 by omega, popN_split j k (a / 2) b h2]
    omega
theorem end_48 {u v w : Nat} (hu : u ≤ 3855) (hv : v ≤ 3855) (hw : w ≤ 3855) (lu : u % 256 ≤ 15) (lv : v % 256 ≤ 15) (lw : w % 256 ≤ 15) :
    ones6 (ones5 (ones4 (u + 65536 * (v + 65536 * w)))) &&& 127 = (u % 256 + u / 256) + ((v % 256 + v / 256) + (w % 256 + w / 256)) := by
  obtain ⟨u0, hu0⟩ : ∃ q, q = u % 256 := ⟨_, rfl⟩
  obtain ⟨u1, hu1⟩ : ∃ q, q = u / 256 := ⟨_, rfl⟩
  obtain ⟨v0, hv0⟩ : ∃ q, q = v % 256 := ⟨_, rfl⟩
  obtain ⟨v1, hv1⟩ : ∃ q, q = v / 256 := ⟨_, rfl⟩
  obtain ⟨w0, hw0⟩ : ∃ q, q = w % 256 := ⟨_, rfl⟩
  obtain ⟨w1, hw1⟩ : ∃ q, q = w / 256 := ⟨_, rfl⟩
  rw [← hu0, ← hu1, ← hv0, ← hv1, ← hw0, ← hw1]
  have eu : u = u0 + 256 * u1 := by omega
  have ev : v = v0 + 256 * v1 := by omega
  have ew : w = w0 + 256 * w1 := by omega
  have bu : u0 ≤ 15 ∧ u1 ≤ 15 := by omega
  have bv : v0 ≤ 15 ∧ v1 ≤ 15 := by omega
  have bw : w0 ≤ 15 ∧ w1 ≤ 15 := by omega
  rw [eu, ev, ew]
  clear hu hv hw lu lv lw hu0 hu1 hv0 hv1 hw0 hw1 eu ev ew
  have h4 : ones4 (u0 + 256 * u1 + 65536 * (v0 + 256 * v1 + 65536 * (w0 + 256 * w1))) = (u0 + u1) + 256 * (u1 + v0) + 65536 * (v0 + v1) + 16777216 * (v1 + w0) + 4294967296 * (w0 + w1) + 1099511627776 * w1 := by
    unfold ones4
    rw [shr_div, show (2 : Nat) ^ 8 = 256 by decide]
    omega
  rw [h4]
  have h5 : ones5 ((u0 + u1) + 256 * (u1 + v0) + 65536 * (v0 + v1) + 16777216 * (v1 + w0) + 4294967296 * (w0 + w1) + 1099511627776 * w1) = (u0 + u1 + v0 + v1) + 256 * (u1 + v0 + v1 + w0) + 65536 * (v0 + v1 + w0 + w1) + 16777216 * (v1 + w0 + w1) + 4294967296 * (w0 + w1) + 1099511627776 * w1 := by
    unfold ones5
    rw [shr_div, show (2 : Nat) ^ 16 = 65536 by decide]
    omega
  rw [h5]
  unfold ones6
  rw [shr_div, show (2 : Nat) ^ 32 = 4294967296 by decide, show (127 : Nat) = 2 ^ 7 - 1 by decide, Nat.and_two_pow_sub_one_eq_mod, show (2 : Nat) ^ 7 = 128 by decide]
  clear h4 h5
  have h6 : ((u0 + u1 + v0 + v1) + 256 * (u1 + v0 + v1 + w0) + 65536 * (v0 + v1 + w0 + w1) + 16777216 * (v1 + w0 + w1) + 4294967296 * (w0 + w1) + 1099511627776 * w1) / 4294967296 = (w0 + w1) + 256 * w1 := by omega
  rw [h6]
  clear h6
  omega
theorem pop_16 {a : Nat} (ha : a < 65536) : pop a = (st3 (st2 (st1 a)) % 256 + st3 (st2 (st1 a)) / 256) := by
  have h := (ones_ok ha).1
  unfold onesX at h
  have b1 := st1_le a
  have b2 := st2_le (st1 a)
  have b3 := st3_le (st2 (st1 a))
  have b4 := st3_low (st2 (st1 a))
  rw [ones1_16 ha, ones2_16 (by omega), ones3_16 b2, end_16 b3] at h
  omega
/-- Numbers below 2^48. -/
theorem ones48 {x : Nat} (hx : x < 281474976710656) : onesX x = popN 48 x ∧ ones1 x < 281474976710656 ∧ ones2 (ones1 x) < 281474976710656 ∧ ones3 (ones2 (ones1 x)) < 281474976710656 := by
  obtain ⟨a, b, c, e, ha, hb, hc⟩ : ∃ a b c, x = a + 65536 * (b + 65536 * c) ∧ a < 65536 ∧ b < 65536 ∧ c < 65536 := ⟨x % 65536, x / 65536 % 65536, x / 4294967296, by omega, by omega, by omega, by omega⟩
  subst e
  have a1 := st1_le a
  have b1 := st1_le b
  have c1 := st1_le c
  have a2 := st2_le (st1 a)
  have b2 := st2_le (st1 b)
  have c2 := st2_le (st1 c)
  have a3 := st3_le (st2 (st1 a))
  have b3 := st3_le (st2 (st1 b))
  have c3 := st3_le (st2 (st1 c))
  have h1 := ones1_48 ha hb hc
  have h2 := ones2_48 (a := st1 a) (b := st1 b) (c := st1 c) (by omega) (by omega) (by omega)
  have h3 := ones3_48 a2 b2 c2 (st2_nib _) (st2_nib _)
  have h4 := end_48 a3 b3 c3 (st3_low _) (st3_low _) (st3_low _)
  have p1 := popN_split 16 32 a (b + 65536 * c) (by omega)
  have p2 := popN_split 16 16 b c (by omega)
  rw [show (2 : Nat) ^ 16 = 65536 by decide] at p1 p2
  have q1 := pop_16 ha
  have q2 := pop_16 hb
  have q3 := pop_16 hc
  unfold pop at q1 q2 q3
  refine ⟨?_, by rw [h1]; omega, by rw [h1, h2]; omega, by rw [h1, h2, h3]; omega⟩
  unfold onesX
  rw [h1, h2, h3, h4, show (48 : Nat) = 16 + 32 by omega, p1, show (32 : Nat) = 16 + 16 by omega, p2, q1, q2, q3]
theorem popN_leN : ∀ k x, popN k x ≤ k
  | 0, _ => Nat.le_refl _
  | k + 1, x => by have := popN_leN k (x / 2); unfold popN; omega
end Go.Proofs.Ytnakpfbeeekmiaa
/- The form of at most some letters (plain). -/
namespace Go.Proofs.Ytnakpfbeeekmiaa

def opp (T : List Int) : List Int := T.map fun x => -x
theorem opp_len (T : List Int) : (opp T).length = T.length := by simp [opp]
/-- The clauses of c letters out of the last d, in order. -/
def cmb (L : Nat) : Nat → Nat → List (List Int)
  | _, 0 => [[]]
  | 0, _ + 1 => []
  | d + 1, c + 1 => (cmb L d c).map (fun T => (-((L - d : Nat) : Int)) :: T) ++ cmb L d (c + 1)
theorem cmb_zero (L d : Nat) : cmb L d 0 = [[]] := by cases d <;> rfl
theorem cmb_none (L c : Nat) : cmb L 0 (c + 1) = [] := rfl
theorem cmb_step (L d c : Nat) : cmb L (d + 1) (c + 1) = (cmb L d c).map (fun T => (-((L - d : Nat) : Int)) :: T) ++ cmb L d (c + 1) := rfl
/-- The letters of a number among the last d. -/
def low (L d m : Nat) : List Int := ((List.range d).filter fun i => m.testBit (d - (i + 1))).map fun (i : Nat) => ((i + (L - d) : Nat) : Int) + 1
theorem low_step {L d m : Nat} (h : d + 1 ≤ L) : low L (d + 1) m = (if m.testBit d then [((L - d : Nat) : Int)] else []) ++ low L d m := by
  unfold low
  rw [List.range_succ_eq_map, List.filter_cons, List.filter_map]
  have e0 : d + 1 - (0 + 1) = d := by omega
  rw [e0]
  have e1 : (List.filter ((fun i => m.testBit (d + 1 - (i + 1))) ∘ Nat.succ) (List.range d)) = List.filter (fun i => m.testBit (d - (i + 1))) (List.range d) := by
    refine List.filter_congr fun i hi => ?_
    show m.testBit (d + 1 - (i + 1 + 1)) = _
    congr 1; omega
  rw [e1]
  have e2 : ∀ T : List Nat, (List.map Nat.succ T).map (fun (i : Nat) => ((i + (L - (d + 1)) : Nat) : Int) + 1) = T.map (fun (i : Nat) => ((i + (L - d) : Nat) : Int) + 1) := fun T => by
    rw [List.map_map]
    refine List.map_congr_left fun i _ => ?_
    show ((i + 1 + (L - (d + 1)) : Nat) : Int) + 1 = _
    omega
  split
  · rw [List.map_cons, e2]
    show (((0 + (L - (d + 1)) : Nat) : Int) + 1) :: _ = [_] ++ _
    rw [List.singleton_append]
    congr 1
    omega
  · rw [e2]; rfl
theorem low_all (L m : Nat) : low L L m = trueK L m L := by
  unfold low trueK
  refine List.map_congr_left fun i _ => ?_
  omega
theorem low_more {L d m : Nat} : low L d (m + 2 ^ d) = low L d m := by
  unfold low
  congr 1
  refine List.filter_congr fun i hi => ?_
  have := List.mem_range.1 hi
  rw [Nat.add_comm, Nat.testBit_two_pow_add_gt (by omega)]
theorem popN_more {n d m : Nat} (hm : m < 2 ^ d) (hd : d < n) : popN n (m + 2 ^ d) = popN n m + 1 := by
  have h1 := popN_split d (n - d) m 1 hm
  have h0 := popN_split d (n - d) m 0 hm
  rw [Nat.mul_one, show d + (n - d) = n by omega] at h1
  rw [Nat.mul_zero, Nat.add_zero, show d + (n - d) = n by omega] at h0
  rw [h1, h0]
  obtain ⟨q, hq⟩ : ∃ q, n - d = q + 1 := ⟨n - d - 1, by omega⟩
  rw [hq]
  show popN d m + (1 % 2 + popN q (1 / 2)) = popN d m + (0 % 2 + popN q (0 / 2)) + 1
  simp
  omega
theorem popN_0 : ∀ n, popN n 0 = 0
  | 0 => rfl
  | n + 1 => by unfold popN; rw [Nat.zero_div, popN_0 n]
/-- All clauses, the greatest number first. -/
def desc (L d c : Nat) : List (List Int) := ((List.range (2 ^ d)).reverse.filter fun m => popN 48 m == c).map fun m => opp (low L d m)
theorem desc_cmb {L : Nat} (hL : L ≤ 10) : ∀ d c, d ≤ L → desc L d c = cmb L d c
  | 0, 0, _ => by unfold desc; simp [cmb, popN_0, low, opp]
  | 0, c + 1, _ => by unfold desc; simp [cmb, popN_0]
  | d + 1, c, h => by
    have ih := fun c => desc_cmb hL d c (by omega)
    have hr : (List.range (2 ^ (d + 1))).reverse = ((List.range (2 ^ d)).reverse.map fun m => m + 2 ^ d) ++ (List.range (2 ^ d)).reverse := by
      rw [Nat.pow_succ, Nat.mul_two, List.range_add, List.reverse_append, List.map_reverse]
      congr 2
      refine List.map_congr_left fun i _ => Nat.add_comm _ _
    have hlo : ((List.range (2 ^ d)).reverse.filter fun m => popN 48 m == c).map (fun m => opp (low L (d + 1) m)) = desc L d c := by
      unfold desc
      refine List.map_congr_left fun m hm => ?_
      have hm2 : m < 2 ^ d := by
        have := (List.mem_filter.1 hm).1
        rw [List.mem_reverse] at this
        exact List.mem_range.1 this
      rw [low_step h, Nat.testBit_lt_two_pow hm2]; rfl
    have e : desc L (d + 1) c = (((List.range (2 ^ d)).reverse.filter fun m => popN 48 m + 1 == c).map fun m => (-((L - d : Nat) : Int)) :: opp (low L d m)) ++ desc L d c := by
      show ((List.range (2 ^ (d + 1))).reverse.filter fun m => popN 48 m == c).map (fun m => opp (low L (d + 1) m)) = _
      rw [hr, List.filter_append, List.map_append, hlo]
      congr 1
      rw [List.filter_map, List.map_map]
      have hf : (List.range (2 ^ d)).reverse.filter ((fun m => popN 48 m == c) ∘ fun m => m + 2 ^ d) = (List.range (2 ^ d)).reverse.filter fun m => popN 48 m + 1 == c := by
        refine List.filter_congr fun m hm => ?_
        rw [List.mem_reverse] at hm
        show (popN 48 (m + 2 ^ d) == c) = _
        rw [popN_more (List.mem_range.1 hm) (by omega)]
      rw [hf]
      refine List.map_congr_left fun m hm => ?_
      have hm2 : m < 2 ^ d := by
        have := (List.mem_filter.1 hm).1
        rw [List.mem_reverse] at this
        exact List.mem_range.1 this
      show opp (low L (d + 1) (m + 2 ^ d)) = _
      rw [low_step h, low_more, Nat.add_comm, Nat.testBit_two_pow_add_eq, Nat.testBit_lt_two_pow hm2]
      rfl
    rw [e, ih]
    cases c with
    | zero =>
      have : ((List.range (2 ^ d)).reverse.filter fun m => popN 48 m + 1 == 0) = [] := by
        rw [List.filter_eq_nil_iff]; intro m _; simp
      rw [this, cmb_zero, cmb_zero]; rfl
    | succ c =>
      rw [cmb_step, ← ih c]
      congr 1
      unfold desc
      rw [List.map_map]
      have : ((List.range (2 ^ d)).reverse.filter fun m => popN 48 m + 1 == c + 1) = (List.range (2 ^ d)).reverse.filter fun m => popN 48 m == c := by
        refine List.filter_congr fun m _ => ?_
        rw [Bool.eq_iff_iff]; simp
      rw [this]; rfl
/-- What the program has put together behind j numbers. -/
def amK (L c N : Nat) : Nat → List (List Int)
  | 0 => []
  | j + 1 => if popN 48 (N - 1 - j) = c then amK L c N j ++ [opp (trueK L (N - 1 - j) L)] else amK L c N j
theorem amK_yes {L c N j : Nat} (h : popN 48 (N - 1 - j) = c) : amK L c N (j + 1) = amK L c N j ++ [opp (trueK L (N - 1 - j) L)] := by rw [amK, if_pos h]
theorem amK_no {L c N j : Nat} (h : ¬ popN 48 (N - 1 - j) = c) : amK L c N (j + 1) = amK L c N j := by rw [amK, if_neg h]
theorem amK_few (L c N : Nat) : ∀ j, (amK L c N j).length ≤ j
  | 0 => Nat.le_refl _
  | j + 1 => by have := amK_few L c N j; unfold amK; split <;> simp <;> omega
theorem amK_is (L c N : Nat) : ∀ j, amK L c N j = (((List.range j).map fun i => N - 1 - i).filter fun m => popN 48 m == c).map fun m => opp (trueK L m L)
  | 0 => rfl
  | j + 1 => by
    rw [List.range_succ, List.map_append, List.filter_append, List.map_append, ← amK_is L c N j]
    by_cases h : popN 48 (N - 1 - j) = c
    · rw [amK_yes h]; simp [h]
    · rw [amK_no h]; simp [h]
theorem amK_cmb {L c : Nat} (hL : L ≤ 10) (hc : 1 ≤ c) : amK L c (2 ^ L) (2 ^ L - 1) = cmb L L c := by
  rw [← desc_cmb hL L c (Nat.le_refl _)]
  have hN : 0 < 2 ^ L := Nat.two_pow_pos L
  obtain ⟨N, hN2⟩ : ∃ N, N = 2 ^ L := ⟨_, rfl⟩
  rw [← hN2] at hN ⊢
  have hr : (List.range N).reverse = (List.range N).map fun i => N - 1 - i := by
    refine List.ext_getElem (by simp) fun i h1 h2 => ?_
    simp only [List.length_reverse, List.length_range] at h1
    rw [List.getElem_reverse, List.getElem_range, List.getElem_map, List.getElem_range, List.length_range]
  have h2 : amK L c N N = amK L c N (N - 1) := by
    obtain ⟨q, rfl⟩ : ∃ q, N = q + 1 := ⟨N - 1, by omega⟩
    rw [Nat.add_sub_cancel]
    refine amK_no ?_
    rw [Nat.add_sub_cancel, Nat.sub_self, popN_0]; omega
  have h3 : desc L L c = (((List.range (2 ^ L)).reverse).filter fun m => popN 48 m == c).map fun m => opp (trueK L m L) := by
    unfold desc
    refine List.map_congr_left fun m _ => ?_
    rw [low_all]
  rw [← h2, amK_is, ← hr, h3, hN2]
theorem cmb_mem {L : Nat} : ∀ d c T, d ≤ L → T ∈ cmb L d c → (∀ x ∈ T, ((L - d : Nat) : Int) + 1 ≤ -x ∧ -x ≤ (L : Int)) ∧ T.Pairwise (fun a b => -a < -b) ∧ T.length = c
  | d, 0, T, _, h => by
    rw [cmb_zero, List.mem_singleton] at h
    subst h; simp
  | 0, c + 1, T, _, h => by rw [cmb_none] at h; simp at h
  | d + 1, c + 1, T, hd, h => by
    rw [cmb_step, List.mem_append, List.mem_map] at h
    rcases h with ⟨T', h, rfl⟩ | h
    · obtain ⟨h1, h2, h3⟩ := cmb_mem d c T' (by omega) h
      refine ⟨fun x hx => ?_, List.pairwise_cons.2 ⟨fun x hx => ?_, h2⟩, by rw [List.length_cons, h3]⟩
      · rcases List.mem_cons.1 hx with rfl | hx
        · omega
        · have := h1 x hx; omega
      · have := h1 x hx; omega
    · obtain ⟨h1, h2, h3⟩ := cmb_mem d (c + 1) T (by omega) h
      exact ⟨fun x hx => by have := h1 x hx; omega, h2, h3⟩
theorem cmb_cl {L c : Nat} (h1 : 1 ≤ L) (hL : L ≤ 10) {T : List Int} (h : T ∈ cmb L L c) : ClOk (L : Int) T := by
  obtain ⟨a, b, -⟩ := cmb_mem L c T (Nat.le_refl _) h
  have e : ∀ x ∈ T, ltr x = -x := fun x hx => by have := a x hx; unfold ltr; rw [if_pos (by omega)]
  have m : ∀ i, (hi : i < T.length) → T.getD i 0 = T[i] := fun i hi => by simp [List.getD, hi]
  refine ⟨by omega, by omega, fun i hi => ?_, fun i j hij hj => ?_⟩
  · rw [m i hi, e _ (List.getElem_mem _)]
    have := a _ (List.getElem_mem hi)
    omega
  · rw [m i (by omega), m j hj, e _ (List.getElem_mem _), e _ (List.getElem_mem _)]
    exact (List.pairwise_iff_getElem.1 b) i j (by omega) hj hij
theorem getDL {X : List (List Int)} {k : Nat} (hk : k < X.length) : X.getD k [] = X[k] := by simp [List.getD, hk]
theorem cmb_form {L c n : Nat} (h1 : 1 ≤ L) (hL : L ≤ 10) : formB ⟨(L : Int), (cmb L L c).take n⟩ = decide (((cmb L L c).take n).length ≤ 48) := by
  unfold formB
  have a : inB (L : Int) 1 10 = true := by unfold inB; rw [decide_eq_true (by omega), decide_eq_true (by omega)]; rfl
  have b : allCl (L : Int) ((cmb L L c).take n) = true := allCl_yes fun k hk => by
    refine clB_of (cmb_cl (c := c) h1 hL ?_)
    rw [getDL hk]
    exact List.mem_of_mem_take (List.getElem_mem hk)
  show (inB (L : Int) 1 10 && (decide (((cmb L L c).take n).length ≤ 48) && allCl (L : Int) ((cmb L L c).take n))) = _
  rw [a, b, Bool.true_and, Bool.and_true]
def amB (n m : Int) : Bool := inB n 1 10 && (inB m 0 n && decide ((cmb n.toNat n.toNat (m.toNat + 1)).length ≤ 48))
def amF (n m : Int) : Fm := if amB n m then ⟨n, cmb n.toNat n.toNat (m.toNat + 1)⟩ else ⟨0, []⟩
theorem amF_no {n m : Int} (h : amB n m = false) : amF n m = ⟨0, []⟩ := by unfold amF; rw [h]; rfl
theorem amF_yes {n m : Int} (h : amB n m = true) : amF n m = ⟨n, cmb n.toNat n.toNat (m.toNat + 1)⟩ := by unfold amF; rw [if_pos h]
theorem amF_len (n m : Int) : szL (amF n m).cs ≤ 1048576 := by
  unfold amF
  split
  · rename_i h
    unfold amB at h
    simp only [Bool.and_eq_true, decide_eq_true_eq] at h
    have hn := inB_ok h.1
    have hl := h.2.2
    have each : ∀ i, i < (cmb n.toNat n.toNat (m.toNat + 1)).length → ((cmb n.toNat n.toNat (m.toNat + 1)).getD i []).length ≤ 10 := fun i hi => by
      rw [getDL hi]
      have h4 := (cmb_cl (L := n.toNat) (by omega) (by omega) (List.getElem_mem hi)).len
      rw [Int.toNat_natCast] at h4
      omega
    have ht : ∀ k, k ≤ (cmb n.toNat n.toNat (m.toNat + 1)).length → totAt (cmb n.toNat n.toNat (m.toNat + 1)) k ≤ 10 * k := by
      intro k
      induction k with
      | zero => intro _; exact Nat.le_refl _
      | succ k ih =>
        intro hk
        have := ih (by omega)
        have := each k (by omega)
        show totAt _ k + ((cmb n.toNat n.toNat (m.toNat + 1)).getD k []).length ≤ _
        omega
    have := ht _ (Nat.le_refl _)
    show szL (cmb n.toNat n.toNat (m.toNat + 1)) ≤ _
    unfold szL
    omega
  · simp [szL, totAt]
end Go.Proofs.Ytnakpfbeeekmiaa
/- A form of the call's own that grows: its letters, and clauses that are put behind one another. -/
namespace Go.Proofs.Ytnakpfbeeekmiaa
open Go.RowKit Go.ChangeShapes Go.WideShapes

def SaysFB (N : Fm) (b : Bool) (w : World) (e : Ending) (w' : World) : Prop := ∃ v, e = .returned (.tuple #[v, .bool b]) ∧ FmD w.heap.size w'.heap.size w' v N ∧ Below w.heap.size w w'
/-- A box of two cells that may be written. -/
structure Res2 (w : World) (g : Nat) : Prop where
  c0 : ∃ u, w.cell? ⟨g, 0, none⟩ = some u
  c1 : ∃ u, w.cell? ⟨g, 1, none⟩ = some u
  free : ∀ i, w.frozen? ⟨g, i, none⟩ = false
theorem Res2.keep {B : Nat} {w w' : World} {g : Nat} (h : Res2 w g) (hb : Below B w w') (hg : g < B) : Res2 w' g := by
  obtain ⟨⟨u, h0⟩, ⟨v, h1⟩, hf⟩ := h
  exact ⟨⟨u, by rw [hb.cell (p := ⟨g, 0, none⟩) hg]; exact h0⟩, ⟨v, by rw [hb.cell (p := ⟨g, 1, none⟩) hg]; exact h1⟩, fun i => by rw [hb.frozen (p := ⟨g, i, none⟩) hg]; exact hf i⟩
theorem Res2.lt {w : World} {g : Nat} (h : Res2 w g) : g < w.heap.size := by
  obtain ⟨u, h0⟩ := h.c0
  exact cell_block h0
/-- The form in block g has the letters L and the clauses C. -/
structure FoUp (L : Int) (C : List (List Int)) (g : Nat) (s : Value) (w wr : World) (U : Nat → Value) : Prop where
  box : wr.heap[g]? = some (.cells #[.int .i64 L, s] 29 (0, 0))
  out : OutUp w.heap.size C s w wr U
  ne : s.ownBlock ≠ some g
  nu : ∀ j, j < C.length → (U j).ownBlock ≠ some g
  ge : w.heap.size ≤ g
theorem FoUp.lt {L : Int} {C : List (List Int)} {g : Nat} {s : Value} {w wr : World} {U : Nat → Value} (h : FoUp L C g s w wr U) : g < wr.heap.size := (Array.getElem?_eq_some_iff.1 h.box).1
theorem FoUp.keep {L : Int} {C : List (List Int)} {g : Nat} {s : Value} {w wr w2 : World} {U : Nat → Value} (h : FoUp L C g s w wr U) (b : Below wr.heap.size wr w2) : FoUp L C g s w w2 U :=
  ⟨by rw [b.block g h.lt]; exact h.box, h.out.keep b, h.ne, h.nu, h.ge⟩
theorem FoUp.cells {L : Int} {C : List (List Int)} {g : Nat} {s : Value} {w wr : World} {U : Nat → Value} (h : FoUp L C g s w wr U) :
    wr.cell? ⟨g, 0, none⟩ = some (.int .i64 L) ∧ wr.cell? ⟨g, 1, none⟩ = some s ∧ wr.frozen? ⟨g, 1, none⟩ = false :=
  ⟨by rw [Lib.cell_of_heap h.box]; rfl, by rw [Lib.cell_of_heap h.box]; rfl, Lib.frozen_of_heap h.box 1⟩
theorem FoUp.start (L : Int) {w w1 : World} (hb : Below w.heap.size w w1) : FoUp L [] w1.heap.size (.slice none 0 0) w (w1.alloc (.cells #[.int .i64 L, .slice none 0 0] 29)) (fun _ => vnil) :=
  ⟨heap_alloc_new w1 _, ⟨World.ownsRow_nil _ _ _ _, fun j h => by simp at h, fun j h => by simp at h, fun i j h => by simp at h, hb.alloc hb.size _⟩, by simp [Value.ownBlock], fun j h => by simp at h, hb.size⟩
/-- One more clause: d was made behind wr, then the row of clauses has grown, and lies in its field. -/
theorem FoUp.next {L : Int} {C : List (List Int)} {Z : List Int} {g gg cap : Nat} {s d : Value} {w wr w0 w1 : World} {U : Nat → Value} (h : FoUp L C g s w wr U) (h0 : Below wr.heap.size wr w0)
    (hd : Grows (Value.int .i64) 2 wr.heap.size d Z w0)
    (hown : w1.ownsRow w.heap.size 25 1 (.slice (some ⟨gg, 0, none⟩) (C.length + 1) cap) (C.length + 1) ((List.range C.length).map U ++ [d])) (hgr : w0.grownBy w1 s.ownBlock) (hat : s.ownBlock = some gg ∨ gg = w0.heap.size) (q : Nat) :
    FoUp L (C ++ [Z]) g (.slice (some ⟨gg, 0, none⟩) (C.length + 1) cap) w ((w1.drewN q).setCell ⟨g, 1, none⟩ (.slice (some ⟨gg, 0, none⟩) (C.length + 1) cap)) (fun j => if j = C.length then d else U j) := by
  have hk := h.keep h0
  have hws := h.out.below.size
  have hfar : ∀ b, d.ownBlock = some b → wr.heap.size ≤ b := fun b e => (World.ownsRow.lt hd b e).1
  have hst := hk.out.step (d := d) (Z := Z) (g := gg) (cap := cap) (w2 := w1) (Nat.le_refl _) (hd.lower hws)
    (fun b e => ⟨fun e2 => by have h1 := hfar b e; have h2 := (World.ownsRow.lt h.out.own b e2).2; omega, fun j hj e2 => by have h1 := hfar b e; have h2 := (World.ownsRow.lt (h.out.row j hj) b e2).2; omega⟩) hown hgr hat
  have hg1 : g < w1.heap.size := Nat.lt_of_lt_of_le hk.lt hgr.size
  have hb1 : w1.heap[g]? = some (.cells #[.int .i64 L, s] 29 (0, 0)) := by rw [hgr.block g hk.lt (fun e => h.ne e.symm)]; exact hk.box
  have hne : gg ≠ g := by
    rcases hat with e | e
    · intro q; exact h.ne (by rw [e, q])
    · have := hk.lt; omega
  have hnd : d.ownBlock ≠ some g := fun e => by have := hfar g e; have := h.lt; omega
  have hgw : (w1.drewN q).grownBy ((w1.drewN q).setCell ⟨g, 1, none⟩ (.slice (some ⟨gg, 0, none⟩) (C.length + 1) cap)) (some g) := grown_set _ _ _ _
  have hl : (C ++ [Z]).length = C.length + 1 := by simp
  have nub : ∀ j, j < C.length + 1 → (if j = C.length then d else U j).ownBlock ≠ some g := fun j hj => by
    by_cases e : j = C.length
    · rw [if_pos e]; exact hnd
    · rw [if_neg e]; exact h.nu j (by omega)
  refine ⟨?_, ⟨?_, fun j hj => ?_, hst.ne, hst.inj, ?_⟩, fun e => hne (by injection e), fun j hj => nub j (by rw [hl] at hj; exact hj), h.ge⟩
  · show ((w1.drewN q).setCell _ _).heap[g]? = _
    have h3 : (w1.drewN q).heap[g]? = some (.cells #[.int .i64 L, s] 29 (0, 0)) := hb1
    rw [World.setCell]
    simp only [Array.getElem?_modify, if_true, h3]
    rfl
  · exact World.ownsRow.kept (show (w1.drewN q).ownsRow _ _ _ _ _ _ from hst.own) hgw (Or.inr fun e => hne (by injection e))
  · refine World.ownsRow.kept (show (w1.drewN q).ownsRow _ _ _ _ _ _ from hst.row j hj) hgw ?_
    rw [hl] at hj
    exact Or.inr (nub j hj)
  · exact (below_drewN hst.below q).setCell h.ge _
theorem FoUp.fmd {L : Int} {C : List (List Int)} {g : Nat} {s : Value} {w wr : World} {U : Nat → Value} (h : FoUp L C g s w wr U) : FmD w.heap.size wr.heap.size wr (.agg #[.int .i64 L, s]) ⟨L, C⟩ := by
  refine ⟨s, rfl, ?_⟩
  show LD _ _ wr s C
  by_cases h0 : C.length = 0
  · have hC : C = [] := List.eq_nil_of_length_eq_zero h0
    rcases h.out.own.2 with ⟨e, _⟩ | ⟨g2, cap, cur, e, _⟩
    · rw [e, hC]; exact LD.nil _ (Nat.le_refl _) _ _
    · rw [e, h0, hC]; exact LD.nil _ (Nat.le_refl _) _ _
  · exact h.out.ld (by omega)
theorem FoUp.slice {L : Int} {C : List (List Int)} {g : Nat} {s : Value} {w wr : World} {U : Nat → Value} (h : FoUp L C g s w wr U) : ∃ ao cap, s = .slice ao C.length cap := by
  rcases h.out.own.2 with ⟨e, h0⟩ | ⟨g2, cap, cur, e, _⟩
  · exact ⟨none, 0, by rw [e, h0]⟩
  · exact ⟨_, _, e⟩
/-- The field stands while the row of clauses grows. -/
theorem FoUp.kept {L : Int} {C : List (List Int)} {g : Nat} {s : Value} {w wr w0 w1 : World} {U : Nat → Value} (h : FoUp L C g s w wr U) (h0 : Below wr.heap.size wr w0) (hgr : w0.grownBy w1 s.ownBlock) :
    w1.cell? ⟨g, 1, none⟩ = some s ∧ w1.frozen? ⟨g, 1, none⟩ = false := by
  have hk := h.keep h0
  have hb : w1.heap[g]? = some (.cells #[.int .i64 L, s] 29 (0, 0)) := by rw [hgr.block g hk.lt (fun e => h.ne e.symm)]; exact hk.box
  exact ⟨by rw [Lib.cell_of_heap hb]; rfl, Lib.frozen_of_heap hb 1⟩
/-- The form as a result: what was written behind it lies ahead of its lists. -/
theorem FoUp.res {L : Int} {C : List (List Int)} {g lo hi B : Nat} {s : Value} {w wr X : World} {U : Nat → Value} (h : FoUp L C g s w wr U) (ht : Turned lo hi wr X) (hs : hi ≤ w.heap.size) (hB : B ≤ w.heap.size) :
    FmD B X.heap.size X (.agg #[.int .i64 L, s]) ⟨L, C⟩ := by
  obtain ⟨s', e, hl⟩ := h.fmd
  exact ⟨s', e, LD.wide (hl.kept' ht (Or.inr hs)) hB ht.size (Nat.le_refl _)⟩
theorem saysFB_no {w X : World} (hb : Below w.heap.size w X) : SaysFB ⟨0, []⟩ false w (.returned (.tuple #[.agg #[.int .i64 0, .slice none 0 0], .bool false])) X := ⟨_, rfl, ⟨_, rfl, LD.nil _ (Nat.le_refl _) _ _⟩, hb⟩
end Go.Proofs.Ytnakpfbeeekmiaa
/- Where lists of integers lie. -/
namespace Go.Proofs.Ytnakpfbeeekmiaa
open Go.RowKit Go.ChangeShapes Go.WideShapes

/-- Where a list of numbers lies, also an empty one, but nil. -/
def LiesI (w : World) (ad : Addr) (Z : List Int) : Prop := ∀ (o : Obj) j u, (Z.map (Value.int .i64))[j]? = some u → (w.alloc o).cell? (ad.add j) = some u
theorem IL.lies {w : World} {v : Value} {Z : List Int} (h : IL w v Z) : (Z = [] ∧ ∃ cap, v = .slice none 0 cap) ∨ ∃ ad cap, v = .slice (some ad) Z.length cap ∧ LiesI w ad Z := by
  rcases h with ⟨rfl, ao, cap, rfl⟩ | ⟨b, off, cap, rfl, hpos, hbl, hcell⟩
  · cases ao with
    | none => exact Or.inl ⟨rfl, cap, rfl⟩
    | some ad => exact Or.inr ⟨ad, cap, rfl, fun o j u hu => by simp at hu⟩
  · refine Or.inr ⟨_, _, rfl, fun o j u hu => ?_⟩
    have hj : j < Z.length := by
      have := (List.getElem?_eq_some_iff.1 hu).1
      simpa using this
    rw [Go.WideShapes.add_plain, (below_alloc w o).cell (p := ⟨b, off + j, none⟩) hbl, hcell j hj]
    rw [← hu]
    simp [List.getD, hj]
theorem map_oneI (Z : List Int) : ∀ u ∈ Z.map (Value.int .i64), u.oneCell' = true := by
  intro u hu
  obtain ⟨x, -, rfl⟩ := List.mem_map.1 hu
  rfl
end Go.Proofs.Ytnakpfbeeekmiaa
/- The form of at most some letters: the model's recursion. -/
namespace Go.Proofs.Ytnakpfbeeekmiaa
open Go.RowKit Go.ChangeShapes Go.WideShapes

theorem Try.infoLS : (Try.prog.info? 25).map (fun i => (i.zero, i.size, i.bytes)) = some (some (.slice none 0 0), 1, 24) := by kernel_rfl
/-- The row is the old one, or a new one. -/
def OwnOr (s s' : Value) (w : World) : Prop := s'.ownBlock = s.ownBlock ∨ ∃ g, s'.ownBlock = some g ∧ w.heap.size ≤ g
theorem OwnOr.same (s : Value) (w : World) : OwnOr s s w := Or.inl rfl
theorem OwnOr.then {s s1 s2 : Value} {w w1 : World} (h : OwnOr s s1 w) (k : OwnOr s1 s2 w1) (hw : w.heap.size ≤ w1.heap.size) : OwnOr s s2 w := by
  rcases k with e | ⟨g, e, h2⟩
  · rcases h with e2 | ⟨g, e2, h2⟩
    · exact Or.inl (e.trans e2)
    · exact Or.inr ⟨g, e.trans e2, h2⟩
  · exact Or.inr ⟨g, e, Nat.le_trans hw h2⟩
theorem grown_or {s s1 : Value} {w w1 w2 : World} (h : w.grownBy w1 s.ownBlock) (k : w1.grownBy w2 s1.ownBlock) (o : OwnOr s s1 w) : w.grownBy w2 s.ownBlock :=
  ⟨k.os.trans h.os, k.tape.trans h.tape, k.output.trans h.output, Nat.le_trans h.size k.size, fun i hi hne => (k.block i (Nat.lt_of_lt_of_le hi h.size) (by
    rcases o with e | ⟨g, e, hg⟩
    · rw [e]; exact hne
    · rw [e]; intro q; injection q with q; omega)).trans (h.block i hi hne)⟩
theorem grown_below {w w' : World} (b : Below w.heap.size w w') (row : Option Nat) : w.grownBy w' row := ⟨b.os, b.tape, b.output, b.size, fun i hi _ => b.block i hi⟩
/-- What the recursion puts together. -/
def chL (L d c : Nat) (now : List Int) (Out : List (List Int)) : List (List Int) := Out ++ ((cmb L d c).map (fun T => now ++ T)).take (49 - Out.length)
theorem chL_end {L d : Nat} {now : List Int} {Out : List (List Int)} (h : Out.length ≤ 48) : chL L d 0 now Out = Out ++ [now] := by
  unfold chL
  rw [cmb_zero]
  obtain ⟨q, hq⟩ : ∃ q, 49 - Out.length = q + 1 := ⟨48 - Out.length, by omega⟩
  rw [hq]; simp
theorem chL_none {L c : Nat} {now : List Int} {Out : List (List Int)} : chL L 0 (c + 1) now Out = Out := by
  unfold chL; rw [cmb_none]; simp
theorem chL_full {L d c : Nat} {now : List Int} {Out : List (List Int)} (h : Out.length = 49) : chL L d c now Out = Out := by
  unfold chL; rw [h]; simp
theorem chL_len {L d c : Nat} {now : List Int} {Out : List (List Int)} (h : Out.length ≤ 49) : (chL L d c now Out).length ≤ 49 := by
  unfold chL; rw [List.length_append, List.length_take]; omega
theorem chL_step (L d c : Nat) (now : List Int) (Out : List (List Int)) : chL L (d + 1) (c + 1) now Out = chL L d (c + 1) now (chL L d c (now ++ [-((L - d : Nat) : Int)]) Out) := by
  unfold chL
  rw [cmb_step, List.map_append, List.map_map, List.take_append]
  have e : List.map ((fun T => now ++ T) ∘ fun T => (-((L - d : Nat) : Int)) :: T) (cmb L d c) = List.map (fun T => (now ++ [-((L - d : Nat) : Int)]) ++ T) (cmb L d c) :=
    List.map_congr_left fun T _ => by simp
  rw [e, ← List.append_assoc]
  congr 2
  rw [List.length_append, List.length_take]
  omega
def ChSays (lo : Nat) (G : List (List Int)) (s : Value) (w0 w : World) (e : Ending) (w' : World) : Prop :=
  ∃ s' U', e = .returned s' ∧ OutUp lo G s' w0 w' U' ∧ w.grownBy w' s.ownBlock ∧ OwnOr s s' w
theorem ch_put {lo g cap : Nat} {Out : List (List Int)} {Z : List Int} {s d : Value} {w0 w w1 w9 : World} {U : Nat → Value} {o : Obj} (hO : OutUp lo Out s w0 w U) (hlo : w0.heap.size ≤ lo) (hl : lo ≤ w.heap.size)
    (hd : Grows (Value.int .i64) 2 w.heap.size d Z w1) (hb : Below w.heap.size w w1)
    (hown : w9.ownsRow lo 25 1 (.slice (some ⟨g, 0, none⟩) (Out.length + 1) cap) (Out.length + 1) ((List.range Out.length).map U ++ [d])) (hgrow : (w1.alloc o).grownBy w9 s.ownBlock) (hat : s.ownBlock = some g ∨ g = (w1.alloc o).heap.size) :
    ChSays lo (Out ++ [Z]) s w0 w (.returned (.slice (some ⟨g, 0, none⟩) (Out.length + 1) cap)) w9 := by
  have hb2 : Below w.heap.size w (w1.alloc o) := hb.alloc hb.size o
  have hfar : ∀ b, d.ownBlock = some b → w.heap.size ≤ b := fun b e => (World.ownsRow.lt hd b e).1
  have hst := (hO.keep hb2).step hlo ((hd.below (below_alloc w1 o) (Nat.le_refl _)).lower hl)
    (fun b e => ⟨fun e2 => by have h1 := hfar b e; have h2 := (World.ownsRow.lt hO.own b e2).2; omega, fun j hj e2 => by have h1 := hfar b e; have h2 := (World.ownsRow.lt (hO.row j hj) b e2).2; omega⟩) hown hgrow hat
  refine ⟨_, _, rfl, hst, grown_or (grown_below hb2 _) hgrow (OwnOr.same _ _), ?_⟩
  rcases hat with e | e
  · exact Or.inl e.symm
  · exact Or.inr ⟨g, rfl, by rw [e]; exact hb2.size⟩
theorem OutUp.slice {lo : Nat} {Out : List (List Int)} {s : Value} {w wr : World} {U : Nat → Value} (h : OutUp lo Out s w wr U) : ∃ ao cap, s = .slice ao Out.length cap := by
  rcases h.own.2 with ⟨e, h0⟩ | ⟨g2, cap, cur, e, _⟩
  · exact ⟨none, 0, by rw [e, h0]⟩
  · exact ⟨_, _, e⟩
theorem lies_grows {B : Nat} {w : World} {ad : Addr} {cap : Nat} {P : List Int} (h : Grows (Value.int .i64) 2 B (.slice (some ad) P.length cap) P w) : LiesI w ad P := by
  rcases IL.lies (SI.vl (Grows.si h)) with ⟨_, c, e⟩ | ⟨ad', c, e, hl⟩
  · cases e
  · injection e with e _ _
    injection e with e
    subst e
    exact hl
set_option maxRecDepth 100000 in
set_option maxHeartbeats 4000000 in
theorem choose_end (L lo : Nat) (x : Int) (now : List Int) (na : Addr) (nc : Nat) (Out : List (List Int)) (s : Value) (w0 w : World) (U : Nat → Value) (hO : OutUp lo Out s w0 w U) (hlo : w0.heap.size ≤ lo) (hl : lo ≤ w.heap.size)
    (ho : Out.length ≤ 48) (hN : Grows (Value.int .i64) 2 lo (.slice (some na) now.length nc) now w) (hn : now.length ≤ 16) :
    Calls Try.prog 79 #[.int .i64 (L : Int), .int .i64 x, .int .i64 0, .slice (some na) now.length nc, s] w (ChSays lo (Out ++ [now]) s w0 w) := by
  obtain ⟨i0, hi, hz0, hz1, hz2⟩ := info_parts Try.infoI
  obtain ⟨j0, hj, hy0, hy1, hy2⟩ := info_parts Try.infoLS
  have HO := Lib.hid hO
  have HL := Lib.hid (lies_grows hN)
  have HOW : Hid (∀ W, Below w.heap.size w W → W.ownsRow lo 25 1 s Out.length ((List.range Out.length).map U)) := Lib.hid fun W b => (hO.keep b).own
  clear hO hN
  go_enter Try.func79, Try.ntmps79
  go_wp2_with (first
    | (at_builtin; refine wpList_append_own _ rfl _ _ 25 rfl w.heap.size 2 i0 (.int .i64 0) 1 8 Try.underlying25 hi hz0 hz1 hz2 rfl (by decide) _ _ _ rfl (Grows.empty (Value.int .i64) _ _ w (Nat.le_refl _)) na now.length nc (now.map (Value.int .i64)) rfl (by simp) (HL.out _) (map_oneI now) (by simp; unfold maxLen; omega) (by simp; omega) (by simp) ?_; intro v1 w1 hown hgrow _; have HB1 := Lib.hid ((below_alloc w _).grown hgrow (by simp) (fun k hk => Nat.le_of_eq (Option.some.inj hk))); have HN1 : Hid (Grows (Value.int .i64) 2 w.heap.size v1 now w1) := Lib.hid (by have h := hown; show World.ownsRow _ _ _ _ _ _ _; simpa using h); clear hown hgrow; obtain ⟨va, vc, rfl⟩ := SI.len (d := (0 : Int)) HN1.out.si; have hz1 : w.heap.size ≤ w1.heap.size := HB1.out.size)
    | (at_builtin; (refine wpList_append_lies _ rfl _ _ 22 rfl lo 25 j0 (.slice none 0 0) 1 24 Try.underlying22 hj hy0 hy1 hy2 rfl (by decide) _ _ _ rfl (HOW.out _ (HB1.out.alloc HB1.out.size _)) ⟨w1.heap.size, 0, none⟩ 1 1 [.slice va now.length vc] rfl rfl one_new (by intro u hu; simp at hu; subst hu; rfl) (by omega) (by unfold maxLen; omega) (by omega) (by simp; omega) (w1.heap.size + 1) (by simp) ?_); intro g3 cap3 w9 hown hgrow hat hgl; (have HP := Lib.hid (ch_put HO.out hlo hl HN1.out HB1.out hown hgrow (hat.imp id (fun e => by rw [e]; simp)))); clear hown hgrow hat))
  go_ret
  exact HP.out
set_option maxRecDepth 100000 in
set_option maxHeartbeats 8000000 in
theorem choose_step (L lo c : Nat) (hL : L ≤ 10) (hc : c ≤ 10) (w0 : World)
    (ih : ∀ (M e : Nat) (now : List Int) (na : Addr) (nc : Nat) (Out : List (List Int)) (s : Value) (w : World) (U : Nat → Value), M + e = L + 1 → now.length + c ≤ 12 → OutUp lo Out s w0 w U → lo ≤ w.heap.size → Out.length ≤ 48 →
      Grows (Value.int .i64) 2 lo (.slice (some na) now.length nc) now w → (∀ b, (Value.slice (some na) now.length nc).ownBlock = some b → s.ownBlock ≠ some b) →
      Calls Try.prog 79 #[.int .i64 (L : Int), .int .i64 (M : Int), .int .i64 (c : Int), .slice (some na) now.length nc, s] w (ChSays lo (chL L e c now Out) s w0 w))
    (M e : Nat) (now : List Int) (na : Addr) (nc : Nat) (Out : List (List Int)) (s : Value) (w : World) (U : Nat → Value) (hM : M + e = L + 1) (hn : now.length + (c + 1) ≤ 12) (hO : OutUp lo Out s w0 w U) (hl : lo ≤ w.heap.size) (ho : Out.length ≤ 48)
    (hN : Grows (Value.int .i64) 2 lo (.slice (some na) now.length nc) now w) (hns : ∀ b, (Value.slice (some na) now.length nc).ownBlock = some b → s.ownBlock ≠ some b) :
    Calls Try.prog 79 #[.int .i64 (L : Int), .int .i64 (M : Int), .int .i64 ((c + 1 : Nat) : Int), .slice (some na) now.length nc, s] w (ChSays lo (chL L e (c + 1) now Out) s w0 w) := by
  obtain ⟨i0, hi, hz0, hz1, hz2⟩ := info_parts Try.infoI
  have IH := Lib.hid ih
  have HO := Lib.hid hO
  have HN := Lib.hid hN
  have HNS := Lib.hid hns
  obtain ⟨G, hG⟩ : ∃ G, chL L e (c + 1) now Out = G := ⟨_, rfl⟩
  have HG := Lib.hid hG
  rw [hG]
  obtain ⟨s0, hs0⟩ : ∃ s0, s0 = s := ⟨_, rfl⟩
  have hce : (((c + 1 : Nat) : Int) == 0) = false := by simp; omega
  have hce2 : ¬ ((c + 1 : Nat) : Int) = 0 := by omega
  have HS0 := Lib.hid hs0
  clear ih hO hN hns hG hs0
  go_enter Try.func79, Try.ntmps79
  go_wp2_with fail
  go_loopg [4, 11] e (fun gk s i wr => ∃ (M e : Nat) (X : List (List Int)) (U : Nat → Value), M + e = L + 1 ∧ gk = e ∧ i = .int .i64 M ∧ OutUp lo X s w0 wr U ∧ X.length ≤ 49 ∧ chL L e (c + 1) now X = G ∧ w.grownBy wr s0.ownBlock ∧ OwnOr s0 s w)
  case atStart => exact ⟨M, e, Out, U, hM, rfl, rfl, HO.out, by omega, HG.out, grown_below (Below.refl _ _) _, HS0.out ▸ OwnOr.same _ _⟩
  case round =>
    clear HO HG hM ho
    obtain ⟨M, e, X, U, hM, hge, rfl, hO, hX, hG, hgr, hor⟩ := hrel
    obtain ⟨sa, sc, rfl⟩ := hO.slice
    have HO := Lib.hid hO
    have HG := Lib.hid hG
    have HGR := Lib.hid hgr
    have HOR := Lib.hid hor
    have hlr : lo ≤ wr.heap.size := Nat.le_trans hl hgr.size
    have hwr : w.heap.size ≤ wr.heap.size := hgr.size
    clear hO hG hgr hor
    by_cases hlt : M ≤ L
    · by_cases h48 : X.length ≤ 48
      · obtain ⟨d, rfl⟩ : ∃ d, e = d + 1 := ⟨e - 1, by omega⟩
        obtain ⟨Q, hQ⟩ : ∃ Q, Q = now ++ [-(M : Int)] := ⟨_, rfl⟩
        have HQ := Lib.hid hQ
        have hQl : Q.length = now.length + 1 := by rw [hQ]; simp
        have HG2 : Hid (chL L d (c + 1) now (chL L d c Q X) = G) := Lib.hid (by rw [hQ, ← HG.out, chL_step, show L - d = M by omega])
        have HQL := Lib.hid hQl
        have hle : (M : Int) ≤ (L : Int) := by omega
        have hle8 : (X.length : Int) ≤ 48 := by omega
        have wn : IntKind.i64.wrap (-(M : Int)) = -(M : Int) := IntWalk.i64_in _ (by omega)
        have wm : IntKind.i64.wrap ((M : Int) + 1) = ((M + 1 : Nat) : Int) := by rw [IntKind.wrap_i64]; omega
        have wc : IntKind.i64.wrap (((c + 1 : Nat) : Int) - 1) = (c : Int) := by rw [IntKind.wrap_i64]; omega
        have HNr : Hid (Grows (Value.int .i64) 2 lo (.slice (some na) now.length nc) now wr) := Lib.hid (World.ownsRow.kept HN.out HGR.out (by
          cases q : (Value.slice (some na) now.length nc).ownBlock with
          | none => exact Or.inl rfl
          | some b => exact Or.inr (fun q2 => by rw [HS0.out] at q2; exact HNS.out b q q2.symm)))
        have HL := Lib.hid (lies_grows HNr.out)
        have hnl : now.length ≤ 12 := by omega
        clear hQ hQl
        go_wp2_with (first | (at_builtin; refine wpList_append_own _ rfl _ _ 25 rfl wr.heap.size 2 i0 (.int .i64 0) 1 8 Try.underlying25 hi hz0 hz1 hz2 rfl (by decide) _ _ _ rfl (Grows.empty (Value.int .i64) _ _ wr (Nat.le_refl _)) na now.length nc (now.map (Value.int .i64)) rfl (by simp) (HL.out _) (map_oneI now) (by simp; unfold maxLen; omega) (by simp; omega) (by simp) ?_; intro v1 w1 hown hgrow _; have HB1 := Lib.hid ((below_alloc wr _).grown hgrow (by simp) (fun k hk => Nat.le_of_eq (Option.some.inj hk))); have HN1 : Hid (Grows (Value.int .i64) 2 wr.heap.size v1 now w1) := Lib.hid (by have h := hown; show World.ownsRow _ _ _ _ _ _ _; simpa using h); clear hown hgrow) | (at_builtin; refine wpList_append_own _ rfl _ _ 25 rfl wr.heap.size 2 i0 (.int .i64 0) 1 8 Try.underlying25 hi hz0 hz1 hz2 rfl (by decide) _ _ _ rfl (Grows.alloc HN1.out _) ⟨w1.heap.size, 0, none⟩ 1 1 [.int .i64 (-(M : Int))] rfl rfl one_new (by intro u hu; simp at hu; subst hu; rfl) (by unfold maxLen; omega) (by omega) (by have := HB1.out.size; simp; omega) ?_; intro v2 w2 hown hgrow _; have HB2 := Lib.hid ((HB1.out.alloc HB1.out.size _).grown hgrow (by have := HB1.out.size; simp; omega) (fun g hg => HN1.out.block g hg)); have HN2 : Hid (Grows (Value.int .i64) 2 wr.heap.size v2 Q w2) := Lib.hid (HQ.out.symm ▸ Grows.more (news := [-(M : Int)]) rfl hown); obtain ⟨va, vc, rfl⟩ := SI.len (d := (0 : Int)) HN2.out.si; clear hown hgrow))
        have hV : ∃ g, va = some ⟨g, 0, none⟩ := by
          rcases HN2.out.2 with ⟨_, h0⟩ | ⟨g2, cap, cur, e, _⟩
          · exfalso; have := HQL.out; omega
          · injection e with e1 _ _; exact ⟨g2, e1⟩
        obtain ⟨g2, rfl⟩ := hV
        have hz2 : wr.heap.size ≤ w2.heap.size := HB2.out.size
        go_at_call 79; refine (IH.out (M + 1) d Q _ vc X _ w2 U (by omega) (by have := HQL.out; omega) (HO.out.keep HB2.out) (by omega) h48 (HN2.out.lower hlr) (fun b e e2 => by have h1 := (World.ownsRow.lt HN2.out b e).1; have h2 := (World.ownsRow.lt HO.out.own b e2).2; omega)).mono ?_; rintro e w3 ⟨s3, U3, rfl, hO3, hg3, hor3⟩
        have HO3 := Lib.hid hO3
        have HG3 := Lib.hid (grown_or HGR.out (grown_or (grown_below HB2.out _) hg3 (OwnOr.same _ _)) (HOR.out))
        have HR3 := Lib.hid (HOR.out.then (hor3.then (OwnOr.same _ w3) hg3.size |>.imp id (fun ⟨g, a, b⟩ => ⟨g, a, Nat.le_trans hz2 b⟩) : OwnOr _ s3 wr) hwr)
        have HX3 := Lib.hid (chL_len (L := L) (d := d) (c := c) (now := Q) (Out := X) (by omega))
        clear hO3 hg3 hor3
        generalize chL L d c Q X = Y at HO3 HX3 HG2
        go_wp2_with fail
        go_roundg d
        case measure => omega
        case rel => exact ⟨M + 1, d, Y, U3, by omega, rfl, rfl, HO3.out, HX3.out, HG2.out, HG3.out, HR3.out⟩
      · have hle : (M : Int) ≤ (L : Int) := by omega
        have hle8 : ¬ (X.length : Int) ≤ 48 := by omega
        have HE : Hid (X = G) := Lib.hid (by rw [← HG.out, chL_full (by omega)])
        go_wp2_with fail
        go_ret
        exact ⟨_, U, rfl, HE.out ▸ HO.out, HS0.out ▸ HGR.out, HS0.out ▸ HOR.out⟩
    · obtain rfl : e = 0 := by omega
      have hle : ¬ (M : Int) ≤ (L : Int) := by omega
      have HE : Hid (X = G) := Lib.hid (by rw [← HG.out, chL_none])
      go_wp2_with fail
      go_ret
      exact ⟨_, U, rfl, HE.out ▸ HO.out, HS0.out ▸ HGR.out, HS0.out ▸ HOR.out⟩
theorem choose_any (L lo : Nat) (hL : L ≤ 10) (w0 : World) (hlo : w0.heap.size ≤ lo) : ∀ (c : Nat), c ≤ 11 → ∀ (M e : Nat) (now : List Int) (na : Addr) (nc : Nat) (Out : List (List Int)) (s : Value) (w : World) (U : Nat → Value), M + e = L + 1 → now.length + c ≤ 12 → OutUp lo Out s w0 w U → lo ≤ w.heap.size → Out.length ≤ 48 →
      Grows (Value.int .i64) 2 lo (.slice (some na) now.length nc) now w → (∀ b, (Value.slice (some na) now.length nc).ownBlock = some b → s.ownBlock ≠ some b) →
      Calls Try.prog 79 #[.int .i64 (L : Int), .int .i64 (M : Int), .int .i64 (c : Int), .slice (some na) now.length nc, s] w (ChSays lo (chL L e c now Out) s w0 w)
  | 0, _, M, e, now, na, nc, Out, s, w, U, _, hn, hO, hl, ho, hN, _ => by rw [chL_end ho]; exact choose_end L lo M now na nc Out s w0 w U hO hlo hl ho hN (by omega)
  | c + 1, hc, M, e, now, na, nc, Out, s, w, U, hM, hn, hO, hl, ho, hN, hns => choose_step L lo c hL (by omega) w0 (choose_any L lo hL w0 hlo c (by omega)) M e now na nc Out s w U hM hn hO hl ho hN hns
end Go.Proofs.Ytnakpfbeeekmiaa
/- The first place of a list at which something holds. -/
namespace Go.Proofs.Ytnakpfbeeekmiaa
open Go.RowKit Go.ChangeShapes Go.WideShapes

structure FirstAt (p : Int → Bool) (Z : List Int) (k : Nat) : Prop where
  lt : k < Z.length
  yes : p (Z.getD k 0) = true
  no : ∀ j, j < k → p (Z.getD j 0) = false
def NoneAt (p : Int → Bool) (Z : List Int) : Prop := ∀ j, j < Z.length → p (Z.getD j 0) = false
def anyZ (p : Int → Bool) (Z : List Int) : Bool := (List.range Z.length).any fun i => p (Z.getD i 0)
theorem FirstAt.any {p : Int → Bool} {Z : List Int} {k : Nat} (h : FirstAt p Z k) : anyZ p Z = true := by
  unfold anyZ
  rw [List.any_eq_true]
  exact ⟨k, List.mem_range.2 h.lt, h.yes⟩
theorem anyZ_none {p : Int → Bool} {Z : List Int} (h : NoneAt p Z) : anyZ p Z = false := by
  unfold anyZ
  rw [List.any_eq_false]
  exact fun i hi => by rw [h i (List.mem_range.1 hi)]; simp
/-- The first place, or -1. -/
def FirstI (p : Int → Bool) (Z : List Int) (w : World) (e : Ending) (w' : World) : Prop := ((∃ k : Nat, FirstAt p Z k ∧ e = .returned (.int .i64 k)) ∨ (NoneAt p Z ∧ e = .returned (.int .i64 (-1)))) ∧ Below w.heap.size w w'
end Go.Proofs.Ytnakpfbeeekmiaa
/- Forms with given literals (plain). -/
namespace Go.Proofs.Ytnakpfbeeekmiaa

/-- One of a clause's literals is given. -/
def hasG (G c : List Int) : Bool := anyZ (inS G) c
/-- What is left of the first k clauses. -/
def gvK (G : List Int) (C : List (List Int)) : Nat → List (List Int)
  | 0 => []
  | k + 1 => if hasG G (C.getD k []) then gvK G C k else gvK G C k ++ [rst G (C.getD k [])]
theorem gvK_yes {G : List Int} {C : List (List Int)} {k : Nat} (h : hasG G (C.getD k []) = true) : gvK G C (k + 1) = gvK G C k := by rw [gvK, if_pos h]
theorem gvK_no {G : List Int} {C : List (List Int)} {k : Nat} (h : hasG G (C.getD k []) = false) : gvK G C (k + 1) = gvK G C k ++ [rst G (C.getD k [])] := by rw [gvK, h]; rfl
theorem gvK_few (G : List Int) (C : List (List Int)) : ∀ k, (gvK G C k).length ≤ k
  | 0 => Nat.le_refl _
  | k + 1 => by
    have := gvK_few G C k
    unfold gvK
    split
    · omega
    · simp; omega
theorem gvK_short {G : List Int} {C : List (List Int)} {m : Nat} (h : ∀ k, k < C.length → (C.getD k []).length ≤ m) : ∀ k, k ≤ C.length → ∀ i, i < (gvK G C k).length → ((gvK G C k).getD i []).length ≤ m
  | 0, _, i, hi => by simp [gvK] at hi
  | k + 1, hk, i, hi => by
    have ih := gvK_short (G := G) h k (by omega)
    cases q : hasG G (C.getD k []) with
    | true => rw [gvK_yes q] at hi ⊢; exact ih i hi
    | false =>
      rw [gvK_no q] at hi ⊢
      simp only [List.length_append, List.length_singleton] at hi
      by_cases e : i = (gvK G C k).length
      · have : (gvK G C k ++ [rst G (C.getD k [])]).getD i [] = rst G (C.getD k []) := by rw [e]; simp [List.getD]
        rw [this]; exact Nat.le_trans (rst_len _ _) (h k (by omega))
      · have : (gvK G C k ++ [rst G (C.getD k [])]).getD i [] = (gvK G C k).getD i [] := by simp [List.getD, List.getElem?_append_left (show i < (gvK G C k).length by omega)]
        rw [this]; exact ih i (by omega)
def givB (F : Fm) (G : List Int) : Bool := formB F && litsB F.letters G
def gvF (F : Fm) (G : List Int) : Fm := if givB F G then ⟨F.letters, gvK G F.cs F.cs.length⟩ else ⟨0, []⟩
theorem gvF_no {F : Fm} {G : List Int} (h : givB F G = false) : gvF F G = ⟨0, []⟩ := by unfold gvF; rw [h]; rfl
theorem gvF_yes {F : Fm} {G : List Int} (h : givB F G = true) : gvF F G = ⟨F.letters, gvK G F.cs F.cs.length⟩ := by unfold gvF; rw [if_pos h]
theorem tot_few10 {C : List (List Int)} (h : ∀ i, i < C.length → (C.getD i []).length ≤ 10) : ∀ k, k ≤ C.length → totAt C k ≤ 10 * k
  | 0, _ => Nat.le_refl _
  | k + 1, hk => by
    have ih := tot_few10 h k (by omega)
    have := h k (by omega)
    show totAt C k + (C.getD k []).length ≤ _
    omega
theorem cl_short {F : Fm} (h : FormOk F) : ∀ k, k < F.cs.length → (F.cs.getD k []).length ≤ 10 := fun k hk => by have := (h.cl k hk).len; have := h.n2; omega
theorem gvF_len (F : Fm) (G : List Int) : szL (gvF F G).cs ≤ 1048576 := by
  unfold gvF
  split
  · rename_i h
    unfold givB at h
    rw [Bool.and_eq_true] at h
    have hc := formB_ok h.1
    have h1 := gvK_few G F.cs F.cs.length
    have h2 := hc.few
    have h3 := tot_few10 (C := gvK G F.cs F.cs.length) (gvK_short (cl_short hc) _ (Nat.le_refl _)) _ (Nat.le_refl _)
    show szL (gvK G F.cs F.cs.length) ≤ _
    unfold szL
    omega
  · simp [szL, totAt]
theorem cl_range {n : Int} {c : List Int} (h : ClOk n c) : ∀ i, i < c.length → -10 ≤ c.getD i 0 ∧ c.getD i 0 ≤ 10 := fun i hi => by
  have h1 := h.a i hi
  have h2 := h.n2
  unfold ltr at h1
  split at h1 <;> omega
end Go.Proofs.Ytnakpfbeeekmiaa
/- slices.SortFunc laid at this program: its code is the shelf's own, number by number. -/
namespace Go.Proofs.Ytnakpfbeeekmiaa
open Go.Shelf
def Try.sortF_ren : Go.Shelf.Ren := ⟨fun | 6 => 117 | 15 => 131 | 14 => 130 | 28 => 147 | 29 => 148 | 20 => 139 | 21 => 140 | 22 => 141 | 23 => 142 | 24 => 143 | 25 => 144 | 26 => 145 | 27 => 146 | 46 => 159 | 47 => 160 | 48 => 161 | 49 => 162 | 50 => 163 | 57 => 167 | n => n, fun | 22 => 25 | 24 => 2 | 25 => 124 | 3 => 3 | 39 => 129 | 0 => 0 | 53 => 146 | 55 => 118 | 4 => 4 | 46 => 139 | 45 => 138 | 50 => 143 | 5 => 5 | 9 => 9 | 66 => 152 | 70 => 156 | 76 => 160 | 77 => 161 | n => n, fun | n => n⟩
theorem Try.sortF : Go.Proofs.SlLaysF.n6 Try.prog Try.sortF_ren := {
  mixed := by kernel_rfl
  f6 := ⟨Try.f117.name, by decide, Try.func117.trans (congrArg some (by kernel_rfl))⟩
  f14 := ⟨Try.f130.name, by decide, Try.func130.trans (congrArg some (by kernel_rfl))⟩
  f15 := Try.func131.trans (congrArg some (by kernel_rfl))
  f20 := ⟨Try.f139.name, by decide, Try.func139.trans (congrArg some (by kernel_rfl))⟩
  f21 := ⟨Try.f140.name, by decide, Try.func140.trans (congrArg some (by kernel_rfl))⟩
  f22 := ⟨Try.f141.name, by decide, Try.func141.trans (congrArg some (by kernel_rfl))⟩
  f23 := ⟨Try.f142.name, by decide, Try.func142.trans (congrArg some (by kernel_rfl))⟩
  f24 := ⟨Try.f143.name, by decide, Try.func143.trans (congrArg some (by kernel_rfl))⟩
  f25 := ⟨Try.f144.name, by decide, Try.func144.trans (congrArg some (by kernel_rfl))⟩
  f26 := ⟨Try.f145.name, by decide, Try.func145.trans (congrArg some (by kernel_rfl))⟩
  f27 := ⟨Try.f146.name, by decide, Try.func146.trans (congrArg some (by kernel_rfl))⟩
  f28 := Try.func147.trans (congrArg some (by kernel_rfl))
  f29 := Try.func148.trans (congrArg some (by kernel_rfl))
  f46 := ⟨Try.f159.name, by decide, Try.func159.trans (congrArg some (by kernel_rfl))⟩
  f47 := Try.func160.trans (congrArg some (by kernel_rfl))
  f48 := Try.func161.trans (congrArg some (by kernel_rfl))
  f49 := ⟨Try.f162.name, by decide, Try.func162.trans (congrArg some (by kernel_rfl))⟩
  f50 := ⟨Try.f163.name, by decide, Try.func163.trans (congrArg some (by kernel_rfl))⟩
  f57 := ⟨Try.f167.name, by decide, Try.func167.trans (congrArg some (by kernel_rfl))⟩
  t0 := Try.underlying0
  a0 := Try.isAgg0
  z0 := Try.sizeOf0
  v0 := Try.zeroValue0
  t3 := Try.underlying3
  a3 := Try.isAgg3
  z3 := Try.sizeOf3
  v3 := Try.zeroValue3
  t4 := Try.underlying4
  a4 := Try.isAgg4
  z4 := Try.sizeOf4
  v4 := Try.zeroValue4
  t5 := Try.underlying5
  a5 := Try.isAgg5
  z5 := Try.sizeOf5
  v5 := Try.zeroValue5
  t9 := Try.underlying9
  a9 := Try.isAgg9
  z9 := Try.sizeOf9
  v9 := Try.zeroValue9
  t22 := Try.underlying25
  a22 := Try.isAgg25
  z22 := Try.sizeOf25
  v22 := Try.zeroValue25
  a24 := Try.isAgg2
  z24 := Try.sizeOf2
  t25 := Try.underlying124
  a25 := Try.isAgg124
  z25 := Try.sizeOf124
  v25 := Try.zeroValue124
  t39 := Try.underlying129
  a39 := Try.isAgg129
  z39 := Try.sizeOf129
  v39 := Try.zeroValue129
  t45 := Try.underlying138
  a45 := Try.isAgg138
  z45 := Try.sizeOf138
  v45 := Try.zeroValue138
  t46 := Try.underlying139
  a46 := Try.isAgg139
  z46 := Try.sizeOf139
  v46 := Try.zeroValue139
  t50 := Try.underlying143
  a50 := Try.isAgg143
  z50 := Try.sizeOf143
  v50 := Try.zeroValue143
  t53 := Try.underlying146
  a53 := Try.isAgg146
  z53 := Try.sizeOf146
  v53 := Try.zeroValue146
  t55 := Try.underlying118
  a55 := Try.isAgg118
  z55 := Try.sizeOf118
  v55 := Try.zeroValue118
  t66 := Try.underlying152
  a66 := Try.isAgg152
  z66 := Try.sizeOf152
  v66 := Try.zeroValue152
  t70 := Try.underlying156
  a70 := Try.isAgg156
  z70 := Try.sizeOf156
  v70 := Try.zeroValue156
  t76 := Try.underlying160
  a76 := Try.isAgg160
  z76 := Try.sizeOf160
  v76 := Try.zeroValue160
  t77 := Try.underlying161
  a77 := Try.isAgg161
  z77 := Try.sizeOf161
  v77 := Try.zeroValue161 }
end Go.Proofs.Ytnakpfbeeekmiaa
/- Clones of lists of integers; lists that grow, kept over calls. -/
namespace Go.Proofs.Ytnakpfbeeekmiaa
open Go.RowKit Go.ChangeShapes Go.WideShapes

set_option maxHeartbeats 1000000 in
theorem cloneI_any (v : Value) (Z : List Int) (w : World) (hv : IL w v Z) (hn : Z.length ≤ 1048576) :
    Calls Try.prog 76 #[v] w (Made (Value.int .i64) (0 : Int) Z w) := by
  obtain ⟨i0, hi, hz0, hz1, hz2⟩ := info_parts Try.infoI
  rcases hv.lies with ⟨rfl, cap, rfl⟩ | ⟨ad, cap, rfl, hl⟩
  · have hnil := fun (W : World) => Lib.run_eql_slice_nil (P := Try.prog) W 25 2 none 0 cap 0 0 Try.underlying25
    clear hv
    go_enter Try.func76, Try.ntmps76
    go_wp2_with fail
    refine bodyPost_ret (results_tmp rfl _ _ _) rfl ?_
    exact ⟨_, rfl, SI.nil _ (Nat.le_refl _) _ _, Below.refl _ _⟩
  · have HL := Lib.hid hl
    clear hv hl
    have hnil := fun (W : World) => Lib.run_eql_slice_nil (P := Try.prog) W 25 2 (some ad) Z.length cap 0 0 Try.underlying25
    go_enter Try.func76, Try.ntmps76
    go_wp2_with (at_builtin; refine wpList_append_own _ rfl _ _ 25 rfl w.heap.size 2 i0 (.int .i64 0) 1 8 Try.underlying25 hi hz0 hz1 hz2 rfl (by decide) _ _ _ rfl (Grows.empty (Value.int .i64) _ _ w (Nat.le_refl _)) ad Z.length cap (Z.map (Value.int .i64)) rfl (by simp) ?c1 ?c2 ?c3 ?c4 ?c5 ?_)
    case c1 => exact HL.out _
    case c2 => exact map_oneI Z
    case c3 => simp; unfold maxLen; omega
    case c4 => simp; omega
    case c5 => simp
    intro v' w' hown hgrow _
    have HN : Hid (Grows (Value.int .i64) 2 w.heap.size v' Z w') := Lib.hid (by have h := hown; show World.ownsRow _ _ _ _ _ _ _; simpa using h)
    have HB := Lib.hid ((below_alloc w _).grown hgrow (by simp) (fun k hk => by simp [Value.ownBlock] at hk; omega))
    clear hown hgrow
    go_wp2_with fail
    refine bodyPost_ret (results_tmp rfl _ _ _) rfl ?_
    exact ⟨_, rfl, HN.out.si, HB.out⟩
end Go.Proofs.Ytnakpfbeeekmiaa
/- Rows of which the part behind r is new, and the part ahead of it old (plain). -/
namespace Go.Proofs.Ytnakpfbeeekmiaa

def mix (f g : Nat → Int) (n r : Nat) : List Int := (List.range n).map fun x => if r ≤ x then f x else g x
def allF (f : Nat → Int) (n : Nat) : List Int := (List.range n).map f
theorem mix_len (f g : Nat → Int) (n r : Nat) : (mix f g n r).length = n := by simp [mix]
theorem allF_len (f : Nat → Int) (n : Nat) : (allF f n).length = n := by simp [allF]
theorem mix_at {f g : Nat → Int} {n r x : Nat} (h : x < n) : (mix f g n r).getD x 0 = if r ≤ x then f x else g x := by simp [mix, List.getD, h]
theorem mix_old {f g : Nat → Int} {n r x : Nat} (h : x < n) (hr : x < r) : (mix f g n r).getD x 0 = g x := by rw [mix_at h, if_neg (by omega)]
theorem allF_at {f : Nat → Int} {n x : Nat} (h : x < n) : (allF f n).getD x 0 = f x := by simp [allF, List.getD, h]
theorem mix_start (f g : Nat → Int) (n : Nat) : mix f g n n = allF g n := by
  unfold mix allF
  refine List.map_congr_left fun x hx => ?_
  rw [if_neg (by have := List.mem_range.1 hx; omega)]
theorem mix_done {f g : Nat → Int} {n r : Nat} (h : ∀ x, x < r → f x = g x) : mix f g n r = allF f n := by
  unfold mix allF
  refine List.map_congr_left fun x _ => ?_
  split
  · rfl
  · exact (h x (by omega)).symm
theorem mix_set {f g : Nat → Int} {n r : Nat} : (mix f g n (r + 1)).set r (f r) = mix f g n r := by
  refine List.ext_getElem (by simp [mix]) fun i h1 h2 => ?_
  rw [List.getElem_set]
  simp only [mix, List.getElem_map, List.getElem_range]
  by_cases e : r = i
  · subst e; simp
  · rw [if_neg e]
    by_cases e2 : r ≤ i
    · rw [if_pos (by omega), if_pos e2]
    · rw [if_neg (by omega), if_neg e2]
theorem mix_up {f g : Nat → Int} {n r : Nat} : (mix f g n r).set r (g r) = mix f g n (r + 1) := by
  refine List.ext_getElem (by simp [mix]) fun i h1 h2 => ?_
  rw [List.getElem_set]
  simp only [mix, List.getElem_map, List.getElem_range]
  by_cases e : r = i
  · subst e; rw [if_pos rfl, if_neg (by omega)]
  · rw [if_neg e]
    by_cases e2 : r ≤ i
    · rw [if_pos e2, if_pos (by omega)]
    · rw [if_neg e2, if_neg (by omega)]
theorem mix_end {f g : Nat → Int} {n r : Nat} (h : n ≤ r) : mix f g n r = allF g n := by
  unfold mix allF
  refine List.map_congr_left fun x hx => ?_
  rw [if_neg (by have := List.mem_range.1 hx; omega)]
theorem mix_new {f g : Nat → Int} {n r x : Nat} (h : x < n) (hr : r ≤ x) : (mix f g n r).getD x 0 = f x := by rw [mix_at h, if_pos hr]
theorem rep_allF {f : Nat → Int} {n : Nat} {z : Int} (h : ∀ x, x < n → f x = z) : List.replicate n z = allF f n := by
  refine List.ext_getElem (by simp [allF]) fun i h1 h2 => ?_
  rw [List.length_replicate] at h1
  simp [allF, h i h1]
theorem allF_congr {f g : Nat → Int} {n : Nat} (h : ∀ x, x < n → f x = g x) : allF f n = allF g n := by
  unfold allF
  exact List.map_congr_left fun x hx => h x (List.mem_range.1 hx)
/-- The first row of ways to fill: one way to fill nothing. -/
theorem fill0 (S : List Int) (n : Nat) : (List.replicate (n + 1) (0 : Int)).set 0 1 = allF (fillW S 0) (n + 1) := by
  refine List.ext_getElem (by simp [allF]) fun i h1 h2 => ?_
  rw [List.getElem_set]
  simp only [allF, List.getElem_map, List.getElem_range, List.getElem_replicate, fillW]
  by_cases e : i = 0
  · subst e; simp
  · rw [if_neg (fun h => e h.symm), if_neg e]
theorem fill_yes {S : List Int} {i r s : Nat} (hs : S.getD i 0 = (s : Int)) (h : s ≤ r) : fillW S (i + 1) r = fillW S i r + fillW S i (r - s) := by
  show (if (S.getD i 0).toNat ≤ r then _ else _) = _
  rw [hs, Int.toNat_natCast, if_pos h]
theorem fill_no {S : List Int} {i r s : Nat} (hs : S.getD i 0 = (s : Int)) (h : r < s) : fillW S (i + 1) r = fillW S i r := by
  show (if (S.getD i 0).toNat ≤ r then _ else _) = _
  rw [hs, Int.toNat_natCast, if_neg (by omega)]
theorem best_yes {S G : List Int} {i r s : Nat} (hs : S.getD i 0 = (s : Int)) (h : s ≤ r) : bestG S G (i + 1) r = max (bestG S G i r) (bestG S G i (r - s) + G.getD i 0) := by
  show (if (S.getD i 0).toNat ≤ r then max (bestG S G i r) (bestG S G i (r - (S.getD i 0).toNat) + G.getD i 0) else _) = _
  rw [hs, Int.toNat_natCast, if_pos h]
theorem best_no {S G : List Int} {i r s : Nat} (hs : S.getD i 0 = (s : Int)) (h : r < s) : bestG S G (i + 1) r = bestG S G i r := by
  show (if (S.getD i 0).toNat ≤ r then _ else _) = _
  rw [hs, Int.toNat_natCast, if_neg (by omega)]
theorem nat_of {x : Int} (h : 0 ≤ x) : ∃ s : Nat, x = (s : Int) := ⟨x.toNat, by omega⟩
/-- The answers of WaysToFill. -/
def fillB (S : List Int) (r : Int) : Bool := sizesB S && inB r 0 1000
def fillI (S : List Int) (r : Int) : Int := if fillB S r then fillW S S.length r.toNat else 0
def gainL (S G : List Int) (r : Int) : List Int := if canB S G r then allF (bestG S G S.length) (r.toNat + 1) else []
theorem gainL_len {S G : List Int} {r : Int} : (gainL S G r).length ≤ 1048576 := by
  unfold gainL
  split
  · rename_i h
    have := (canB_ok h).r1
    rw [allF_len]; omega
  · simp
end Go.Proofs.Ytnakpfbeeekmiaa
/- The numbers below a number, as the program makes them. -/
namespace Go.Proofs.Ytnakpfbeeekmiaa
open Go.RowKit Go.ChangeShapes Go.WideShapes

def numL (n : Nat) : List Int := allF (fun i => (i : Int)) n
theorem numL_len (n : Nat) : (numL n).length = n := allF_len _ _
theorem numL_up (n : Nat) : numL (n + 1) = numL n ++ [(n : Int)] := by unfold numL allF; rw [List.range_succ, List.map_append]; rfl
set_option maxRecDepth 100000 in
set_option maxHeartbeats 4000000 in
theorem numbersBelow_any (n : Nat) (w : World) (hn : n ≤ 1000) :
    Calls Try.prog 89 #[.int .i64 n] w (Made (Value.int .i64) (0 : Int) (numL n) w) := by
  obtain ⟨i0, hi, hz0, hz1, hz2⟩ := info_parts Try.infoI
  go_enter Try.func89, Try.ntmps89
  go_wp2_with fail
  go_loopg [3, 6] n (fun gk v i wr => ∃ k : Nat, k ≤ n ∧ gk + k = n ∧ i = .int .i64 k ∧ Below w.heap.size w wr ∧ Grows (Value.int .i64) 2 w.heap.size v (numL k) wr)
  case atStart => exact ⟨0, Nat.zero_le _, by omega, rfl, Below.refl _ _, Grows.nil _ _ _ _⟩
  case round =>
    obtain ⟨k, hk, hgk, rfl, hB, hG⟩ := hrel
    have HB := Lib.hid hB
    have HG := Lib.hid hG
    have HML := Lib.hid (numL_len k)
    have HUP := Lib.hid (numL_up k)
    clear hB hG
    by_cases hlt : k < n
    · go_wp2_with (at_builtin; refine wpList_append_own _ rfl _ _ 25 rfl w.heap.size 2 i0 (.int .i64 0) 1 8 Try.underlying25 hi hz0 hz1 hz2 rfl (by decide) _ _ _ rfl (Grows.alloc HG.out _) ⟨wr.heap.size, 0, none⟩ 1 1 [.int .i64 (k : Int)] rfl rfl ?c1 ?c2 ?c3 ?c4 ?c5 ?_)
      case c1 => exact one_new
      case c2 => intro u hu; simp at hu; subst hu; rfl
      case c3 => rw [HML.out]; unfold maxLen; omega
      case c4 => rw [HML.out]; omega
      case c5 => have := HB.out.size; simp; omega
      intro v' w' hown hgrow _
      have HN2 : Hid (Below w.heap.size w w' ∧ Grows (Value.int .i64) 2 w.heap.size v' (numL (k + 1)) w') := Lib.hid ⟨(HB.out.alloc HB.out.size _).grown hgrow (by have := HB.out.size; simp; omega) (fun g hg => HG.out.block g hg), by rw [HUP.out]; exact Grows.more (news := [(k : Int)]) rfl hown⟩
      clear hown hgrow
      go_wp2_with fail
      go_roundg (gk - 1)
      case measure => omega
      case rel => exact ⟨k + 1, by omega, by omega, by go_num, HN2.out.1, HN2.out.2⟩
    · obtain rfl : k = n := by omega
      go_wp2_with fail
      refine bodyPost_ret (results_tmp rfl _ _ _) rfl ?_
      exact ⟨_, rfl, HG.out.si, HB.out⟩
end Go.Proofs.Ytnakpfbeeekmiaa
/- A list of indices, put in order by insertion: equal ones stay as they are (plain). -/
namespace Go.Proofs.Ytnakpfbeeekmiaa
open Go.Sort

def swN (Y : List Nat) (j : Nat) : List Nat := (Y.set j (Y.getD (j - 1) 0)).set (j - 1) (Y.getD j 0)
theorem swN_len (Y : List Nat) (j : Nat) : (swN Y j).length = Y.length := by simp [swN]
theorem swN_perm {Y : List Nat} {j : Nat} (h : j < Y.length) : (swN Y j).Perm Y := by
  unfold swN
  have h1 : j - 1 < Y.length := by omega
  rw [show Y.getD (j - 1) 0 = Y[j - 1] by simp [List.getD, h1], show Y.getD j 0 = Y[j] by simp [List.getD, h]]
  exact List.set_set_perm h h1
theorem swN_at {Y : List Nat} {j i : Nat} (h0 : 0 < j) (h : j < Y.length) : (swN Y j).getD i 0 = if i = j - 1 then Y.getD j 0 else if i = j then Y.getD (j - 1) 0 else Y.getD i 0 := by
  unfold swN
  simp only [List.getD, List.getElem?_set, List.length_set]
  by_cases e1 : i = j - 1
  · rw [if_pos e1.symm, if_pos (by omega), if_pos e1]; rfl
  · rw [if_neg (fun e => e1 e.symm), if_neg e1]
    by_cases e2 : i = j
    · rw [if_pos e2.symm, if_pos h, if_pos e2]; rfl
    · rw [if_neg (fun e => e2 e.symm), if_neg e2]
/-- The number at j goes down as far as it is less than those below it. -/
def insI (lt : Nat → Nat → Bool) : Nat → List Nat → List Nat
  | 0, Y => Y
  | j + 1, Y => if lt (Y.getD (j + 1) 0) (Y.getD j 0) then insI lt j (swN Y (j + 1)) else Y
theorem insI_yes {lt : Nat → Nat → Bool} {j : Nat} {Y : List Nat} (h : lt (Y.getD (j + 1) 0) (Y.getD j 0) = true) : insI lt (j + 1) Y = insI lt j (swN Y (j + 1)) := by
  show (if lt (Y.getD (j + 1) 0) (Y.getD j 0) then _ else _) = _
  rw [if_pos h]
theorem insI_no {lt : Nat → Nat → Bool} {j : Nat} {Y : List Nat} (h : lt (Y.getD (j + 1) 0) (Y.getD j 0) = false) : insI lt (j + 1) Y = Y := by
  show (if lt (Y.getD (j + 1) 0) (Y.getD j 0) then _ else _) = _
  rw [h]; rfl
theorem insI_len (lt : Nat → Nat → Bool) : ∀ j Y, (insI lt j Y).length = Y.length
  | 0, _ => rfl
  | j + 1, Y => by
    unfold insI
    split
    · rw [insI_len lt j, swN_len]
    · rfl
theorem insI_perm (lt : Nat → Nat → Bool) : ∀ j Y, j < Y.length → (insI lt j Y).Perm Y
  | 0, _, _ => List.Perm.refl _
  | j + 1, Y, h => by
    unfold insI
    split
    · exact (insI_perm lt j _ (by rw [swN_len]; omega)).trans (swN_perm h)
    · exact List.Perm.refl _
theorem insI_tail (lt : Nat → Nat → Bool) : ∀ j Y i, j < Y.length → j < i → (insI lt j Y).getD i 0 = Y.getD i 0
  | 0, _, _, _, _ => rfl
  | j + 1, Y, i, h, hi => by
    unfold insI
    split
    · rw [insI_tail lt j _ i (by rw [swN_len]; omega) (by omega), swN_at (by omega) h, if_neg (by omega), if_neg (by omega)]
    · rfl
/-- The first i indices in order, the others behind them. -/
def insS (lt : Nat → Nat → Bool) (n : Nat) : Nat → List Nat
  | 0 => List.range n
  | i + 1 => insI lt i (insS lt n i)
theorem insS_len (lt : Nat → Nat → Bool) (n : Nat) : ∀ i, (insS lt n i).length = n
  | 0 => by simp [insS]
  | i + 1 => by unfold insS; rw [insI_len, insS_len lt n i]
theorem insS_perm (lt : Nat → Nat → Bool) (n : Nat) : ∀ i, i ≤ n → (insS lt n i).Perm (List.range n)
  | 0, _ => List.Perm.refl _
  | i + 1, h => (insI_perm lt i _ (by rw [insS_len]; omega)).trans (insS_perm lt n i (by omega))
theorem insS_tail (lt : Nat → Nat → Bool) (n : Nat) : ∀ i k, i ≤ n → i ≤ k → k < n → (insS lt n i).getD k 0 = k
  | 0, k, _, _, hk => by simp [insS, List.getD, hk]
  | i + 1, k, hi, hk, hn => by
    unfold insS
    rw [insI_tail lt i _ k (by rw [insS_len]; omega) (by omega), insS_tail lt n i k (by omega) (by omega) hn]
theorem insS_lt (lt : Nat → Nat → Bool) {n i k : Nat} (hi : i ≤ n) (hk : k < n) : (insS lt n i).getD k 0 < n := by
  have hp := insS_perm lt n i hi
  have hl := insS_len lt n i
  have hm : (insS lt n i).getD k 0 ∈ insS lt n i := by
    have e : (insS lt n i).getD k 0 = (insS lt n i)[k]'(by omega) := by simp [List.getD, hl, hk]
    rw [e]; exact List.getElem_mem _
  exact List.mem_range.1 (hp.mem_iff.1 hm)
/-- All indices in order. -/
def ordN (lt : Nat → Nat → Bool) (n : Nat) : List Nat := insS lt n n
def intsN (Y : List Nat) : List Int := Y.map fun (x : Nat) => ((x : Nat) : Int)
theorem intsN_len (Y : List Nat) : (intsN Y).length = Y.length := by simp [intsN]
theorem intsN_at {Y : List Nat} {i : Nat} (h : i < Y.length) : (intsN Y).getD i 0 = ((Y.getD i 0 : Nat) : Int) := by simp [intsN, List.getD, h]
theorem ordN_len (lt : Nat → Nat → Bool) (n : Nat) : (ordN lt n).length = n := insS_len lt n n
theorem ordN_lt (lt : Nat → Nat → Bool) {n k : Nat} (hk : k < n) : (ordN lt n).getD k 0 < n := insS_lt lt (Nat.le_refl n) hk

/-- The library's insertion of an array of indices is that of the list. -/
def valL {n : Nat} (d : Array (Fin n)) : List Nat := d.toList.map Fin.val
theorem valL_len {n : Nat} (d : Array (Fin n)) : (valL d).length = d.size := by simp [valL]
def finA (n : Nat) : Array (Fin n) := (List.finRange n).toArray
theorem finA_size (n : Nat) : (finA n).size = n := by simp [finA]
theorem valL_finA {n : Nat} : valL (finA n) = List.range n := by
  refine List.ext_getElem (by simp [valL, finA]) fun i h1 h2 => ?_
  simp [valL, finA]
section
variable {n : Nat} [Inhabited (Fin n)]
theorem valL_at {d : Array (Fin n)} {i : Nat} (h : i < d.size) : (valL d).getD i 0 = (d[i]!).val := by
  rw [getElem!_pos d i h]
  simp [valL, List.getD, h]
theorem valL_swp {d : Array (Fin n)} {j : Nat} (h : j + 1 < d.size) : valL (swp d (j + 1) j) = swN (valL d) (j + 1) := by
  unfold swN
  rw [valL_at h, valL_at (by omega : j + 1 - 1 < d.size)]
  unfold valL swp
  simp [List.map_set]
theorem valL_ins (lt : Nat → Nat → Bool) (ltF : Fin n → Fin n → Bool) (h : ∀ x y, ltF x y = lt x.val y.val) : ∀ j (d : Array (Fin n)), j < d.size → valL (insInner ltF 0 j d) = insI lt j (valL d)
  | 0, _, _ => rfl
  | j + 1, d, hj => by
    unfold insInner insI
    rw [valL_at hj, valL_at (by omega : j < d.size), h]
    by_cases c : lt (d[j + 1]!).val (d[j]!).val = true
    · rw [if_pos c, if_pos (by simp [c]), valL_ins lt ltF h j _ (by simp [swp]; omega), valL_swp hj]
    · rw [if_neg c, if_neg (by simp [c])]
theorem insInner_size (ltF : Fin n → Fin n → Bool) : ∀ j (d : Array (Fin n)), (insInner ltF 0 j d).size = d.size
  | 0, _ => rfl
  | j + 1, d => by
    unfold insInner
    split
    · rw [insInner_size ltF j]; simp [swp]
    · rfl
theorem valL_outer (lt : Nat → Nat → Bool) (ltF : Fin n → Fin n → Bool) (h : ∀ x y, ltF x y = lt x.val y.val) : ∀ m i (d : Array (Fin n)), d.size = n → i + m = n → valL d = insS lt n i → valL (insOuter ltF 0 n i d) = insS lt n n
  | 0, i, d, _, hi, hd => by
    obtain rfl : i = n := by omega
    rw [insOuter, if_neg (Nat.lt_irrefl _), hd]
  | m + 1, i, d, hs, hi, hd => by
    rw [insOuter, if_pos (by omega)]
    refine valL_outer lt ltF h m (i + 1) _ (by rw [insInner_size, hs]) (by omega) ?_
    rw [valL_ins lt ltF h i d (by omega), hd]
    rfl
theorem valL_sort (lt : Nat → Nat → Bool) (ltF : Fin n → Fin n → Bool) (h : ∀ x y, ltF x y = lt x.val y.val) (hn : 1 ≤ n) : valL (insertionSort ltF (finA n) 0 n) = ordN lt n := by
  unfold insertionSort ordN
  exact valL_outer lt ltF h (n - 1) 1 (finA n) (finA_size n) (by omega) (by rw [valL_finA]; rfl)
end
end Go.Proofs.Ytnakpfbeeekmiaa
/- Orders by keys (plain). -/
namespace Go.Proofs.Ytnakpfbeeekmiaa

/-- By keys, the least one first. -/
def ltK (K : Nat → Int) (x y : Nat) : Bool := decide (K x < K y)
/-- What cmp.Compare tells. -/
def cmpI (a b : Int) : Int := if a < b then -1 else if b < a then 1 else 0
theorem cmpI_neg (a b : Int) : decide (cmpI a b < 0) = decide (a < b) := by
  unfold cmpI
  by_cases h : a < b
  · simp [h]
  · by_cases h2 : b < a <;> simp [h, h2]
theorem swN_take (Y : List Nat) (j k : Nat) :
    (((intsN (Y.take k)).map (Value.int .i64)).set j (.int .i64 ((Y.getD (j - 1) 0 : Nat) : Int))).set (j - 1) (.int .i64 ((Y.getD j 0 : Nat) : Int)) = (intsN ((swN Y j).take k)).map (Value.int .i64) := by
  unfold swN intsN
  rw [List.take_set, List.take_set, List.map_set, List.map_set, List.map_set, List.map_set]
theorem ordN_congr {lt lt' : Nat → Nat → Bool} {n : Nat} (h : ∀ x y, x < n → y < n → lt x y = lt' x y) : ordN lt n = ordN lt' n := by
  have ins : ∀ j (Y : List Nat), j < Y.length → (∀ i, i < Y.length → Y.getD i 0 < n) → insI lt j Y = insI lt' j Y := by
    intro j
    induction j with
    | zero => intro Y _ _; rfl
    | succ j ih =>
      intro Y hj hY
      unfold insI
      rw [h _ _ (hY (j + 1) hj) (hY j (by omega))]
      split
      · refine ih _ (by rw [swN_len]; omega) fun i hi => ?_
        rw [swN_len] at hi
        rw [swN_at (by omega) hj]
        split
        · exact hY _ hj
        · split
          · exact hY _ (by omega)
          · exact hY _ hi
      · rfl
  have all : ∀ i, i ≤ n → insS lt n i = insS lt' n i := by
    intro i
    induction i with
    | zero => intro _; rfl
    | succ i ih =>
      intro hi
      show insI lt i (insS lt n i) = insI lt' i (insS lt' n i)
      rw [← ih (by omega)]
      exact ins i _ (by rw [insS_len]; omega) fun k hk => insS_lt lt (by omega) (by rw [insS_len] at hk; exact hk)
  exact all n (Nat.le_refl n)
end Go.Proofs.Ytnakpfbeeekmiaa
