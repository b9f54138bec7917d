/- What IsProof needs: Pop48 Am0 Mix Md0 RowA MdP Ti NrU Fo. -/
import Derived.Test.YtnakpfbeeekmiaaIsProofB
import Derived.Test.YtnakpfbeeekmiaaIsProofA
import Derived.IntWalk
import Derived.Laws.BitsAll
import Derived.Laws.ShiftsVar
import Derived.Lib.Builder
/- How many binary digits are 1 (plain): the way of masks, for numbers below 2^48. -/
namespace Go.Proofs.Ytnakpfbeeekmiaa

/-- Masks part by part. -/
theorem and_parts (k a b m n : Nat) (ha : a < 2 ^ k) (hm : m < 2 ^ k) : (a + 2 ^ k * b) &&& (m + 2 ^ k * n) = (a &&& m) + 2 ^ k * (b &&& n) := by
  have hx : a &&& m < 2 ^ k := Nat.lt_of_le_of_lt Nat.and_le_left ha
  rw [Nat.add_comm a, Nat.add_comm m, Nat.add_comm (a &&& m)]
  apply Nat.eq_of_testBit_eq
  intro i
  rw [Nat.testBit_and, Nat.testBit_two_pow_mul_add _ ha, Nat.testBit_two_pow_mul_add _ hm, Nat.testBit_two_pow_mul_add _ hx]
  split
  · rw [Nat.testBit_and]
  · rw [Nat.testBit_and]
theorem and_low (k a b m : Nat) (ha : a < 2 ^ k) (hm : m < 2 ^ k) : (a + 2 ^ k * b) &&& m = a &&& m := by
  have := and_parts k a b m 0 ha hm
  rw [Nat.mul_zero, Nat.add_zero, Nat.and_zero, Nat.mul_zero, Nat.add_zero] at this
  exact this
/-- A mask of parts that repeat, three of 16 digits each. -/
theorem and3 (p a b c : Nat) (q : Nat) (hp : p < 65536) (hq : q = p + 65536 * (p + 65536 * (p + 65536 * p))) (ha : a < 65536) (hb : b < 65536) (hc : c < 65536) :
    (a + 65536 * (b + 65536 * c)) &&& q = (a &&& p) + 65536 * ((b &&& p) + 65536 * (c &&& p)) := by
  subst hq
  have h1 := and_parts 16 a (b + 65536 * c) p (p + 65536 * (p + 65536 * p)) (by omega) (by omega)
  have h2 := and_parts 16 b c p (p + 65536 * p) (by omega) (by omega)
  have h3 := and_parts 16 c 0 p p (by omega) (by omega)
  have e : (2 : Nat) ^ 16 = 65536 := by decide
  rw [e] at h1 h2 h3
  rw [Nat.mul_zero, Nat.add_zero, Nat.zero_and, Nat.mul_zero, Nat.add_zero] at h3
  rw [h1, h2, h3]
theorem and1 (p a q : Nat) (hp : p < 65536) (hq : q = p + 65536 * (p + 65536 * (p + 65536 * p))) (ha : a < 65536) : a &&& q = a &&& p := by
  have h := and3 p a 0 0 q hp hq ha (by omega) (by omega)
  rw [Nat.zero_and] at h
  simpa using h
def M1 : Nat := 6148914691236517205
def M2 : Nat := 3689348814741910323
def M3 : Nat := 1085102592571150095
theorem m1_eq : (6148914691236517205 : Nat) = 21845 + 65536 * (21845 + 65536 * (21845 + 65536 * 21845)) := by decide
theorem m2_eq : (3689348814741910323 : Nat) = 13107 + 65536 * (13107 + 65536 * (13107 + 65536 * 13107)) := by decide
theorem m3_eq : (1085102592571150095 : Nat) = 3855 + 65536 * (3855 + 65536 * (3855 + 65536 * 3855)) := by decide
theorem shr_div (x k : Nat) : x >>> k = x / 2 ^ k := Nat.shiftRight_eq_div_pow x k
/-- The first step, part by part. -/
def st1 (a : Nat) : Nat := ((a / 2) &&& 21845) + (a &&& 21845)
theorem st1_le (a : Nat) : st1 a ≤ 43690 := by
  have h1 : (a / 2) &&& 21845 ≤ 21845 := Nat.and_le_right
  have h2 : a &&& 21845 ≤ 21845 := Nat.and_le_right
  unfold st1
  omega
theorem ones1_16 {a : Nat} (ha : a < 65536) : ones1 a = st1 a := by
  unfold ones1 st1
  rw [shr_div, Nat.pow_one, and1 21845 (a / 2) _ (by omega) m1_eq (by omega), and1 21845 a _ (by omega) m1_eq ha]
theorem ones1_48 {a b c : Nat} (ha : a < 65536) (hb : b < 65536) (hc : c < 65536) : ones1 (a + 65536 * (b + 65536 * c)) = st1 a + 65536 * (st1 b + 65536 * st1 c) := by
  unfold ones1 st1
  have e : (a + 65536 * (b + 65536 * c)) / 2 = (a / 2 + 2 ^ 15 * (b % 2)) + 65536 * ((b / 2 + 2 ^ 15 * (c % 2)) + 65536 * (c / 2)) := by omega
  rw [shr_div, Nat.pow_one, e, and3 21845 _ _ _ _ (by omega) m1_eq (by omega) (by omega) (by omega), and3 21845 _ _ _ _ (by omega) m1_eq ha hb hc]
  rw [and_low 15 (a / 2) (b % 2) 21845 (by omega) (by omega), and_low 15 (b / 2) (c % 2) 21845 (by omega) (by omega)]
  omega
/-- The second step. -/
def st2 (a : Nat) : Nat := ((a / 4) &&& 13107) + (a &&& 13107)
theorem st2_le (a : Nat) : st2 a ≤ 26214 := by
  have h1 : (a / 4) &&& 13107 ≤ 13107 := Nat.and_le_right
  have h2 : a &&& 13107 ≤ 13107 := Nat.and_le_right
  unfold st2
  omega
theorem nib (a : Nat) : (a &&& 13107) % 16 ≤ 3 := by
  have := Nat.and_mod_two_pow (a := a) (b := 13107) (n := 4)
  rw [show (2 : Nat) ^ 4 = 16 by decide] at this
  rw [this, show 13107 % 16 = 3 by decide]
  exact Nat.and_le_right
theorem st2_nib (a : Nat) : st2 a % 16 ≤ 6 := by
  have h1 := nib (a / 4)
  have h2 := nib a
  unfold st2
  omega
theorem ones2_16 {a : Nat} (ha : a < 65536) : ones2 a = st2 a := by
  unfold ones2 st2
  rw [shr_div, show (2 : Nat) ^ 2 = 4 by decide, and1 13107 (a / 4) _ (by omega) m2_eq (by omega), and1 13107 a _ (by omega) m2_eq ha]
theorem ones2_48 {a b c : Nat} (ha : a < 65536) (hb : b < 65536) (hc : c < 65536) : ones2 (a + 65536 * (b + 65536 * c)) = st2 a + 65536 * (st2 b + 65536 * st2 c) := by
  unfold ones2 st2
  have e : (a + 65536 * (b + 65536 * c)) / 4 = (a / 4 + 2 ^ 14 * (b % 4)) + 65536 * ((b / 4 + 2 ^ 14 * (c % 4)) + 65536 * (c / 4)) := by omega
  rw [shr_div, show (2 : Nat) ^ 2 = 4 by decide, e, and3 13107 _ _ _ _ (by omega) m2_eq (by omega) (by omega) (by omega), and3 13107 _ _ _ _ (by omega) m2_eq ha hb hc]
  rw [and_low 14 (a / 4) (b % 4) 13107 (by omega) (by omega), and_low 14 (b / 4) (c % 4) 13107 (by omega) (by omega)]
  omega
/-- The third step. -/
def st3 (a : Nat) : Nat := (a / 16 + a) &&& 3855
theorem st3_le (a : Nat) : st3 a ≤ 3855 := Nat.and_le_right
theorem st3_top (y t : Nat) : (y + 4096 * t) &&& 3855 = y &&& 3855 := by
  have h1 := and_low 12 (y % 4096) (y / 4096 + t) 3855 (by omega) (by omega)
  have h2 := and_low 12 (y % 4096) (y / 4096) 3855 (by omega) (by omega)
  rw [show (2 : Nat) ^ 12 = 4096 by decide] at h1 h2
  rw [show y % 4096 + 4096 * (y / 4096 + t) = y + 4096 * t by omega] at h1
  rw [show y % 4096 + 4096 * (y / 4096) = y by omega] at h2
  rw [h1, h2]
theorem ones3_16 {a : Nat} (ha : a ≤ 26214) : ones3 a = st3 a := by
  unfold ones3 st3
  rw [shr_div, show (2 : Nat) ^ 4 = 16 by decide, and1 3855 _ _ (by omega) m3_eq (by omega)]
theorem ones3_48 {a b c : Nat} (ha : a ≤ 26214) (hb : b ≤ 26214) (hc : c ≤ 26214) (nb : b % 16 ≤ 6) (nc : c % 16 ≤ 6) : ones3 (a + 65536 * (b + 65536 * c)) = st3 a + 65536 * (st3 b + 65536 * st3 c) := by
  unfold ones3 st3
  have e : (a + 65536 * (b + 65536 * c)) / 16 + (a + 65536 * (b + 65536 * c)) = ((a / 16 + a) + 4096 * (b % 16)) + 65536 * (((b / 16 + b) + 4096 * (c % 16)) + 65536 * (c / 16 + c)) := by omega
  rw [shr_div, show (2 : Nat) ^ 4 = 16 by decide, e, and3 3855 _ _ _ _ (by omega) m3_eq (by omega) (by omega) (by omega), st3_top, st3_top]
theorem end_16 {u : Nat} (h : u ≤ 3855) : ones6 (ones5 (ones4 u)) &&& 127 = (u % 256 + u / 256) % 128 := by
  have h4 : ones4 u = u + u / 256 := by unfold ones4; rw [shr_div]
  have h5 : ones5 (u + u / 256) = u + u / 256 := by unfold ones5; rw [shr_div]; omega
  have h6 : ones6 (u + u / 256) = u + u / 256 := by unfold ones6; rw [shr_div]; omega
  rw [h4, h5, h6, show (127 : Nat) = 2 ^ 7 - 1 by decide, Nat.and_two_pow_sub_one_eq_mod]
  omega
theorem st3_low (a : Nat) : st3 a % 256 ≤ 15 := by
  unfold st3
  have := Nat.and_mod_two_pow (a := a / 16 + a) (b := 3855) (n := 8)
  rw [show (2 : Nat) ^ 8 = 256 by decide] at this
  rw [this, show 3855 % 256 = 15 by decide]
  exact Nat.and_le_right
theorem popN_split : ∀ (j k a b : Nat), a < 2 ^ j → popN (j + k) (a + 2 ^ j * b) = popN j a + popN k b
  | 0, k, a, b, h => by
    have : a = 0 := by simpa using h
    subst this
    simp [popN]
  | j + 1, k, a, b, h => by
    rw [show j + 1 + k = (j + k) + 1 by omega]
    show (a + 2 ^ (j + 1) * b) % 2 + popN (j + k) ((a + 2 ^ (j + 1) * b) / 2) = (a % 2 + popN j (a / 2)) + popN k b
    have e : 2 ^ (j + 1) * b = 2 * (2 ^ j * b) := by rw [Nat.pow_succ]; rw [Nat.mul_comm (2 ^ j) 2, Nat.mul_assoc]
    rw [e]
    have h2 : a / 2 < 2 ^ j := by rw [Nat.pow_succ] at h; omega
    rw [show (a + 2 * (2 ^ j * b)) / 2 = a / 2 + 2 ^ j * b by omega, show (a + 2 * (2 ^ j * b)) % 2 = a % 2 by omega, popN_split j k (a / 2) b h2]
    omega
theorem end_48 {u v w : Nat} (hu : u ≤ 3855) (hv : v ≤ 3855) (hw : w ≤ 3855) (lu : u % 256 ≤ 15) (lv : v % 256 ≤ 15) (lw : w % 256 ≤ 15) :
    ones6 (ones5 (ones4 (u + 65536 * (v + 65536 * w)))) &&& 127 = (u % 256 + u / 256) + ((v % 256 + v / 256) + (w % 256 + w / 256)) := by
  obtain ⟨u0, hu0⟩ : ∃ q, q = u % 256 := ⟨_, rfl⟩
  obtain ⟨u1, hu1⟩ : ∃ q, q = u / 256 := ⟨_, rfl⟩
  obtain ⟨v0, hv0⟩ : ∃ q, q = v % 256 := ⟨_, rfl⟩
  obtain ⟨v1, hv1⟩ : ∃ q, q = v / 256 := ⟨_, rfl⟩
  obtain ⟨w0, hw0⟩ : ∃ q, q = w % 256 := ⟨_, rfl⟩
  obtain ⟨w1, hw1⟩ : ∃ q, q = w / 256 := ⟨_, rfl⟩
  rw [← hu0, ← hu1, ← hv0, ← hv1, ← hw0, ← hw1]
  have eu : u = u0 + 256 * u1 := by omega
  have ev : v = v0 + 256 * v1 := by omega
  have ew : w = w0 + 256 * w1 := by omega
  have bu : u0 ≤ 15 ∧ u1 ≤ 15 := by omega
  have bv : v0 ≤ 15 ∧ v1 ≤ 15 := by omega
  have bw : w0 ≤ 15 ∧ w1 ≤ 15 := by omega
  rw [eu, ev, ew]
  clear hu hv hw lu lv lw hu0 hu1 hv0 hv1 hw0 hw1 eu ev ew
  have h4 : ones4 (u0 + 256 * u1 + 65536 * (v0 + 256 * v1 + 65536 * (w0 + 256 * w1))) = (u0 + u1) + 256 * (u1 + v0) + 65536 * (v0 + v1) + 16777216 * (v1 + w0) + 4294967296 * (w0 + w1) + 1099511627776 * w1 := by
    unfold ones4
    rw [shr_div, show (2 : Nat) ^ 8 = 256 by decide]
    omega
  rw [h4]
  have h5 : ones5 ((u0 + u1) + 256 * (u1 + v0) + 65536 * (v0 + v1) + 16777216 * (v1 + w0) + 4294967296 * (w0 + w1) + 1099511627776 * w1) = (u0 + u1 + v0 + v1) + 256 * (u1 + v0 + v1 + w0) + 65536 * (v0 + v1 + w0 + w1) + 16777216 * (v1 + w0 + w1) + 4294967296 * (w0 + w1) + 1099511627776 * w1 := by
    unfold ones5
    rw [shr_div, show (2 : Nat) ^ 16 = 65536 by decide]
    omega
  rw [h5]
  unfold ones6
  rw [shr_div, show (2 : Nat) ^ 32 = 4294967296 by decide, show (127 : Nat) = 2 ^ 7 - 1 by decide, Nat.and_two_pow_sub_one_eq_mod, show (2 : Nat) ^ 7 = 128 by decide]
  clear h4 h5
  have h6 : ((u0 + u1 + v0 + v1) + 256 * (u1 + v0 + v1 + w0) + 65536 * (v0 + v1 + w0 + w1) + 16777216 * (v1 + w0 + w1) + 4294967296 * (w0 + w1) + 1099511627776 * w1) / 4294967296 = (w0 + w1) + 256 * w1 := by omega
  rw [h6]
  clear h6
  omega
theorem pop_16 {a : Nat} (ha : a < 65536) : pop a = (st3 (st2 (st1 a)) % 256 + st3 (st2 (st1 a)) / 256) := by
  have h := (ones_ok ha).1
  unfold onesX at h
  have b1 := st1_le a
  have b2 := st2_le (st1 a)
  have b3 := st3_le (st2 (st1 a))
  have b4 := st3_low (st2 (st1 a))
  rw [ones1_16 ha, ones2_16 (by omega), ones3_16 b2, end_16 b3] at h
  omega
/-- Numbers below 2^48. -/
theorem ones48 {x : Nat} (hx : x < 281474976710656) : onesX x = popN 48 x ∧ ones1 x < 281474976710656 ∧ ones2 (ones1 x) < 281474976710656 ∧ ones3 (ones2 (ones1 x)) < 281474976710656 := by
  obtain ⟨a, b, c, e, ha, hb, hc⟩ : ∃ a b c, x = a + 65536 * (b + 65536 * c) ∧ a < 65536 ∧ b < 65536 ∧ c < 65536 := ⟨x % 65536, x / 65536 % 65536, x / 4294967296, by omega, by omega, by omega, by omega⟩
  subst e
  have a1 := st1_le a
  have b1 := st1_le b
  have c1 := st1_le c
  have a2 := st2_le (st1 a)
  have b2 := st2_le (st1 b)
  have c2 := st2_le (st1 c)
  have a3 := st3_le (st2 (st1 a))
  have b3 := st3_le (st2 (st1 b))
  have c3 := st3_le (st2 (st1 c))
  have h1 := ones1_48 ha hb hc
  have h2 := ones2_48 (a := st1 a) (b := st1 b) (c := st1 c) (by omega) (by omega) (by omega)
  have h3 := ones3_48 a2 b2 c2 (st2_nib _) (st2_nib _)
  have h4 := end_48 a3 b3 c3 (st3_low _) (st3_low _) (st3_low _)
  have p1 := popN_split 16 32 a (b + 65536 * c) (by omega)
  have p2 := popN_split 16 16 b c (by omega)
  rw [show (2 : Nat) ^ 16 = 65536 by decide] at p1 p2
  have q1 := pop_16 ha
  have q2 := pop_16 hb
  have q3 := pop_16 hc
  unfold pop at q1 q2 q3
  refine ⟨?_, by rw [h1]; omega, by rw [h1, h2]; omega, by rw [h1, h2, h3]; omega⟩
  unfold onesX
  rw [h1, h2, h3, h4, show (48 : Nat) = 16 + 32 by omega, p1, show (32 : Nat) = 16 + 16 by omega, p2, q1, q2, q3]
theorem popN_leN : ∀ k x, popN k x ≤ k
  | 0, _ => Nat.le_refl _
  | k + 1, x => by have := popN_leN k (x / 2); unfold popN; omega
end Go.Proofs.Ytnakpfbeeekmiaa
/- The form of at most some letters (plain). -/
namespace Go.Proofs.Ytnakpfbeeekmiaa

def opp (T : List Int) : List Int := T.map fun x => -x
theorem opp_len (T : List Int) : (opp T).length = T.length := by simp [opp]
/-- The clauses of c letters out of the last d, in order. -/
def cmb (L : Nat) : Nat → Nat → List (List Int)
  | _, 0 => [[]]
  | 0, _ + 1 => []
  | d + 1, c + 1 => (cmb L d c).map (fun T => (-((L - d : Nat) : Int)) :: T) ++ cmb L d (c + 1)
theorem cmb_zero (L d : Nat) : cmb L d 0 = [[]] := by cases d <;> rfl
theorem cmb_none (L c : Nat) : cmb L 0 (c + 1) = [] := rfl
theorem cmb_step (L d c : Nat) : cmb L (d + 1) (c + 1) = (cmb L d c).map (fun T => (-((L - d : Nat) : Int)) :: T) ++ cmb L d (c + 1) := rfl
/-- The letters of a number among the last d. -/
def low (L d m : Nat) : List Int := ((List.range d).filter fun i => m.testBit (d - (i + 1))).map fun (i : Nat) => ((i + (L - d) : Nat) : Int) + 1
theorem low_step {L d m : Nat} (h : d + 1 ≤ L) : low L (d + 1) m = (if m.testBit d then [((L - d : Nat) : Int)] else []) ++ low L d m := by
  unfold low
  rw [List.range_succ_eq_map, List.filter_cons, List.filter_map]
  have e0 : d + 1 - (0 + 1) = d := by omega
  rw [e0]
  have e1 : (List.filter ((fun i => m.testBit (d + 1 - (i + 1))) ∘ Nat.succ) (List.range d)) = List.filter (fun i => m.testBit (d - (i + 1))) (List.range d) := by
    refine List.filter_congr fun i hi => ?_
    show m.testBit (d + 1 - (i + 1 + 1)) = _
    congr 1; omega
  rw [e1]
  have e2 : ∀ T : List Nat, (List.map Nat.succ T).map (fun (i : Nat) => ((i + (L - (d + 1)) : Nat) : Int) + 1) = T.map (fun (i : Nat) => ((i + (L - d) : Nat) : Int) + 1) := fun T => by
    rw [List.map_map]
    refine List.map_congr_left fun i _ => ?_
    show ((i + 1 + (L - (d + 1)) : Nat) : Int) + 1 = _
    omega
  split
  · rw [List.map_cons, e2]
    show (((0 + (L - (d + 1)) : Nat) : Int) + 1) :: _ = [_] ++ _
    rw [List.singleton_append]
    congr 1
    omega
  · rw [e2]; rfl
theorem low_all (L m : Nat) : low L L m = trueK L m L := by
  unfold low trueK
  refine List.map_congr_left fun i _ => ?_
  omega
theorem low_more {L d m : Nat} : low L d (m + 2 ^ d) = low L d m := by
  unfold low
  congr 1
  refine List.filter_congr fun i hi => ?_
  have := List.mem_range.1 hi
  rw [Nat.add_comm, Nat.testBit_two_pow_add_gt (by omega)]
theorem popN_more {n d m : Nat} (hm : m < 2 ^ d) (hd : d < n) : popN n (m + 2 ^ d) = popN n m + 1 := by
  have h1 := popN_split d (n - d) m 1 hm
  have h0 := popN_split d (n - d) m 0 hm
  rw [Nat.mul_one, show d + (n - d) = n by omega] at h1
  rw [Nat.mul_zero, Nat.add_zero, show d + (n - d) = n by omega] at h0
  rw [h1, h0]
  obtain ⟨q, hq⟩ : ∃ q, n - d = q + 1 := ⟨n - d - 1, by omega⟩
  rw [hq]
  show popN d m + (1 % 2 + popN q (1 / 2)) = popN d m + (0 % 2 + popN q (0 / 2)) + 1
  simp
  omega
theorem popN_0 : ∀ n, popN n 0 = 0
  | 0 => rfl
  | n + 1 => by unfold popN; rw [Nat.zero_div, popN_0 n]
/-- All clauses, the greatest number first. -/
def desc (L d c : Nat) : List (List Int) := ((List.range (2 ^ d)).reverse.filter fun m => popN 48 m == c).map fun m => opp (low L d m)
theorem desc_cmb {L : Nat} (hL : L ≤ 10) : ∀ d c, d ≤ L → desc L d c = cmb L d c
  | 0, 0, _ => by unfold desc; simp [cmb, popN_0, low, opp]
  | 0, c + 1, _ => by unfold desc; simp [cmb, popN_0]
  | d + 1, c, h => by
    have ih := fun c => desc_cmb hL d c (by omega)
    have hr : (List.range (2 ^ (d + 1))).reverse = ((List.range (2 ^ d)).reverse.map fun m => m + 2 ^ d) ++ (List.range (2 ^ d)).reverse := by
      rw [Nat.pow_succ, Nat.mul_two, List.range_add, List.reverse_append, List.map_reverse]
      congr 2
      refine List.map_congr_left fun i _ => Nat.add_comm _ _
    have hlo : ((List.range (2 ^ d)).reverse.filter fun m => popN 48 m == c).map (fun m => opp (low L (d + 1) m)) = desc L d c := by
      unfold desc
      refine List.map_congr_left fun m hm => ?_
      have hm2 : m < 2 ^ d := by
        have := (List.mem_filter.1 hm).1
        rw [List.mem_reverse] at this
        exact List.mem_range.1 this
      rw [low_step h, Nat.testBit_lt_two_pow hm2]; rfl
    have e : desc L (d + 1) c = (((List.range (2 ^ d)).reverse.filter fun m => popN 48 m + 1 == c).map fun m => (-((L - d : Nat) : Int)) :: opp (low L d m)) ++ desc L d c := by
      show ((List.range (2 ^ (d + 1))).reverse.filter fun m => popN 48 m == c).map (fun m => opp (low L (d + 1) m)) = _
      rw [hr, List.filter_append, List.map_append, hlo]
      congr 1
      rw [List.filter_map, List.map_map]
      have hf : (List.range (2 ^ d)).reverse.filter ((fun m => popN 48 m == c) ∘ fun m => m + 2 ^ d) = (List.range (2 ^ d)).reverse.filter fun m => popN 48 m + 1 == c := by
        refine List.filter_congr fun m hm => ?_
        rw [List.mem_reverse] at hm
        show (popN 48 (m + 2 ^ d) == c) = _
        rw [popN_more (List.mem_range.1 hm) (by omega)]
      rw [hf]
      refine List.map_congr_left fun m hm => ?_
      have hm2 : m < 2 ^ d := by
        have := (List.mem_filter.1 hm).1
        rw [List.mem_reverse] at this
        exact List.mem_range.1 this
      show opp (low L (d + 1) (m + 2 ^ d)) = _
      rw [low_step h, low_more, Nat.add_comm, Nat.testBit_two_pow_add_eq, Nat.testBit_lt_two_pow hm2]
      rfl
    rw [e, ih]
    cases c with
    | zero =>
      have : ((List.range (2 ^ d)).reverse.filter fun m => popN 48 m + 1 == 0) = [] := by
        rw [List.filter_eq_nil_iff]; intro m _; simp
      rw [this, cmb_zero, cmb_zero]; rfl
    | succ c =>
      rw [cmb_step, ← ih c]
      congr 1
      unfold desc
      rw [List.map_map]
      have : ((List.range (2 ^ d)).reverse.filter fun m => popN 48 m + 1 == c + 1) = (List.range (2 ^ d)).reverse.filter fun m => popN 48 m == c := by
        refine List.filter_congr fun m _ => ?_
        rw [Bool.eq_iff_iff]; simp
      rw [this]; rfl
/-- What the program has put together behind j numbers. -/
def amK (L c N : Nat) : Nat → List (List Int)
  | 0 => []
  | j + 1 => if popN 48 (N - 1 - j) = c then amK L c N j ++ [opp (trueK L (N - 1 - j) L)] else amK L c N j
theorem amK_yes {L c N j : Nat} (h : popN 48 (N - 1 - j) = c) : amK L c N (j + 1) = amK L c N j ++ [opp (trueK L (N - 1 - j) L)] := by rw [amK, if_pos h]
theorem amK_no {L c N j : Nat} (h : ¬ popN 48 (N - 1 - j) = c) : amK L c N (j + 1) = amK L c N j := by rw [amK, if_neg h]
theorem amK_few (L c N : Nat) : ∀ j, (amK L c N j).length ≤ j
  | 0 => Nat.le_refl _
  | j + 1 => by have := amK_few L c N j; unfold amK; split <;> simp <;> omega
theorem amK_is (L c N : Nat) : ∀ j, amK L c N j = (((List.range j).map fun i => N - 1 - i).filter fun m => popN 48 m == c).map fun m => opp (trueK L m L)
  | 0 => rfl
  | j + 1 => by
    rw [List.range_succ, List.map_append, List.filter_append, List.map_append, ← amK_is L c N j]
    by_cases h : popN 48 (N - 1 - j) = c
    · rw [amK_yes h]; simp [h]
    · rw [amK_no h]; simp [h]
theorem amK_cmb {L c : Nat} (hL : L ≤ 10) (hc : 1 ≤ c) : amK L c (2 ^ L) (2 ^ L - 1) = cmb L L c := by
  rw [← desc_cmb hL L c (Nat.le_refl _)]
  have hN : 0 < 2 ^ L := Nat.two_pow_pos L
  obtain ⟨N, hN2⟩ : ∃ N, N = 2 ^ L := ⟨_, rfl⟩
  rw [← hN2] at hN ⊢
  have hr : (List.range N).reverse = (List.range N).map fun i => N - 1 - i := by
    refine List.ext_getElem (by simp) fun i h1 h2 => ?_
    simp only [List.length_reverse, List.length_range] at h1
    rw [List.getElem_reverse, List.getElem_range, List.getElem_map, List.getElem_range, List.length_range]
  have h2 : amK L c N N = amK L c N (N - 1) := by
    obtain ⟨q, rfl⟩ : ∃ q, N = q + 1 := ⟨N - 1, by omega⟩
    rw [Nat.add_sub_cancel]
    refine amK_no ?_
    rw [Nat.add_sub_cancel, Nat.sub_self, popN_0]; omega
  have h3 : desc L L c = (((List.range (2 ^ L)).reverse).filter fun m => popN 48 m == c).map fun m => opp (trueK L m L) := by
    unfold desc
    refine List.map_congr_left fun m _ => ?_
    rw [low_all]
  rw [← h2, amK_is, ← hr, h3, hN2]
theorem cmb_mem {L : Nat} : ∀ d c T, d ≤ L → T ∈ cmb L d c → (∀ x ∈ T, ((L - d : Nat) : Int) + 1 ≤ -x ∧ -x ≤ (L : Int)) ∧ T.Pairwise (fun a b => -a < -b) ∧ T.length = c
  | d, 0, T, _, h => by
    rw [cmb_zero, List.mem_singleton] at h
    subst h; simp
  | 0, c + 1, T, _, h => by rw [cmb_none] at h; simp at h
  | d + 1, c + 1, T, hd, h => by
    rw [cmb_step, List.mem_append, List.mem_map] at h
    rcases h with ⟨T', h, rfl⟩ | h
    · obtain ⟨h1, h2, h3⟩ := cmb_mem d c T' (by omega) h
      refine ⟨fun x hx => ?_, List.pairwise_cons.2 ⟨fun x hx => ?_, h2⟩, by rw [List.length_cons, h3]⟩
      · rcases List.mem_cons.1 hx with rfl | hx
        · omega
        · have := h1 x hx; omega
      · have := h1 x hx; omega
    · obtain ⟨h1, h2, h3⟩ := cmb_mem d (c + 1) T (by omega) h
      exact ⟨fun x hx => by have := h1 x hx; omega, h2, h3⟩
theorem cmb_cl {L c : Nat} (h1 : 1 ≤ L) (hL : L ≤ 10) {T : List Int} (h : T ∈ cmb L L c) : ClOk (L : Int) T := by
  obtain ⟨a, b, -⟩ := cmb_mem L c T (Nat.le_refl _) h
  have e : ∀ x ∈ T, ltr x = -x := fun x hx => by have := a x hx; unfold ltr; rw [if_pos (by omega)]
  have m : ∀ i, (hi : i < T.length) → T.getD i 0 = T[i] := fun i hi => by simp [List.getD, hi]
  refine ⟨by omega, by omega, fun i hi => ?_, fun i j hij hj => ?_⟩
  · rw [m i hi, e _ (List.getElem_mem _)]
    have := a _ (List.getElem_mem hi)
    omega
  · rw [m i (by omega), m j hj, e _ (List.getElem_mem _), e _ (List.getElem_mem _)]
    exact (List.pairwise_iff_getElem.1 b) i j (by omega) hj hij
theorem getDL {X : List (List Int)} {k : Nat} (hk : k < X.length) : X.getD k [] = X[k] := by simp [List.getD, hk]
theorem cmb_form {L c n : Nat} (h1 : 1 ≤ L) (hL : L ≤ 10) : formB ⟨(L : Int), (cmb L L c).take n⟩ = decide (((cmb L L c).take n).length ≤ 48) := by
  unfold formB
  have a : inB (L : Int) 1 10 = true := by unfold inB; rw [decide_eq_true (by omega), decide_eq_true (by omega)]; rfl
  have b : allCl (L : Int) ((cmb L L c).take n) = true := allCl_yes fun k hk => by
    refine clB_of (cmb_cl (c := c) h1 hL ?_)
    rw [getDL hk]
    exact List.mem_of_mem_take (List.getElem_mem hk)
  show (inB (L : Int) 1 10 && (decide (((cmb L L c).take n).length ≤ 48) && allCl (L : Int) ((cmb L L c).take n))) = _
  rw [a, b, Bool.true_and, Bool.and_true]
def amB (n m : Int) : Bool := inB n 1 10 && (inB m 0 n && decide ((cmb n.toNat n.toNat (m.toNat + 1)).length ≤ 48))
def amF (n m : Int) : Fm := if amB n m then ⟨n, cmb n.toNat n.toNat (m.toNat + 1)⟩ else ⟨0, []⟩
theorem amF_no {n m : Int} (h : amB n m = false) : amF n m = ⟨0, []⟩ := by unfold amF; rw [h]; rfl
theorem amF_yes {n m : Int} (h : amB n m = true) : amF n m = ⟨n, cmb n.toNat n.toNat (m.toNat + 1)⟩ := by unfold amF; rw [if_pos h]
theorem amF_len (n m : Int) : szL (amF n m).cs ≤ 1048576 := by
  unfold amF
  split
  · rename_i h
    unfold amB at h
    simp only [Bool.and_eq_true, decide_eq_true_eq] at h
    have hn := inB_ok h.1
    have hl := h.2.2
    have each : ∀ i, i < (cmb n.toNat n.toNat (m.toNat + 1)).length → ((cmb n.toNat n.toNat (m.toNat + 1)).getD i []).length ≤ 10 := fun i hi => by
      rw [getDL hi]
      have h4 := (cmb_cl (L := n.toNat) (by omega) (by omega) (List.getElem_mem hi)).len
      rw [Int.toNat_natCast] at h4
      omega
    have ht : ∀ k, k ≤ (cmb n.toNat n.toNat (m.toNat + 1)).length → totAt (cmb n.toNat n.toNat (m.toNat + 1)) k ≤ 10 * k := by
      intro k
      induction k with
      | zero => intro _; exact Nat.le_refl _
      | succ k ih =>
        intro hk
        have := ih (by omega)
        have := each k (by omega)
        show totAt _ k + ((cmb n.toNat n.toNat (m.toNat + 1)).getD k []).length ≤ _
        omega
    have := ht _ (Nat.le_refl _)
    show szL (cmb n.toNat n.toNat (m.toNat + 1)) ≤ _
    unfold szL
    omega
  · simp [szL, totAt]
end Go.Proofs.Ytnakpfbeeekmiaa
/- Rows of which the part behind r is new, and the part ahead of it old (plain). -/
namespace Go.Proofs.Ytnakpfbeeekmiaa

def mix (f g : Nat → Int) (n r : Nat) : List Int := (List.range n).map fun x => if r ≤ x then f x else g x
def allF (f : Nat → Int) (n : Nat) : List Int := (List.range n).map f
theorem mix_len (f g : Nat → Int) (n r : Nat) : (mix f g n r).length = n := by simp [mix]
theorem allF_len (f : Nat → Int) (n : Nat) : (allF f n).length = n := by simp [allF]
theorem mix_at {f g : Nat → Int} {n r x : Nat} (h : x < n) : (mix f g n r).getD x 0 = if r ≤ x then f x else g x := by simp [mix, List.getD, h]
theorem mix_old {f g : Nat → Int} {n r x : Nat} (h : x < n) (hr : x < r) : (mix f g n r).getD x 0 = g x := by rw [mix_at h, if_neg (by omega)]
theorem allF_at {f : Nat → Int} {n x : Nat} (h : x < n) : (allF f n).getD x 0 = f x := by simp [allF, List.getD, h]
theorem mix_start (f g : Nat → Int) (n : Nat) : mix f g n n = allF g n := by
  unfold mix allF
  refine List.map_congr_left fun x hx => ?_
  rw [if_neg (by have := List.mem_range.1 hx; omega)]
theorem mix_done {f g : Nat → Int} {n r : Nat} (h : ∀ x, x < r → f x = g x) : mix f g n r = allF f n := by
  unfold mix allF
  refine List.map_congr_left fun x _ => ?_
  split
  · rfl
  · exact (h x (by omega)).symm
theorem mix_set {f g : Nat → Int} {n r : Nat} : (mix f g n (r + 1)).set r (f r) = mix f g n r := by
  refine List.ext_getElem (by simp [mix]) fun i h1 h2 => ?_
  rw [List.getElem_set]
  simp only [mix, List.getElem_map, List.getElem_range]
  by_cases e : r = i
  · subst e; simp
  · rw [if_neg e]
    by_cases e2 : r ≤ i
    · rw [if_pos (by omega), if_pos e2]
    · rw [if_neg (by omega), if_neg e2]
theorem mix_up {f g : Nat → Int} {n r : Nat} : (mix f g n r).set r (g r) = mix f g n (r + 1) := by
  refine List.ext_getElem (by simp [mix]) fun i h1 h2 => ?_
  rw [List.getElem_set]
  simp only [mix, List.getElem_map, List.getElem_range]
  by_cases e : r = i
  · subst e; rw [if_pos rfl, if_neg (by omega)]
  · rw [if_neg e]
    by_cases e2 : r ≤ i
    · rw [if_pos e2, if_pos (by omega)]
    · rw [if_neg e2, if_neg (by omega)]
theorem mix_end {f g : Nat → Int} {n r : Nat} (h : n ≤ r) : mix f g n r = allF g n := by
  unfold mix allF
  refine List.map_congr_left fun x hx => ?_
  rw [if_neg (by have := List.mem_range.1 hx; omega)]
theorem mix_new {f g : Nat → Int} {n r x : Nat} (h : x < n) (hr : r ≤ x) : (mix f g n r).getD x 0 = f x := by rw [mix_at h, if_pos hr]
theorem rep_allF {f : Nat → Int} {n : Nat} {z : Int} (h : ∀ x, x < n → f x = z) : List.replicate n z = allF f n := by
  refine List.ext_getElem (by simp [allF]) fun i h1 h2 => ?_
  rw [List.length_replicate] at h1
  simp [allF, h i h1]
theorem allF_congr {f g : Nat → Int} {n : Nat} (h : ∀ x, x < n → f x = g x) : allF f n = allF g n := by
  unfold allF
  exact List.map_congr_left fun x hx => h x (List.mem_range.1 hx)
/-- The first row of ways to fill: one way to fill nothing. -/
theorem fill0 (S : List Int) (n : Nat) : (List.replicate (n + 1) (0 : Int)).set 0 1 = allF (fillW S 0) (n + 1) := by
  refine List.ext_getElem (by simp [allF]) fun i h1 h2 => ?_
  rw [List.getElem_set]
  simp only [allF, List.getElem_map, List.getElem_range, List.getElem_replicate, fillW]
  by_cases e : i = 0
  · subst e; simp
  · rw [if_neg (fun h => e h.symm), if_neg e]
theorem fill_yes {S : List Int} {i r s : Nat} (hs : S.getD i 0 = (s : Int)) (h : s ≤ r) : fillW S (i + 1) r = fillW S i r + fillW S i (r - s) := by
  show (if (S.getD i 0).toNat ≤ r then _ else _) = _
  rw [hs, Int.toNat_natCast, if_pos h]
theorem fill_no {S : List Int} {i r s : Nat} (hs : S.getD i 0 = (s : Int)) (h : r < s) : fillW S (i + 1) r = fillW S i r := by
  show (if (S.getD i 0).toNat ≤ r then _ else _) = _
  rw [hs, Int.toNat_natCast, if_neg (by omega)]
theorem best_yes {S G : List Int} {i r s : Nat} (hs : S.getD i 0 = (s : Int)) (h : s ≤ r) : bestG S G (i + 1) r = max (bestG S G i r) (bestG S G i (r - s) + G.getD i 0) := by
  show (if (S.getD i 0).toNat ≤ r then max (bestG S G i r) (bestG S G i (r - (S.getD i 0).toNat) + G.getD i 0) else _) = _
  rw [hs, Int.toNat_natCast, if_pos h]
theorem best_no {S G : List Int} {i r s : Nat} (hs : S.getD i 0 = (s : Int)) (h : r < s) : bestG S G (i + 1) r = bestG S G i r := by
  show (if (S.getD i 0).toNat ≤ r then _ else _) = _
  rw [hs, Int.toNat_natCast, if_neg (by omega)]
theorem nat_of {x : Int} (h : 0 ≤ x) : ∃ s : Nat, x = (s : Int) := ⟨x.toNat, by omega⟩
/-- The answers of WaysToFill. -/
def fillB (S : List Int) (r : Int) : Bool := sizesB S && inB r 0 1000
def fillI (S : List Int) (r : Int) : Int := if fillB S r then fillW S S.length r.toNat else 0
def gainL (S G : List Int) (r : Int) : List Int := if canB S G r then allF (bestG S G S.length) (r.toNat + 1) else []
theorem gainL_len {S G : List Int} {r : Int} : (gainL S G r).length ≤ 1048576 := by
  unfold gainL
  split
  · rename_i h
    have := (canB_ok h).r1
    rw [allF_len]; omega
  · simp
end Go.Proofs.Ytnakpfbeeekmiaa
/- Models of forms (plain). -/
namespace Go.Proofs.Ytnakpfbeeekmiaa

/-- Is a literal true by the values with the number n? -/
def litT (L n : Nat) (x : Int) : Bool := n.testBit (L - (ltr x).toNat) == decide (0 < x)
def holdsC (L n : Nat) (c : List Int) : Bool := (List.range c.length).any fun i => litT L n (c.getD i 0)
/-- How many of the first k clauses hold; the set of those that do not. -/
def howK (L : Nat) (C : List (List Int)) (n : Nat) : Nat → Nat
  | 0 => 0
  | k + 1 => howK L C n k + (if holdsC L n (C.getD k []) then 1 else 0)
def failK (L : Nat) (C : List (List Int)) (n : Nat) : Nat → Nat
  | 0 => 0
  | k + 1 => failK L C n k + (if holdsC L n (C.getD k []) then 0 else 2 ^ k)
def modelB (L : Nat) (C : List (List Int)) (n : Nat) : Bool := decide (howK L C n C.length = C.length)
theorem howK_le (L : Nat) (C : List (List Int)) (n : Nat) : ∀ k, howK L C n k ≤ k
  | 0 => Nat.le_refl _
  | k + 1 => by
    have := howK_le L C n k
    unfold howK
    split <;> omega
theorem failK_lt (L : Nat) (C : List (List Int)) (n : Nat) : ∀ k, failK L C n k < 2 ^ k
  | 0 => by simp [failK]
  | k + 1 => by
    have := failK_lt L C n k
    unfold failK
    rw [Nat.pow_succ]
    split <;> omega
theorem fail_how (L : Nat) (C : List (List Int)) (n : Nat) : ∀ k, failK L C n k = 0 ↔ howK L C n k = k
  | 0 => by simp [failK, howK]
  | k + 1 => by
    have ih := fail_how L C n k
    have h1 := howK_le L C n k
    have hp : 0 < 2 ^ k := Nat.two_pow_pos k
    unfold failK howK
    split
    · rw [Nat.add_zero, ih]; omega
    · omega
theorem model_fail {L : Nat} {C : List (List Int)} {n : Nat} : modelB L C n = decide (failK L C n C.length = 0) := by
  unfold modelB
  exact decide_eq_decide.2 (fail_how L C n C.length).symm
theorem or_pow {a k : Nat} (h : a < 2 ^ k) : a ||| 2 ^ k = a + 2 ^ k := by
  have := Nat.two_pow_add_eq_or_of_lt h 1
  rw [Nat.mul_one] at this
  rw [Nat.or_comm, ← this, Nat.add_comm]
theorem fail_up {L : Nat} {C : List (List Int)} {n k : Nat} (h : holdsC L n (C.getD k []) = false) : failK L C n (k + 1) = failK L C n k ||| 2 ^ k := by
  rw [or_pow (failK_lt L C n k)]
  show failK L C n k + _ = _
  rw [h]; rfl
theorem fail_same {L : Nat} {C : List (List Int)} {n k : Nat} (h : holdsC L n (C.getD k []) = true) : failK L C n (k + 1) = failK L C n k := by
  show failK L C n k + _ = _
  rw [h]; rfl
/-- The digits of the literals that are letters, and of those that are opposites. -/
def plainK (L : Nat) (c : List Int) : Nat → Nat
  | 0 => 0
  | k + 1 => if 0 < c.getD k 0 then plainK L c k ||| 2 ^ (L - (ltr (c.getD k 0)).toNat) else plainK L c k
def turnK (L : Nat) (c : List Int) : Nat → Nat
  | 0 => 0
  | k + 1 => if 0 < c.getD k 0 then turnK L c k else turnK L c k ||| 2 ^ (L - (ltr (c.getD k 0)).toNat)
theorem plain_bit (L : Nat) (c : List Int) (i : Nat) : ∀ k, (plainK L c k).testBit i = true ↔ ∃ j, j < k ∧ 0 < c.getD j 0 ∧ L - (ltr (c.getD j 0)).toNat = i
  | 0 => by simp [plainK]
  | k + 1 => by
    have ih := plain_bit L c i k
    unfold plainK
    split
    · rename_i h
      rw [Nat.testBit_or, Bool.or_eq_true, ih, Nat.testBit_two_pow, decide_eq_true_eq]
      constructor
      · rintro (⟨j, h1, h2⟩ | h1)
        · exact ⟨j, by omega, h2⟩
        · exact ⟨k, by omega, h, h1⟩
      · rintro ⟨j, h1, h2, h3⟩
        by_cases e : j = k
        · subst e; exact Or.inr h3
        · exact Or.inl ⟨j, by omega, h2, h3⟩
    · rename_i h
      rw [ih]
      constructor
      · rintro ⟨j, h1, h2⟩
        exact ⟨j, by omega, h2⟩
      · rintro ⟨j, h1, h2, h3⟩
        by_cases e : j = k
        · subst e; exact absurd h2 h
        · exact ⟨j, by omega, h2, h3⟩
theorem turn_bit (L : Nat) (c : List Int) (i : Nat) : ∀ k, (turnK L c k).testBit i = true ↔ ∃ j, j < k ∧ ¬ 0 < c.getD j 0 ∧ L - (ltr (c.getD j 0)).toNat = i
  | 0 => by simp [turnK]
  | k + 1 => by
    have ih := turn_bit L c i k
    unfold turnK
    split
    · rename_i h
      rw [ih]
      constructor
      · rintro ⟨j, h1, h2⟩
        exact ⟨j, by omega, h2⟩
      · rintro ⟨j, h1, h2, h3⟩
        by_cases e : j = k
        · subst e; exact absurd h h2
        · exact ⟨j, by omega, h2, h3⟩
    · rename_i h
      rw [Nat.testBit_or, Bool.or_eq_true, ih, Nat.testBit_two_pow, decide_eq_true_eq]
      constructor
      · rintro (⟨j, h1, h2⟩ | h1)
        · exact ⟨j, by omega, h2⟩
        · exact ⟨k, by omega, h, h1⟩
      · rintro ⟨j, h1, h2, h3⟩
        by_cases e : j = k
        · subst e; exact Or.inr h3
        · exact Or.inl ⟨j, by omega, h2, h3⟩
theorem pow_lt_pow {L a : Nat} (h1 : 1 ≤ a) (h2 : a ≤ L) : 2 ^ (L - a) < 2 ^ L := Nat.pow_lt_pow_right (by omega) (by omega)
theorem plain_lt {L : Nat} {c : List Int} (h : ∀ i, i < c.length → 1 ≤ (ltr (c.getD i 0)).toNat ∧ (ltr (c.getD i 0)).toNat ≤ L) : ∀ k, k ≤ c.length → plainK L c k < 2 ^ L
  | 0, _ => Nat.two_pow_pos L
  | k + 1, hk => by
    have ih := plain_lt h k (by omega)
    unfold plainK
    split
    · exact Nat.or_lt_two_pow ih (pow_lt_pow (h k (by omega)).1 (h k (by omega)).2)
    · exact ih
theorem turn_lt {L : Nat} {c : List Int} (h : ∀ i, i < c.length → 1 ≤ (ltr (c.getD i 0)).toNat ∧ (ltr (c.getD i 0)).toNat ≤ L) : ∀ k, k ≤ c.length → turnK L c k < 2 ^ L
  | 0, _ => Nat.two_pow_pos L
  | k + 1, hk => by
    have ih := turn_lt h k (by omega)
    unfold turnK
    split
    · exact ih
    · exact Nat.or_lt_two_pow ih (pow_lt_pow (h k (by omega)).1 (h k (by omega)).2)
theorem ClOk.nat {n : Int} {c : List Int} (h : ClOk n c) {i : Nat} (hi : i < c.length) : 1 ≤ (ltr (c.getD i 0)).toNat ∧ (ltr (c.getD i 0)).toNat ≤ n.toNat := by
  have := h.a i hi
  omega
/-- The test of the program says whether a clause does not hold. -/
theorem test_holds {n : Int} {c : List Int} (h : ClOk n c) (m : Nat) : decide (m &&& (plainK n.toNat c c.length ||| turnK n.toNat c c.length) = turnK n.toNat c c.length) = !holdsC n.toNat m c := by
  obtain ⟨L, hL⟩ : ∃ L, L = n.toNat := ⟨_, rfl⟩
  rw [← hL]
  have hdis : ∀ i j, i < c.length → j < c.length → L - (ltr (c.getD i 0)).toNat = L - (ltr (c.getD j 0)).toNat → i = j := by
    intro i j hi hj e
    have h1 := h.nat hi
    have h2 := h.nat hj
    rw [← hL] at h1 h2
    rcases Nat.lt_trichotomy i j with q | q | q
    · have h3 := h.up i j q hj
      have h4 := h.a i hi
      have h5 := h.a j hj
      omega
    · exact q
    · have h3 := h.up j i q hi
      have h4 := h.a i hi
      have h5 := h.a j hj
      omega
  cases hh : holdsC L m c with
  | true =>
    simp only [Bool.not_true, decide_eq_false_iff_not]
    intro he
    unfold holdsC at hh
    rw [List.any_eq_true] at hh
    obtain ⟨k, hk, ht⟩ := hh
    have hk := List.mem_range.1 hk
    unfold litT at ht
    rw [beq_iff_eq] at ht
    have hb := congrArg (fun x => x.testBit (L - (ltr (c.getD k 0)).toNat)) he
    simp only [Nat.testBit_and, Nat.testBit_or, ht] at hb
    by_cases hp : 0 < c.getD k 0
    · rw [decide_eq_true hp, (plain_bit L c _ c.length).2 ⟨k, hk, hp, rfl⟩, Bool.true_or, Bool.true_and] at hb
      obtain ⟨j, h1, h2, h3⟩ := (turn_bit L c _ c.length).1 hb.symm
      have := hdis j k h1 hk h3
      subst this
      exact h2 hp
    · rw [decide_eq_false hp, Bool.false_and] at hb
      have := (turn_bit L c _ c.length).2 ⟨k, hk, hp, rfl⟩
      rw [← hb] at this
      cases this
  | false =>
    simp only [Bool.not_false, decide_eq_true_eq]
    have hn : ∀ k, k < c.length → m.testBit (L - (ltr (c.getD k 0)).toNat) = !decide (0 < c.getD k 0) := by
      intro k hk
      have : litT L m (c.getD k 0) = false := by
        rw [Bool.eq_false_iff]
        intro hc
        have : holdsC L m c = true := by
          unfold holdsC
          rw [List.any_eq_true]
          exact ⟨k, List.mem_range.2 hk, hc⟩
        rw [hh] at this; cases this
      unfold litT at this
      rw [beq_eq_false_iff_ne] at this
      revert this
      cases m.testBit (L - (ltr (c.getD k 0)).toNat) <;> cases decide (0 < c.getD k 0) <;> simp
    apply Nat.eq_of_testBit_eq
    intro i
    rw [Nat.testBit_and, Nat.testBit_or]
    cases ht : (turnK L c c.length).testBit i with
    | true =>
      obtain ⟨j, h1, h2, h3⟩ := (turn_bit L c i c.length).1 ht
      have := hn j h1
      rw [h3, decide_eq_false h2] at this
      rw [this]; simp
    | false =>
      cases hp : (plainK L c c.length).testBit i with
      | true =>
        obtain ⟨j, h1, h2, h3⟩ := (plain_bit L c i c.length).1 hp
        have := hn j h1
        rw [h3, decide_eq_true h2] at this
        rw [this]; rfl
      | false => simp
/-- The row of sets of clauses that do not hold. -/
def failL (L : Nat) (C : List (List Int)) (k : Nat) : List Int := allF (fun n => (failK L C n k : Int)) (2 ^ L)
theorem failL_len (L : Nat) (C : List (List Int)) (k : Nat) : (failL L C k).length = 2 ^ L := allF_len _ _
theorem failL_at {L : Nat} {C : List (List Int)} {k n : Nat} (h : n < 2 ^ L) : (failL L C k).getD n 0 = (failK L C n k : Int) := allF_at h
theorem mix_same {f g : Nat → Int} {n r : Nat} (h : f r = g r) : mix f g n r = mix f g n (r + 1) := by
  unfold mix
  refine List.map_congr_left fun x _ => ?_
  by_cases e : x = r
  · subst e; rw [if_pos (Nat.le_refl _), if_neg (by omega), h]
  · by_cases e2 : r ≤ x
    · rw [if_pos e2, if_pos (by omega)]
    · rw [if_neg e2, if_neg (by omega)]
theorem mix_zero (f g : Nat → Int) (n : Nat) : mix f g n 0 = allF f n := by
  unfold mix allF
  refine List.map_congr_left fun x _ => ?_
  rw [if_pos (Nat.zero_le _)]
end Go.Proofs.Ytnakpfbeeekmiaa
/- A row of integers of the call's own. -/
namespace Go.Proofs.Ytnakpfbeeekmiaa
open Go.RowKit Go.ChangeShapes Go.WideShapes

theorem saysIB {n m : Int} {b : Bool} {w w' : World} (h : n = m) (k : Below w.heap.size w w') : SaysIB m b w (.returned (.tuple #[.int .i64 n, .bool b])) w' := ⟨by rw [h], k⟩
/-- A row of the call's own in block B. -/
structure RowAt (w : World) (B : Nat) (Z : List Int) (wr : World) : Prop where
  below : Below w.heap.size w wr
  lt : B < wr.heap.size
  ge : w.heap.size ≤ B
  arr : Arr (Value.int .i64) 0 wr B 0 Z
theorem RowAt.drew {w wr : World} {B : Nat} {Z : List Int} (h : RowAt w B Z wr) (n : Nat) : RowAt w B Z (wr.drewN n) := ⟨below_drewN h.below n, h.lt, h.ge, h.arr.drewN n⟩
theorem RowAt.set {w wr : World} {B : Nat} {Z : List Int} (h : RowAt w B Z wr) {i : Nat} (hi : i < Z.length) (x : Int) : RowAt w B (Z.set i x) (wr.setCell ⟨B, i, none⟩ (.int .i64 x)) :=
  ⟨h.below.setCell h.ge _, by simpa using h.lt, h.ge, h.arr.set0 hi x⟩
theorem RowAt.to {w wr : World} {B : Nat} {Z Y : List Int} (h : RowAt w B Z wr) (e : Z = Y) : RowAt w B Y wr := e ▸ h
theorem RowAt.cell {w wr : World} {B : Nat} {Z : List Int} (h : RowAt w B Z wr) {i : Nat} (hi : i < Z.length) : wr.cell? ⟨B, i, none⟩ = some (.int .i64 (Z.getD i 0)) := h.arr.cell0 hi
end Go.Proofs.Ytnakpfbeeekmiaa
/- Sets of clauses that do not hold: the program's side. -/
namespace Go.Proofs.Ytnakpfbeeekmiaa
open Go.RowKit Go.ChangeShapes Go.WideShapes

theorem i64_and62 (a b : Nat) (ha : a < 4611686018427387904) (hb : b < 4611686018427387904) : bits .and .i64 (a : Int) (b : Int) = ((a &&& b : Nat) : Int) := by
  have hx : a &&& b ≤ a := Nat.and_le_left
  show IntKind.i64.wrap ((BitVec.ofInt 64 (a : Int) &&& BitVec.ofInt 64 (b : Int)).toNat : Int) = _
  rw [BitVec.toNat_and, ofInt_u64 a (by omega), ofInt_u64 b (by omega)]
  exact IntWalk.i64_in _ (by omega)
theorem i64_or62 (a b : Nat) (ha : a < 4611686018427387904) (hb : b < 4611686018427387904) : bits .or .i64 (a : Int) (b : Int) = ((a ||| b : Nat) : Int) := by
  have hx : a ||| b < 2 ^ 62 := Nat.or_lt_two_pow (n := 62) (by simpa using ha) (by simpa using hb)
  show IntKind.i64.wrap ((BitVec.ofInt 64 (a : Int) ||| BitVec.ofInt 64 (b : Int)).toNat : Int) = _
  rw [BitVec.toNat_or, ofInt_u64 a (by omega), ofInt_u64 b (by omega)]
  exact IntWalk.i64_in _ (by omega)
theorem pow_cast (d : Nat) : ((2 ^ d : Nat) : Int) = (2 : Int) ^ d := by simp
theorem pow10 {L : Nat} (h : L ≤ 10) : 1 ≤ 2 ^ L ∧ 2 ^ L ≤ 1024 := by
  have h1 : 2 ^ L ≤ 2 ^ 10 := Nat.pow_le_pow_right (by omega) h
  have h2 : 0 < 2 ^ L := Nat.two_pow_pos L
  omega
theorem digitOf_is (n a : Int) (L A : Nat) (w : World) (hn : n = (L : Int)) (ha : a = (A : Int)) (h1 : A ≤ L) (h2 : L ≤ 10) :
    Calls Try.prog 110 #[.int .i64 n, .int .i64 a] w (fun e w' => e = .returned (.int .i64 ((2 ^ (L - A) : Nat) : Int)) ∧ w = w') := by
  obtain ⟨p1, p2⟩ := pow10 (L := L - A) (by omega)
  have e : (n - a).toNat = L - A := by omega
  have e0 : 0 ≤ n - a := by omega
  have q1 : (1 : Int) ≤ 2 ^ (n - a).toNat := by rw [e, ← pow_cast]; omega
  have q2 : (2 : Int) ^ (n - a).toNat ≤ 1024 := by rw [e, ← pow_cast]; omega
  have HE : Hid ((2 : Int) ^ (n - a).toNat = ((2 ^ (L - A) : Nat) : Int)) := Lib.hid (by rw [e, pow_cast])
  have b1 : n ≤ 10 := by omega
  have b2 : 0 ≤ a := by omega
  have b3 : 0 ≤ n := by omega
  have b4 : a ≤ 10 := by omega
  clear hn ha e p1 p2 h1
  go_enter Try.func110, Try.ntmps110
  go_wp2
  go_ret
  exact ⟨ret_int HE.out, rfl⟩
theorem countOfValues_is (n : Int) (L : Nat) (w : World) (hn : n = (L : Int)) (h2 : L ≤ 10) :
    Calls Try.prog 134 #[.int .i64 n] w (fun e w' => e = .returned (.int .i64 ((2 ^ L : Nat) : Int)) ∧ w = w') := by
  obtain ⟨p1, p2⟩ := pow10 h2
  have e : n.toNat = L := by omega
  have q1 : (1 : Int) ≤ 2 ^ n.toNat := by rw [e, ← pow_cast]; omega
  have q2 : (2 : Int) ^ n.toNat ≤ 1024 := by rw [e, ← pow_cast]; omega
  have HE : Hid ((2 : Int) ^ n.toNat = ((2 ^ L : Nat) : Int)) := Lib.hid (by rw [e, pow_cast])
  have b1 : n ≤ 10 := by omega
  have b3 : 0 ≤ n := by omega
  clear hn e p1 p2
  go_enter Try.func134, Try.ntmps134
  go_wp2
  go_ret
  exact ⟨ret_int HE.out, rfl⟩
theorem ret_ii {a b c d : Int} (h : a = b) (k : c = d) : Ending.returned (.tuple #[.int .i64 a, .int .i64 c]) = .returned (.tuple #[.int .i64 b, .int .i64 d]) := by rw [h, k]
set_option maxHeartbeats 4000000 in
/-- The digits of literals: of different letters from 1 to n. -/
theorem digitsOf_any (n : Int) (v : Value) (c : List Int) (w : World) (hv : IL w v c) (hn : c.length ≤ 1048576) (n1 : 1 ≤ n) (n2 : n ≤ 10) (ha : ∀ i, i < c.length → 1 ≤ ltr (c.getD i 0) ∧ ltr (c.getD i 0) ≤ n) :
    Calls Try.prog 135 #[.int .i64 n, v] w (fun e w' => e = .returned (.tuple #[.int .i64 (plainK n.toNat c c.length : Nat), .int .i64 (turnK n.toNat c c.length : Nat)]) ∧ w = w') := by
  obtain ⟨L, rfl⟩ : ∃ L : Nat, n = (L : Int) := ⟨n.toNat, by omega⟩
  rw [Int.toNat_natCast]
  have hb : ∀ i, i < c.length → 1 ≤ (ltr (c.getD i 0)).toNat ∧ (ltr (c.getD i 0)).toNat ≤ L := fun i hi => by have := ha i hi; omega
  obtain ⟨p1, p2⟩ := pow10 (L := L) (by omega)
  rcases hv with ⟨rfl, ao, cap, rfl⟩ | ⟨b, off, cap, rfl, hpos, hbl, hcell⟩
  · clear ha hb
    go_enter Try.func135, Try.ntmps135
    go_wp2_with fail
    refine wp_loop_rounds 1 ?_
    rw [rounds_succ]
    go_wp2
    go_ret2
    exact ⟨rfl, rfl⟩
  have HC := Lib.hid hcell
  have HA := Lib.hid ha
  have HP := Lib.hid (fun k hk => plain_lt hb k hk)
  have HT := Lib.hid (fun k hk => turn_lt hb k hk)
  clear hcell ha hb
  go_enter Try.func135, Try.ntmps135
  go_wp2_with fail
  go_loopg [4, 5, 10] c.length (fun gk s4 s5 i wr => ∃ k : Nat, k ≤ c.length ∧ gk + k = c.length ∧ i = .int .i64 k ∧ s4 = .int .i64 (plainK L c k : Nat) ∧ s5 = .int .i64 (turnK L c k : Nat) ∧ w = wr)
  case atStart => exact ⟨0, Nat.zero_le _, by omega, rfl, rfl, rfl, rfl⟩
  case round =>
    obtain ⟨k, hk, hgk, rfl, rfl, rfl, rfl⟩ := hrel
    have hp := HP.out k hk
    have ht := HT.out k hk
    by_cases hlt : k < c.length
    · have c0 := HC.out k hlt
      obtain ⟨a1, a2⟩ := HA.out k hlt
      obtain ⟨x, hx⟩ : ∃ x, x = c.getD k 0 := ⟨_, rfl⟩
      rw [← hx] at c0 a1 a2
      by_cases hpos' : 0 < x
      · have HN1 : Hid (plainK L c (k + 1) = plainK L c k ||| 2 ^ (L - x.toNat)) := Lib.hid (by
          have : ltr x = x := by unfold ltr; rw [if_neg (by omega)]
          show (if 0 < c.getD k 0 then _ else _) = _
          rw [← hx, if_pos hpos', this])
        have HN2 : Hid (turnK L c (k + 1) = turnK L c k) := Lib.hid (by
          show (if 0 < c.getD k 0 then _ else _) = _
          rw [← hx, if_pos hpos'])
        have hl : ltr x = x := by unfold ltr; rw [if_neg (by omega)]
        rw [hl] at a1 a2
        have hq := pow10 (L := L - x.toNat) (by omega)
        have hor := i64_or62 (plainK L c k) (2 ^ (L - x.toNat)) (by omega) (by omega)
        generalize plainK L c k = P at hp HN1 hor
        generalize turnK L c k = T at ht HN2
        have hlt' : (k : Int) < (c.length : Int) := by omega
        have HOR := Lib.hid hor
        have hxn : x = (x.toNat : Int) := by omega
        have HXN := Lib.hid hxn
        have HLE : Hid (x.toNat ≤ L) := Lib.hid (by omega)
        generalize hD : 2 ^ (L - x.toNat) = D at HN1 hor hq HOR
        have HDD := Lib.hid hD
        clear hx hD hxn hor
        go_wp2_with fail
        go_at_call 110; refine (digitOf_is (L : Int) x L x.toNat _ rfl HXN.out HLE.out (by omega)).mono ?_; rintro e w' ⟨rfl, rfl⟩
        rw [HDD.out]
        have hor := HOR.out
        go_wp2_with fail
        go_roundg (gk - 1)
        case measure => omega
        case rel => exact ⟨k + 1, by omega, by omega, by go_num, by rw [HN1.out], by rw [HN2.out], rfl⟩
      · have hl : ltr x = -x := by
          unfold ltr
          by_cases h0 : x = 0
          · subst h0; rfl
          · rw [if_pos (by omega)]
        have HN1 : Hid (plainK L c (k + 1) = plainK L c k) := Lib.hid (by
          show (if 0 < c.getD k 0 then _ else _) = _
          rw [← hx, if_neg hpos'])
        have HN2 : Hid (turnK L c (k + 1) = turnK L c k ||| 2 ^ (L - (-x).toNat)) := Lib.hid (by
          show (if 0 < c.getD k 0 then _ else _) = _
          rw [← hx, if_neg hpos', hl])
        rw [hl] at a1 a2
        have hq := pow10 (L := L - (-x).toNat) (by omega)
        have hor := i64_or62 (turnK L c k) (2 ^ (L - (-x).toNat)) (by omega) (by omega)
        generalize plainK L c k = P at hp HN1
        generalize turnK L c k = T at ht HN2 hor
        have hlt' : (k : Int) < (c.length : Int) := by omega
        have hwx : IntKind.i64.wrap (-x) = -x := IntWalk.i64_in _ (by omega)
        have HOR := Lib.hid hor
        have HXN : Hid (-x = ((-x).toNat : Int)) := Lib.hid (by omega)
        have HLE : Hid ((-x).toNat ≤ L) := Lib.hid (by omega)
        generalize hD : 2 ^ (L - (-x).toNat) = D at HN2 hor hq HOR
        have HDD := Lib.hid hD
        clear hx hD hor
        go_wp2_with fail
        go_at_call 110; refine (digitOf_is (L : Int) (-x) L (-x).toNat _ rfl HXN.out HLE.out (by omega)).mono ?_; rintro e w' ⟨rfl, rfl⟩
        rw [HDD.out]
        have hor := HOR.out
        go_wp2_with fail
        go_roundg (gk - 1)
        case measure => omega
        case rel => exact ⟨k + 1, by omega, by omega, by go_num, by rw [HN1.out], by rw [HN2.out], rfl⟩
    · obtain rfl : k = c.length := by omega
      go_wp2_with fail
      go_ret2
      exact ⟨rfl, rfl⟩
/-- A form that is valid, in numbers. -/
structure FmN (F : Fm) (L : Nat) : Prop where
  ok : FormOk F
  n : F.letters = (L : Int)
  L1 : 1 ≤ L
  L2 : L ≤ 10
  p1 : 1 ≤ 2 ^ L
  p2 : 2 ^ L ≤ 1024
theorem FormOk.num {F : Fm} (h : FormOk F) : FmN F F.letters.toNat := by
  have h1 := h.n1
  have h2 := h.n2
  have h3 := pow10 (L := F.letters.toNat) (by omega)
  exact ⟨h, by omega, by omega, by omega, h3.1, h3.2⟩
theorem FmN.cl {F : Fm} {L : Nat} (h : FmN F L) {k : Nat} (hk : k < F.cs.length) : ClOk (L : Int) (F.cs.getD k []) := by rw [← h.n]; exact h.ok.cl k hk
theorem fail62 {L k : Nat} (C : List (List Int)) (n : Nat) (hk : k ≤ 48) : failK L C n k < 4611686018427387904 := by
  have h1 := failK_lt L C n k
  have h2 : 2 ^ k ≤ 2 ^ 48 := Nat.pow_le_pow_right (by omega) hk
  have h3 : (2 : Nat) ^ 48 = 281474976710656 := by decide
  omega
theorem pow48 {k : Nat} (hk : k < 48) : 1 ≤ 2 ^ k ∧ 2 ^ k ≤ 140737488355328 := by
  have h2 : 2 ^ k ≤ 2 ^ 47 := Nat.pow_le_pow_right (by omega) (by omega)
  have h1 : 0 < 2 ^ k := Nat.two_pow_pos k
  have h3 : (2 : Nat) ^ 47 = 140737488355328 := by decide
  omega
theorem Arr.made_i2 {w : World} {n b B e : Nat} (h : w.ownsRow b e 1 (.slice (some ⟨B, 0, none⟩) n n) n (madeCells (Value.int .i64 0).cells (n * 1)).toList) : Arr (Value.int .i64) 0 w B 0 (List.replicate n 0) := by
  refine ⟨fun i hi => ?_, h.frozenAt⟩
  rw [List.length_replicate] at hi
  rw [Nat.zero_add, h.cellAt i (by omega)]
  rcases made_one (.int .i64 0) n hi with h1 | h1
  · rw [h1]; simp [Value.cells, List.getD, hi]
  · exact absurd rfl h1
/-- A row that is made behind a box. -/
structure RowBox (w : World) (x y : Value) (Z : List Int) (wr : World) : Prop where
  row : RowAt w (w.heap.size + 1) Z wr
  box : Box2 wr w.heap.size x y
theorem RowBox.made {w w1 : World} {x y : Value} {T e b n : Nat} (hown : w1.ownsRow b e 1 (.slice (some ⟨(w.alloc (.cells #[x, y] T)).heap.size, 0, none⟩) n n) n (madeCells (Value.int .i64 0).cells (n * 1)).toList) (hgrow : (w.alloc (.cells #[x, y] T)).grownBy w1 none) : RowBox w x y (List.replicate n 0) w1 := by
  have bm := (Below.refl (w.alloc (.cells #[x, y] T)).heap.size (w.alloc (.cells #[x, y] T))).grown hgrow (Nat.le_refl _) (fun g hg => by cases hg)
  have ha := Arr.made_i2 hown
  have hl := (hown.lt _ rfl).2
  rw [show (w.alloc (.cells #[x, y] T)).heap.size = w.heap.size + 1 by simp] at ha hl bm
  exact ⟨⟨(below_alloc w _).trans (bm.mono (by omega)), hl, Nat.le_succ _, ha⟩, (Box2.mk' w x y T).keep bm (Nat.lt_succ_self _)⟩
theorem RowBox.drew {w wr : World} {x y : Value} {Z : List Int} (h : RowBox w x y Z wr) (n : Nat) : RowBox w x y Z (wr.drewN n) := ⟨h.row.drew n, h.box.keep (below_drewN (Below.refl _ _) n) h.box.lt⟩
theorem RowBox.set {w wr : World} {x y : Value} {Z : List Int} (h : RowBox w x y Z wr) {i : Nat} (hi : i < Z.length) (u : Int) : RowBox w x y (Z.set i u) (wr.setCell ⟨w.heap.size + 1, i, none⟩ (.int .i64 u)) :=
  ⟨h.row.set hi u, h.box.keep ((Below.refl (w.heap.size + 1) wr).setCell (p := ⟨w.heap.size + 1, i, none⟩) (Nat.le_refl _) _) (Nat.lt_succ_self _)⟩
theorem RowBox.to {w wr : World} {x y : Value} {Z Y : List Int} (h : RowBox w x y Z wr) (e : Z = Y) : RowBox w x y Y wr := e ▸ h
theorem RowBox.made' {w wr : World} {x y : Value} {Z : List Int} (h : RowBox w x y Z wr) : II w.heap.size wr.heap.size wr (.slice (some ⟨w.heap.size + 1, 0, none⟩) Z.length Z.length) Z := h.row.arr.si (lo := w.heap.size) (Nat.le_succ _) h.row.lt
def failMix (L : Nat) (C : List (List Int)) (k m : Nat) : List Int := mix (fun n => (failK L C n k : Int)) (fun n => (failK L C n (k + 1) : Int)) (2 ^ L) m
theorem failMix_len (L : Nat) (C : List (List Int)) (k m : Nat) : (failMix L C k m).length = 2 ^ L := mix_len _ _ _ _
theorem failMix_zero (L : Nat) (C : List (List Int)) (k : Nat) : failL L C k = failMix L C k 0 := (mix_zero _ _ _).symm
theorem failMix_end (L : Nat) (C : List (List Int)) (k : Nat) : failMix L C k (2 ^ L) = failL L C (k + 1) := mix_end (Nat.le_refl _)
theorem failMix_at {L : Nat} {C : List (List Int)} {k m : Nat} (h : m < 2 ^ L) : (failMix L C k m).getD m 0 = (failK L C m k : Int) := by unfold failMix; rw [mix_at h, if_pos (Nat.le_refl _)]
theorem failMix_up {L : Nat} {C : List (List Int)} {k m : Nat} (h : holdsC L m (C.getD k []) = false) : (failMix L C k m).set m ((failK L C m k ||| 2 ^ k : Nat) : Int) = failMix L C k (m + 1) := by
  rw [← fail_up h]
  exact mix_up
theorem failMix_same {L : Nat} {C : List (List Int)} {k m : Nat} (h : holdsC L m (C.getD k []) = true) : failMix L C k m = failMix L C k (m + 1) := mix_same (by rw [fail_same h])
set_option maxRecDepth 100000 in
set_option maxHeartbeats 8000000 in
theorem failsOf_any (v : Value) (F : Fm) (L : Nat) (w : World) (hv : FmV w v F) (o : OKFm F) (h : FmN F L) :
    Calls Try.prog 123 #[v] w (Made (Value.int .i64) (0 : Int) (failL L F.cs F.cs.length) w) := by
  obtain ⟨i0, hi, hz0, hz1, hz2⟩ := info_parts Try.infoI
  obtain ⟨s1, rfl, g1⟩ := hv
  have HH := Lib.hid h
  have hfew := h.ok.few
  have p1 := h.p1
  have p2 := h.p2
  have L2 := h.L2
  rw [h.n]
  obtain ⟨N, hN⟩ : ∃ N, N = 2 ^ L := ⟨_, rfl⟩
  have HNN := Lib.hid hN
  rw [← hN] at p1 p2
  have hlt0 : (N : Int) ≤ 1024 := by omega
  clear h
  rcases g1 with ⟨hz, ao, cap, rfl⟩ | ⟨b, off, cap, U, rfl, hpos, hbl, hcell⟩
  · have HZ : Hid (failL L F.cs F.cs.length = List.replicate N 0) := Lib.hid (by rw [hz]; unfold failL; rw [← hN]; exact (rep_allF (z := 0) fun x hx => rfl).symm)
    clear hz hN
    go_enter Try.func123, Try.ntmps123
    go_wp2_with fail
    go_at_call 134; refine (countOfValues_is (L : Int) L _ rfl L2).mono ?_; rintro e w' ⟨rfl, rfl⟩
    rw [← HNN.out]
    go_wp2_with (at_make; refine wpList_make_full _ rfl _ _ 25 rfl w.heap.size 2 i0 (.int .i64 0) 1 Try.underlying25 hi hz0 hz1 _ _ _ _ N rfl rfl rfl rfl (by rw [hz2]; omega) (by unfold maxLen; omega) (by simp) ?_; intro w1 hown hgrow; have hA := RowBox.made hown hgrow; have HA := Lib.hid hA; obtain ⟨c0, c1⟩ := hA.box; clear hown hgrow hA)
    go_wp2_with fail
    refine wp_loop_rounds 1 ?_
    rw [rounds_succ]
    go_wp2
    refine bodyPost_ret (results_tmp rfl _ _ _) rfl ?_
    have hs := HA.out.made'
    rw [List.length_replicate] at hs
    exact ⟨_, rfl, by rw [HZ.out]; exact hs, HA.out.row.below⟩
  have HC := Lib.hid hcell
  have HZ : Hid (List.replicate N 0 = failL L F.cs 0) := Lib.hid (by unfold failL; rw [← hN]; exact rep_allF (z := 0) fun x hx => rfl)
  have OK := Lib.hid o.okl
  have HLN : Hid (∀ k, (failL L F.cs k).length = N) := Lib.hid fun k => by rw [failL_len, hN]
  have HMN : Hid (∀ k m, (failMix L F.cs k m).length = N) := Lib.hid fun k m => by rw [failMix_len, hN]
  clear hN hcell
  go_enter Try.func123, Try.ntmps123
  go_wp2_with fail
  go_at_call 134; refine (countOfValues_is (L : Int) L _ rfl L2).mono ?_; rintro e w' ⟨rfl, rfl⟩
  rw [← HNN.out]
  go_wp2_with (at_make; refine wpList_make_full _ rfl _ _ 25 rfl w.heap.size 2 i0 (.int .i64 0) 1 Try.underlying25 hi hz0 hz1 _ _ _ _ N rfl rfl rfl rfl (by rw [hz2]; omega) (by unfold maxLen; omega) (by simp) ?_; intro w1 hown hgrow; have hA := RowBox.made hown hgrow; have HA := Lib.hid (RowBox.to hA HZ.out); obtain ⟨c0, c1⟩ := hA.box; clear hown hgrow hA)
  go_wp2_with fail
  clear c0 c1
  go_loopg [16] F.cs.length (fun gk i wr => ∃ k : Nat, k ≤ F.cs.length ∧ gk + k = F.cs.length ∧ i = .int .i64 k ∧ RowBox w (.int .i64 L) (.slice (some ⟨b, off, none⟩) F.cs.length (F.cs.length + cap)) (failL L F.cs k) wr)
  case atStart => exact ⟨0, Nat.zero_le _, by omega, rfl, HA.out⟩
  case round =>
    clear HA
    obtain ⟨k, hk, hgk, rfl, hA⟩ := hrel
    have HA := Lib.hid hA
    by_cases hlt : k < F.cs.length
    · obtain ⟨c0, c1⟩ := hA.box
      have d0 : wr.cell? ⟨b, off + k, none⟩ = some (U k) := by rw [hA.row.below.cell (p := ⟨b, off + k, none⟩) hbl]; exact (HC.out k hlt).1
      have HI := Lib.hid ((HC.out k hlt).2.below hA.row.below (Nat.le_refl _))
      have CL := HH.out.cl hlt
      have HCL := Lib.hid CL
      have hts := Lib.hid (fun m => test_holds CL m)
      have hnat : (L : Int).toNat = L := Int.toNat_natCast L
      rw [hnat] at hts
      have hpl : plainK L (F.cs.getD k []) (F.cs.getD k []).length < N := by rw [HNN.out]; exact plain_lt (fun i hi => by have := CL.nat hi; rw [hnat] at this; exact this) _ (Nat.le_refl _)
      have htl : turnK L (F.cs.getD k []) (F.cs.getD k []).length < N := by rw [HNN.out]; exact turn_lt (fun i hi => by have := CL.nat hi; rw [hnat] at this; exact this) _ (Nat.le_refl _)
      generalize U k = u at d0 HI
      have L1 := HH.out.L1
      clear hA CL hnat
      go_wp2_with fail
      go_at_call 135; refine (digitsOf_any (L : Int) u (F.cs.getD k []) _ HI.out (OK.out.short k) (by omega) (by omega) HCL.out.a).mono ?_; rintro e w' ⟨rfl, rfl⟩
      rw [Int.toNat_natCast]
      obtain ⟨P, hP⟩ : ∃ P, P = plainK L (F.cs.getD k []) (F.cs.getD k []).length := ⟨_, rfl⟩
      obtain ⟨T, hT⟩ : ∃ T, T = turnK L (F.cs.getD k []) (F.cs.getD k []).length := ⟨_, rfl⟩
      rw [← hP] at hpl hts ⊢
      rw [← hT] at htl hts ⊢
      have hor : bits .or .i64 (P : Int) (T : Int) = ((P ||| T : Nat) : Int) := i64_or62 P T (by omega) (by omega)
      have HOR := Lib.hid hor
      have hq : P ||| T < 4611686018427387904 := by
        have : P ||| T < 2 ^ 10 := Nat.or_lt_two_pow (by omega) (by omega)
        omega
      clear hP hT c0 c1 d0
      go_wp2_with fail
      obtain ⟨g0, rfl⟩ : ∃ x : Nat, x = gk := ⟨_, rfl⟩
      go_loopg [30] N (fun gk i w' => ∃ m : Nat, m ≤ N ∧ gk + m = N ∧ i = .int .i64 m ∧ RowBox w (.int .i64 L) (.slice (some ⟨b, off, none⟩) F.cs.length (F.cs.length + cap)) (failMix L F.cs k m) w')
      case atStart => exact ⟨0, Nat.zero_le _, by omega, rfl, by rw [← failMix_zero]; exact HA.out⟩
      case round =>
        clear HA
        obtain ⟨m, hm, hgm, rfl, hA⟩ := hrel
        have HA := Lib.hid hA
        by_cases hmt : m < N
        · have hand : bits .and .i64 (m : Int) ((P ||| T : Nat) : Int) = ((m &&& (P ||| T) : Nat) : Int) := i64_and62 m (P ||| T) (by omega) hq
          have hmt2 : (m : Int) < (N : Int) := by omega
          cases hh : holdsC L m (F.cs.getD k []) with
          | true =>
            have ht : ((m &&& (P ||| T) : Nat) : Int) ≠ (T : Int) := by
              have := hts.out m
              rw [hh] at this
              simp only [Bool.not_true, decide_eq_false_iff_not] at this
              omega
            have hte : (((m &&& (P ||| T) : Nat) : Int) == (T : Int)) = false := beq_false_of_ne ht
            have HN := Lib.hid (failMix_same (L := L) (C := F.cs) (k := k) (m := m) hh)
            generalize hQ : P ||| T = Q at hor hand hte hq
            generalize hR : m &&& Q = R at hand hte
            clear hA ht hQ hR hh
            go_wp2_with fail
            go_roundg (gk - 1)
            case measure => omega
            case rel => exact ⟨m + 1, by omega, by omega, by go_num, by rw [← HN.out]; exact HA.out⟩
          | false =>
            have ht : ((m &&& (P ||| T) : Nat) : Int) = (T : Int) := by
              have := hts.out m
              rw [hh] at this
              simp only [Bool.not_false, decide_eq_true_eq] at this
              omega
            have hte : (((m &&& (P ||| T) : Nat) : Int) == (T : Int)) = true := by rw [beq_iff_eq]; exact ht
            have hmN : m < (failMix L F.cs k m).length := by rw [HMN.out]; exact hmt
            have r0 : wr.cell? ⟨w.heap.size + 1, m, none⟩ = some (.int .i64 (failK L F.cs m k : Nat)) := by rw [hA.row.cell hmN, failMix_at (by rw [← HNN.out]; exact hmt)]
            have f0 : wr.frozen? ⟨w.heap.size + 1, m, none⟩ = false := hA.row.arr.free m
            have hf := fail62 (L := L) (k := k) F.cs m (by omega)
            obtain ⟨k1, k2⟩ := pow48 (k := k) (by omega)
            have hor2 : bits .or .i64 (failK L F.cs m k : Nat) ((2 ^ k : Nat) : Int) = ((failK L F.cs m k ||| 2 ^ k : Nat) : Int) := i64_or62 _ _ hf (by omega)
            have HN : Hid (RowBox w (.int .i64 L) (.slice (some ⟨b, off, none⟩) F.cs.length (F.cs.length + cap)) (failMix L F.cs k (m + 1)) (wr.setCell ⟨w.heap.size + 1, m, none⟩ (.int .i64 (failK L F.cs m k ||| 2 ^ k : Nat)))) := Lib.hid ((hA.set hmN _).to (failMix_up hh))
            generalize hQ : P ||| T = Q at hor hand hte hq
            generalize hR : m &&& Q = R at hand hte
            generalize failK L F.cs m k = fk at r0 hf hor2 HN
            rw [pow_cast] at hor2
            have q1 : (1 : Int) ≤ 2 ^ k := by rw [← pow_cast]; omega
            have q2 : (2 : Int) ^ k ≤ 140737488355328 := by rw [← pow_cast]; omega
            generalize fk ||| 2 ^ k = fn at hor2 HN
            clear hA ht hQ hR hh k1 k2
            go_wp2_with fail
            go_region
            all_goals
              go_wp2_with fail
              go_roundg (gk - 1)
              case measure => omega
              case rel => exact ⟨m + 1, by omega, by omega, by go_num, HN.out.drew 1⟩
        · obtain rfl : m = N := by omega
          have HE : Hid (failMix L F.cs k m = failL L F.cs (k + 1)) := Lib.hid (by rw [HNN.out]; exact failMix_end L F.cs k)
          clear hA
          go_wp2_with fail
          go_roundg (g0 - 1)
          case measure => omega
          case rel => exact ⟨k + 1, by omega, by omega, by go_num, by rw [← HE.out]; exact HA.out⟩
    · obtain rfl : k = F.cs.length := by omega
      clear hA
      go_wp2_with fail
      refine bodyPost_ret (results_tmp rfl _ _ _) rfl ?_
      have hs := HA.out.made'
      rw [HLN.out] at hs
      exact ⟨_, rfl, hs, HA.out.row.below⟩
end Go.Proofs.Ytnakpfbeeekmiaa
/- The letters that a number tells: the program. -/
namespace Go.Proofs.Ytnakpfbeeekmiaa
open Go.RowKit Go.ChangeShapes Go.WideShapes

theorem and_pow (n d : Nat) : n &&& 2 ^ d = if n.testBit d then 2 ^ d else 0 := by
  apply Nat.eq_of_testBit_eq
  intro i
  rw [Nat.testBit_and, Nat.testBit_two_pow]
  by_cases h : d = i
  · subst h
    cases n.testBit d <;> simp
  · rw [decide_eq_false h, Bool.and_false]
    cases n.testBit d
    · simp
    · simp only [if_true, Nat.testBit_two_pow]
      rw [decide_eq_false h]
set_option maxRecDepth 100000 in
set_option maxHeartbeats 4000000 in
theorem trueIn_any (L M : Nat) (w : World) (hL : L ≤ 10) (hM : M < 1024) :
    Calls Try.prog 83 #[.int .i64 L, .int .i64 M] w (Made (Value.int .i64) (0 : Int) (trueK L M L) w) := by
  obtain ⟨i0, hi, hz0, hz1, hz2⟩ := info_parts Try.infoI
  go_enter Try.func83, Try.ntmps83
  go_wp2_with fail
  go_loopg [5, 6] L (fun gk v i wr => ∃ k : Nat, k ≤ L ∧ gk + k = L ∧ i = .int .i64 ((k : Int) + 1) ∧ Below w.heap.size w wr ∧ Grows (Value.int .i64) 2 w.heap.size v (trueK L M k) wr)
  case atStart => exact ⟨0, Nat.zero_le _, by omega, rfl, Below.refl _ _, Grows.nil _ _ _ _⟩
  case round =>
    obtain ⟨k, hk, hgk, rfl, hB, hG⟩ := hrel
    have HB := Lib.hid hB
    have HG := Lib.hid hG
    by_cases hlt : k < L
    · have hle : (k : Int) + 1 ≤ (L : Int) := by omega
      obtain ⟨p1, p2⟩ := pow10 (L := L - (k + 1)) (by omega)
      have hand := i64_and62 M (2 ^ (L - (k + 1))) (by omega) (by omega)
      rw [and_pow] at hand
      obtain ⟨D, hD⟩ : ∃ D, D = 2 ^ (L - (k + 1)) := ⟨_, rfl⟩
      rw [← hD] at p1 p2 hand
      have HD := Lib.hid hD
      have HK : Hid (((k + 1 : Nat) : Int) = (k : Int) + 1) := Lib.hid (by omega)
      clear hD hB hG
      cases hm : M.testBit (L - (k + 1)) with
      | true =>
        have hml := trueK_len L M k
        have HUP := Lib.hid (trueK_yes hm)
        have HML : Hid ((trueK L M k).length ≤ k) := Lib.hid hml
        have hand1 : bits .and .i64 (M : Int) (D : Int) = (D : Int) := by rw [hand, hm]; rfl
        have hne : ((D : Int) != 0) = true := by simp; omega
        clear hml hm hand
        go_wp2_with fail
        go_at_call 110; refine (digitOf_is (L : Int) ((k : Int) + 1) L (k + 1) _ rfl HK.out.symm (by omega) hL).mono ?_; rintro e w' ⟨rfl, rfl⟩
        rw [← HD.out]
        go_wp2_with (at_builtin; refine wpList_append_own _ rfl _ _ 25 rfl w.heap.size 2 i0 (.int .i64 0) 1 8 Try.underlying25 hi hz0 hz1 hz2 rfl (by decide) _ _ _ rfl (Grows.alloc HG.out _) ⟨wr.heap.size, 0, none⟩ 1 1 [.int .i64 ((k : Int) + 1)] rfl rfl ?c1 ?c2 ?c3 ?c4 ?c5 ?_)
        case c1 => exact one_new
        case c2 => intro u hu; simp at hu; subst hu; rfl
        case c3 => have := HML.out; unfold maxLen; omega
        case c4 => have := HML.out; omega
        case c5 => have := HB.out.size; simp; omega
        intro v' w' hown hgrow _
        have HN2 : Hid (Below w.heap.size w w' ∧ Grows (Value.int .i64) 2 w.heap.size v' (trueK L M (k + 1)) w') := Lib.hid ⟨(HB.out.alloc HB.out.size _).grown hgrow (by have := HB.out.size; simp; omega) (fun g hg => HG.out.block g hg), by rw [HUP.out]; exact Grows.more (news := [(k : Int) + 1]) rfl hown⟩
        clear hown hgrow
        go_wp2_with fail
        go_roundg (gk - 1)
        case measure => omega
        case rel => exact ⟨k + 1, by omega, by omega, by go_num, HN2.out.1, HN2.out.2⟩
      | false =>
        have HUP := Lib.hid (trueK_no hm)
        have hand1 : bits .and .i64 (M : Int) (D : Int) = 0 := by rw [hand, hm]; rfl
        clear hm hand
        go_wp2_with fail
        go_at_call 110; refine (digitOf_is (L : Int) ((k : Int) + 1) L (k + 1) _ rfl HK.out.symm (by omega) hL).mono ?_; rintro e w' ⟨rfl, rfl⟩
        rw [← HD.out]
        go_wp2_with fail
        go_roundg (gk - 1)
        case measure => omega
        case rel => exact ⟨k + 1, by omega, by omega, by go_num, HB.out, by rw [HUP.out]; exact HG.out⟩
    · obtain rfl : k = L := by omega
      clear hB hG
      go_wp2_with fail
      refine bodyPost_ret (results_tmp rfl _ _ _) rfl ?_
      exact ⟨_, rfl, HG.out.si, HB.out⟩
theorem BoolAt.keep {w w1 w2 : World} {B : Nat} {Z : List Bool} (h : BoolAt w B Z w1) (b : Below w1.heap.size w1 w2) : BoolAt w B Z w2 :=
  ⟨h.below.trans (b.mono h.below.size), Nat.lt_of_lt_of_le h.lt b.size, h.ge, h.arr.below b h.lt⟩
end Go.Proofs.Ytnakpfbeeekmiaa
/- Lists of lists that grow: a row of lists, and a list that lists are put behind. -/
namespace Go.Proofs.Ytnakpfbeeekmiaa
open Go.RowKit Go.ChangeShapes Go.WideShapes

theorem Grows.ib {B : Nat} {v : Value} {Z : List Int} {w : World} (h : Grows (Value.int .i64) 2 B v Z w) : IB (v.ownBlock.getD 0) w v Z ∧ (Z = [] ∨ ∃ b, v.ownBlock = some b ∧ B ≤ b ∧ b < w.heap.size) := by
  have s := h.si (d := (0 : Int))
  obtain ⟨g, hg, hr⟩ := II.ib s
  by_cases h0 : Z = []
  · subst h0
    rcases hg with ⟨_, ao, cap, rfl⟩ | ⟨off, cap, _, k2, _⟩
    · exact ⟨Or.inl ⟨rfl, ao, cap, rfl⟩, Or.inl rfl⟩
    · simp at k2
  · rcases hg with ⟨e, _⟩ | ⟨off, cap, e, k2, k3, k4, k5⟩
    · exact absurd e h0
    · subst e
      refine ⟨Or.inr ⟨off, cap, rfl, k2, k3, k4, k5⟩, Or.inr ⟨g, rfl, ?_⟩⟩
      rcases hr with e | e
      · exact absurd e h0
      · exact e
theorem Grows.lower {α : Type} {mk : α → Value} {E B C : Nat} {v : Value} {Z : List α} {w : World} (h : Grows mk E B v Z w) (hC : C ≤ B) : Grows mk E C v Z w := by
  refine ⟨h.1, ?_⟩
  rcases h.2 with hn | ⟨g, cap, cur, e, hb, rest⟩
  · exact .inl hn
  · exact .inr ⟨g, cap, cur, e, Nat.le_trans hC hb, rest⟩
theorem grown_set (w : World) (N k : Nat) (u : Value) : w.grownBy (w.setCell ⟨N, k, none⟩ u) (some N) :=
  ⟨rfl, rfl, rfl, by simp [World.setCell], fun i _ hne => Below.heap_setCell _ _ _ _ (by intro e; exact hne (by rw [e]))⟩
/-- Lists that grow, each of its own, in the cells of a row. -/
theorem ld_of {lo N : Nat} {C : List (List Int)} {w : World} {U : Nat → Value} (cap : Nat) (row : ∀ j, j < C.length → w.cell? ⟨N, j, none⟩ = some (U j)) (own : ∀ j, j < C.length → Grows (Value.int .i64) 2 lo (U j) (C.getD j []) w)
    (ne : ∀ j, j < C.length → (U j).ownBlock ≠ some N) (inj : ∀ i j, i < C.length → j < C.length → i ≠ j → ∀ b, (U i).ownBlock = some b → (U j).ownBlock ≠ some b) (free : ∀ i, w.frozen? ⟨N, i, none⟩ = false) (n1 : lo ≤ N) (n2 : N < w.heap.size) :
    LD lo w.heap.size w (.slice (some ⟨N, 0, none⟩) C.length (C.length + cap)) C := by
  by_cases h0 : C.length = 0
  · have : C = [] := List.eq_nil_of_length_eq_zero h0
    subst this
    exact LD.nil _ (Nat.le_refl _) _ _
  refine ⟨Nat.le_refl _, Or.inr ⟨N, 0, cap, U, fun j => (U j).ownBlock.getD 0, rfl, by omega, n1, n2, free, fun j hj => ?_, fun i j hij hj => ?_⟩⟩
  · obtain ⟨h1, h2⟩ := (own j hj).ib
    refine ⟨by rw [Nat.zero_add]; exact row j hj, h1, ?_⟩
    rcases h2 with e | ⟨b, e, e1, e2⟩
    · exact Or.inl e
    · have := ne j hj
      refine Or.inr ?_
      show lo ≤ (U j).ownBlock.getD 0 ∧ (U j).ownBlock.getD 0 < _ ∧ (U j).ownBlock.getD 0 ≠ N
      rw [e] at this ⊢
      exact ⟨e1, e2, fun q => this (by rw [← q]; rfl)⟩
  · rcases ((own i (by omega)).ib).2 with e | ⟨b, e, -⟩
    · exact Or.inl e
    · rcases ((own j hj).ib).2 with e' | ⟨b', e', -⟩
      · exact Or.inr (Or.inl e')
      · have := inj i j (by omega) hj (by omega) b e
        refine Or.inr (Or.inr ?_)
        show (U i).ownBlock.getD 0 ≠ (U j).ownBlock.getD 0
        rw [e, e']
        rw [e'] at this
        exact fun q => this (by rw [show b = b' from q])
/-- A row of lists that grow. -/
structure NarUp (lo N n : Nat) (R : Nat → List Int) (w wr : World) (U : Nat → Value) : Prop where
  row : ∀ j, j < n → wr.cell? ⟨N, j, none⟩ = some (U j)
  own : ∀ j, j < n → Grows (Value.int .i64) 2 lo (U j) (R j) wr
  ne : ∀ j, j < n → (U j).ownBlock ≠ some N
  inj : ∀ i j, i < n → j < n → i ≠ j → ∀ b, (U i).ownBlock = some b → (U j).ownBlock ≠ some b
  free : ∀ i, wr.frozen? ⟨N, i, none⟩ = false
  n1 : lo ≤ N
  n2 : N < wr.heap.size
  below : Below w.heap.size w wr
theorem NarUp.keep {lo N n : Nat} {R : Nat → List Int} {w wr w2 : World} {U : Nat → Value} (h : NarUp lo N n R w wr U) (b : Below wr.heap.size wr w2) : NarUp lo N n R w w2 U := by
  refine ⟨fun j hj => ?_, fun j hj => (h.own j hj).below b (Nat.le_refl _), h.ne, h.inj, fun i => ?_, h.n1, Nat.lt_of_lt_of_le h.n2 b.size, h.below.trans (b.mono h.below.size)⟩
  · rw [b.cell (p := ⟨N, j, none⟩) h.n2]; exact h.row j hj
  · rw [b.frozen (p := ⟨N, i, none⟩) h.n2]; exact h.free i
theorem NarUp.start {n lo e : Nat} {w wa w1 : World} (h : w1.ownsRow wa.heap.size e 1 (.slice (some ⟨wa.heap.size, 0, none⟩) n n) n (madeCells vnil.cells (n * 1)).toList) (hlo : lo ≤ wa.heap.size) (hb : Below w.heap.size w w1) (hl : wa.heap.size < w1.heap.size) : NarUp lo wa.heap.size n (fun _ => []) w w1 (fun _ => vnil) := by
  refine ⟨fun j hj => ?_, fun j hj => Grows.nil _ _ _ _, fun j hj => by simp [Value.ownBlock], fun i j hi hj hij b hb => by simp [Value.ownBlock] at hb, h.frozenAt, hlo, hl, hb⟩
  rw [h.cellAt j (by omega)]
  rcases made_one vnil n hj with h1 | h1
  · rw [h1]; simp [Value.cells]
  · exact absurd rfl h1
theorem NarUp.app {lo N n k g cap : Nat} {x : Int} {R : Nat → List Int} {w w1 w2 : World} {U : Nat → Value} (h : NarUp lo N n R w w1 U) (hk : k < n) (hw : w.heap.size ≤ lo)
    (hown : w2.ownsRow lo 2 1 (.slice (some ⟨g, 0, none⟩) ((R k).length + 1) cap) ((R k).length + 1) ((R k).map (Value.int .i64) ++ [.int .i64 x])) (hgr : w1.grownBy w2 (U k).ownBlock) (hat : (U k).ownBlock = some g ∨ g = w1.heap.size) :
    NarUp lo N n (fun j => if j = k then R k ++ [x] else R j) w (w2.setCell ⟨N, k, none⟩ (.slice (some ⟨g, 0, none⟩) ((R k).length + 1) cap)) (fun j => if j = k then .slice (some ⟨g, 0, none⟩) ((R k).length + 1) cap else U j) := by
  have hN := h.n2
  have hNk : w2.heap[N]? = w1.heap[N]? := hgr.block N hN (fun e => h.ne k hk e.symm)
  have hgN : g ≠ N := by
    rcases hat with e | e
    · intro q; exact h.ne k hk (by rw [e, q])
    · omega
  have far : ∀ j, j < n → ∀ b, (U j).ownBlock = some b → b < w1.heap.size := fun j hj b hb => (World.ownsRow.lt (h.own j hj) b hb).2
  refine ⟨fun j hj => ?_, fun j hj => ?_, fun j hj => ?_, fun i j hi hj hij b hb => ?_, fun i => ?_, h.n1, by simp [World.setCell]; exact Nat.lt_of_lt_of_le hN hgr.size, ?_⟩
  · by_cases e : j = k
    · subst e
      rw [if_pos rfl, World.cell?_setCell_same _ _ _ (show w2.cell? ⟨N, j, none⟩ = some (U j) from by rw [World.cell?_of_block (w := w1) (a := ⟨N, j, none⟩) hNk]; exact h.row j hj)]
    · rw [if_neg e, World.cell?_setCell_other _ _ _ _ (by intro q; injection q with _ q _; exact e q.symm), World.cell?_of_block (w := w1) (a := ⟨N, j, none⟩) hNk]
      exact h.row j hj
  · by_cases e : j = k
    · subst e
      simp only [if_true]
      have h2 : Grows (Value.int .i64) 2 lo (.slice (some ⟨g, 0, none⟩) ((R j).length + 1) cap) (R j ++ [x]) w2 := by
        show World.ownsRow _ _ _ _ _ _ _
        rw [List.length_append, List.map_append]
        exact hown
      exact World.ownsRow.kept h2 (grown_set _ _ _ _) (Or.inr (by simp [Value.ownBlock]; exact hgN))
    · simp only [e, if_false]
      have h2 := World.ownsRow.kept (h.own j hj) hgr (by
        cases q : (U j).ownBlock with
        | none => exact Or.inl rfl
        | some b => exact Or.inr (fun q2 => h.inj j k hj hk e b q q2.symm))
      exact World.ownsRow.kept h2 (grown_set _ _ _ _) (Or.inr (h.ne j hj))
  · by_cases e : j = k
    · simp only [e, if_true, Value.ownBlock]
      intro q; injection q with q; exact hgN q
    · simp only [e, if_false]; exact h.ne j hj
  · by_cases e1 : i = k
    · subst e1
      have e2 : ¬ j = i := fun q => hij q.symm
      simp only [if_true, Value.ownBlock] at hb
      simp only [e2, if_false]
      injection hb with hb
      have hb2 : g = b := hb
      subst hb2
      rcases hat with q | q
      · exact h.inj i j hi hj hij g q
      · intro q2; have := far j hj g q2; omega
    · simp only [e1, if_false] at hb
      by_cases e2 : j = k
      · subst e2
        simp only [if_true, Value.ownBlock]
        intro q; injection q with q
        have q : g = b := q
        subst q
        rcases hat with q | q
        · exact h.inj i j hi hj hij g hb q
        · have := far i hi g hb; omega
      · simp only [e2, if_false]
        exact h.inj i j hi hj hij b hb
  · rw [World.frozen?_setCell, World.frozen?_of_block (w := w1) (a := ⟨N, i, none⟩) hNk]; exact h.free i
  · refine (h.below.grown hgr h.below.size (fun b hb => ?_)).setCell (Nat.le_trans hw h.n1) _
    exact Nat.le_trans hw (World.ownsRow.lt (h.own k hk) b hb).1
theorem NarUp.ld {lo N : Nat} {R : Nat → List Int} {w wr : World} {U : Nat → Value} {C : List (List Int)} (h : NarUp lo N C.length R w wr U) (e : ∀ j, j < C.length → R j = C.getD j []) : LD lo wr.heap.size wr (.slice (some ⟨N, 0, none⟩) C.length C.length) C :=
  ld_of 0 h.row (fun j hj => by rw [← e j hj]; exact h.own j hj) h.ne h.inj h.free h.n1 h.n2
/-- A list that lists are put behind. -/
structure OutUp (lo : Nat) (L : List (List Int)) (s : Value) (w wr : World) (U : Nat → Value) : Prop where
  own : wr.ownsRow lo 25 1 s L.length ((List.range L.length).map U)
  row : ∀ j, j < L.length → Grows (Value.int .i64) 2 lo (U j) (L.getD j []) wr
  ne : ∀ j, j < L.length → ∀ b, (U j).ownBlock = some b → s.ownBlock ≠ some b
  inj : ∀ i j, i < L.length → j < L.length → i ≠ j → ∀ b, (U i).ownBlock = some b → (U j).ownBlock ≠ some b
  below : Below w.heap.size w wr
theorem OutUp.keep {lo : Nat} {L : List (List Int)} {s : Value} {w wr w2 : World} {U : Nat → Value} (h : OutUp lo L s w wr U) (b : Below wr.heap.size wr w2) : OutUp lo L s w w2 U := by
  refine ⟨h.own.kept (row := none) ⟨b.os, b.tape, b.output, b.size, fun i hi _ => b.block i hi⟩ ?_, fun j hj => (h.row j hj).below b (Nat.le_refl _), h.ne, h.inj, h.below.trans (b.mono h.below.size)⟩
  cases hs : s.ownBlock with
  | none => exact Or.inl rfl
  | some b => exact Or.inr (by simp)
theorem OutUp.step {lo : Nat} {L : List (List Int)} {Z : List Int} {s d : Value} {g cap : Nat} {w w1 w2 : World} {U : Nat → Value} (h : OutUp lo L s w w1 U) (hw : w.heap.size ≤ lo) (hd : Grows (Value.int .i64) 2 lo d Z w1)
    (hds : ∀ b, d.ownBlock = some b → s.ownBlock ≠ some b ∧ ∀ j, j < L.length → (U j).ownBlock ≠ some b)
    (hown : w2.ownsRow lo 25 1 (.slice (some ⟨g, 0, none⟩) (L.length + 1) cap) (L.length + 1) ((List.range L.length).map U ++ [d])) (hgr : w1.grownBy w2 s.ownBlock) (hat : s.ownBlock = some g ∨ g = w1.heap.size) :
    OutUp lo (L ++ [Z]) (.slice (some ⟨g, 0, none⟩) (L.length + 1) cap) w w2 (fun j => if j = L.length then d else U j) := by
  have hl : (L ++ [Z]).length = L.length + 1 := by simp
  have gat : ∀ j, j < L.length → (L ++ [Z]).getD j [] = L.getD j [] := fun j hj => by simp [List.getD, List.getElem?_append_left hj]
  have far : ∀ j, j < L.length → ∀ b, (U j).ownBlock = some b → b < w1.heap.size := fun j hj b hb => (World.ownsRow.lt (h.row j hj) b hb).2
  have fard : ∀ b, d.ownBlock = some b → b < w1.heap.size := fun b hb => (World.ownsRow.lt hd b hb).2
  refine ⟨?_, fun j hj => ?_, fun j hj b hb => ?_, fun i j hi hj hij b hb => ?_, h.below.grown hgr h.below.size (fun b hb => Nat.le_trans hw (World.ownsRow.lt h.own b hb).1)⟩
  · rw [hl]
    have e : (List.range (L.length + 1)).map (fun j => if j = L.length then d else U j) = (List.range L.length).map U ++ [d] := by
      rw [List.range_succ, List.map_append]
      congr 1
      · exact List.map_congr_left fun j hj => by
          have := List.mem_range.1 hj
          rw [if_neg (by omega)]
      · simp
    rw [e]; exact hown
  · rw [hl] at hj
    by_cases e : j = L.length
    · subst e
      simp only [if_true]
      rw [show (L ++ [Z]).getD L.length [] = Z by simp [List.getD]]
      exact World.ownsRow.kept hd hgr (by
        cases q : d.ownBlock with
        | none => exact Or.inl rfl
        | some b => exact Or.inr (fun q2 => (hds b q).1 q2.symm))
    · simp only [e, if_false]
      rw [gat j (by omega)]
      exact World.ownsRow.kept (h.row j (by omega)) hgr (by
        cases q : (U j).ownBlock with
        | none => exact Or.inl rfl
        | some b => exact Or.inr (fun q2 => h.ne j (by omega) b q q2.symm))
  · rw [hl] at hj
    intro q
    have q : some g = some b := q
    injection q with q
    subst q
    by_cases e : j = L.length
    · simp only [e, if_true] at hb
      rcases hat with q | q
      · exact (hds g hb).1 q
      · have := fard g hb; omega
    · simp only [e, if_false] at hb
      rcases hat with q | q
      · exact h.ne j (by omega) g hb q
      · have := far j (by omega) g hb; omega
  · rw [hl] at hi hj
    by_cases e1 : i = L.length
    · have e2 : ¬ j = L.length := by omega
      simp only [e1, if_true] at hb
      simp only [e2, if_false]
      exact (hds b hb).2 j (by omega)
    · simp only [e1, if_false] at hb
      by_cases e2 : j = L.length
      · simp only [e2, if_true]
        intro q
        exact (hds b q).2 i (by omega) hb
      · simp only [e2, if_false]
        exact h.inj i j (by omega) (by omega) hij b hb
theorem OutUp.ld {lo : Nat} {L : List (List Int)} {s : Value} {w wr : World} {U : Nat → Value} (h : OutUp lo L s w wr U) (h0 : 0 < L.length) : LD lo wr.heap.size wr s L := by
  rcases h.own.2 with ⟨_, hz⟩ | ⟨g, cap, cur, rfl, hB, hg, hn, hc, hs, ht⟩
  · omega
  · have hl := World.ownsRow.lt h.own g rfl
    obtain ⟨c, rfl⟩ := Nat.le.dest hn
    exact ld_of c (fun j hj => by rw [h.own.cellAt j (by omega)]; simp [hj]) h.row (fun j hj e => h.ne j hj g e rfl) h.inj h.own.frozenAt hl.1 hl.2
end Go.Proofs.Ytnakpfbeeekmiaa
/- A form of the call's own that grows: its letters, and clauses that are put behind one another. -/
namespace Go.Proofs.Ytnakpfbeeekmiaa
open Go.RowKit Go.ChangeShapes Go.WideShapes

def SaysFB (N : Fm) (b : Bool) (w : World) (e : Ending) (w' : World) : Prop := ∃ v, e = .returned (.tuple #[v, .bool b]) ∧ FmD w.heap.size w'.heap.size w' v N ∧ Below w.heap.size w w'
/-- A box of two cells that may be written. -/
structure Res2 (w : World) (g : Nat) : Prop where
  c0 : ∃ u, w.cell? ⟨g, 0, none⟩ = some u
  c1 : ∃ u, w.cell? ⟨g, 1, none⟩ = some u
  free : ∀ i, w.frozen? ⟨g, i, none⟩ = false
theorem Res2.keep {B : Nat} {w w' : World} {g : Nat} (h : Res2 w g) (hb : Below B w w') (hg : g < B) : Res2 w' g := by
  obtain ⟨⟨u, h0⟩, ⟨v, h1⟩, hf⟩ := h
  exact ⟨⟨u, by rw [hb.cell (p := ⟨g, 0, none⟩) hg]; exact h0⟩, ⟨v, by rw [hb.cell (p := ⟨g, 1, none⟩) hg]; exact h1⟩, fun i => by rw [hb.frozen (p := ⟨g, i, none⟩) hg]; exact hf i⟩
theorem Res2.lt {w : World} {g : Nat} (h : Res2 w g) : g < w.heap.size := by
  obtain ⟨u, h0⟩ := h.c0
  exact cell_block h0
/-- The form in block g has the letters L and the clauses C. -/
structure FoUp (L : Int) (C : List (List Int)) (g : Nat) (s : Value) (w wr : World) (U : Nat → Value) : Prop where
  box : wr.heap[g]? = some (.cells #[.int .i64 L, s] 29 (0, 0))
  out : OutUp w.heap.size C s w wr U
  ne : s.ownBlock ≠ some g
  nu : ∀ j, j < C.length → (U j).ownBlock ≠ some g
  ge : w.heap.size ≤ g
theorem FoUp.lt {L : Int} {C : List (List Int)} {g : Nat} {s : Value} {w wr : World} {U : Nat → Value} (h : FoUp L C g s w wr U) : g < wr.heap.size := (Array.getElem?_eq_some_iff.1 h.box).1
theorem FoUp.keep {L : Int} {C : List (List Int)} {g : Nat} {s : Value} {w wr w2 : World} {U : Nat → Value} (h : FoUp L C g s w wr U) (b : Below wr.heap.size wr w2) : FoUp L C g s w w2 U :=
  ⟨by rw [b.block g h.lt]; exact h.box, h.out.keep b, h.ne, h.nu, h.ge⟩
theorem FoUp.cells {L : Int} {C : List (List Int)} {g : Nat} {s : Value} {w wr : World} {U : Nat → Value} (h : FoUp L C g s w wr U) :
    wr.cell? ⟨g, 0, none⟩ = some (.int .i64 L) ∧ wr.cell? ⟨g, 1, none⟩ = some s ∧ wr.frozen? ⟨g, 1, none⟩ = false :=
  ⟨by rw [Lib.cell_of_heap h.box]; rfl, by rw [Lib.cell_of_heap h.box]; rfl, Lib.frozen_of_heap h.box 1⟩
theorem FoUp.start (L : Int) {w w1 : World} (hb : Below w.heap.size w w1) : FoUp L [] w1.heap.size (.slice none 0 0) w (w1.alloc (.cells #[.int .i64 L, .slice none 0 0] 29)) (fun _ => vnil) :=
  ⟨heap_alloc_new w1 _, ⟨World.ownsRow_nil _ _ _ _, fun j h => by simp at h, fun j h => by simp at h, fun i j h => by simp at h, hb.alloc hb.size _⟩, by simp [Value.ownBlock], fun j h => by simp at h, hb.size⟩
/-- One more clause: d was made behind wr, then the row of clauses has grown, and lies in its field. -/
theorem FoUp.next {L : Int} {C : List (List Int)} {Z : List Int} {g gg cap : Nat} {s d : Value} {w wr w0 w1 : World} {U : Nat → Value} (h : FoUp L C g s w wr U) (h0 : Below wr.heap.size wr w0)
    (hd : Grows (Value.int .i64) 2 wr.heap.size d Z w0)
    (hown : w1.ownsRow w.heap.size 25 1 (.slice (some ⟨gg, 0, none⟩) (C.length + 1) cap) (C.length + 1) ((List.range C.length).map U ++ [d])) (hgr : w0.grownBy w1 s.ownBlock) (hat : s.ownBlock = some gg ∨ gg = w0.heap.size) (q : Nat) :
    FoUp L (C ++ [Z]) g (.slice (some ⟨gg, 0, none⟩) (C.length + 1) cap) w ((w1.drewN q).setCell ⟨g, 1, none⟩ (.slice (some ⟨gg, 0, none⟩) (C.length + 1) cap)) (fun j => if j = C.length then d else U j) := by
  have hk := h.keep h0
  have hws := h.out.below.size
  have hfar : ∀ b, d.ownBlock = some b → wr.heap.size ≤ b := fun b e => (World.ownsRow.lt hd b e).1
  have hst := hk.out.step (d := d) (Z := Z) (g := gg) (cap := cap) (w2 := w1) (Nat.le_refl _) (hd.lower hws)
    (fun b e => ⟨fun e2 => by have h1 := hfar b e; have h2 := (World.ownsRow.lt h.out.own b e2).2; omega, fun j hj e2 => by have h1 := hfar b e; have h2 := (World.ownsRow.lt (h.out.row j hj) b e2).2; omega⟩) hown hgr hat
  have hg1 : g < w1.heap.size := Nat.lt_of_lt_of_le hk.lt hgr.size
  have hb1 : w1.heap[g]? = some (.cells #[.int .i64 L, s] 29 (0, 0)) := by rw [hgr.block g hk.lt (fun e => h.ne e.symm)]; exact hk.box
  have hne : gg ≠ g := by
    rcases hat with e | e
    · intro q; exact h.ne (by rw [e, q])
    · have := hk.lt; omega
  have hnd : d.ownBlock ≠ some g := fun e => by have := hfar g e; have := h.lt; omega
  have hgw : (w1.drewN q).grownBy ((w1.drewN q).setCell ⟨g, 1, none⟩ (.slice (some ⟨gg, 0, none⟩) (C.length + 1) cap)) (some g) := grown_set _ _ _ _
  have hl : (C ++ [Z]).length = C.length + 1 := by simp
  have nub : ∀ j, j < C.length + 1 → (if j = C.length then d else U j).ownBlock ≠ some g := fun j hj => by
    by_cases e : j = C.length
    · rw [if_pos e]; exact hnd
    · rw [if_neg e]; exact h.nu j (by omega)
  refine ⟨?_, ⟨?_, fun j hj => ?_, hst.ne, hst.inj, ?_⟩, fun e => hne (by injection e), fun j hj => nub j (by rw [hl] at hj; exact hj), h.ge⟩
  · show ((w1.drewN q).setCell _ _).heap[g]? = _
    have h3 : (w1.drewN q).heap[g]? = some (.cells #[.int .i64 L, s] 29 (0, 0)) := hb1
    rw [World.setCell]
    simp only [Array.getElem?_modify, if_true, h3]
    rfl
  · exact World.ownsRow.kept (show (w1.drewN q).ownsRow _ _ _ _ _ _ from hst.own) hgw (Or.inr fun e => hne (by injection e))
  · refine World.ownsRow.kept (show (w1.drewN q).ownsRow _ _ _ _ _ _ from hst.row j hj) hgw ?_
    rw [hl] at hj
    exact Or.inr (nub j hj)
  · exact (below_drewN hst.below q).setCell h.ge _
theorem FoUp.fmd {L : Int} {C : List (List Int)} {g : Nat} {s : Value} {w wr : World} {U : Nat → Value} (h : FoUp L C g s w wr U) : FmD w.heap.size wr.heap.size wr (.agg #[.int .i64 L, s]) ⟨L, C⟩ := by
  refine ⟨s, rfl, ?_⟩
  show LD _ _ wr s C
  by_cases h0 : C.length = 0
  · have hC : C = [] := List.eq_nil_of_length_eq_zero h0
    rcases h.out.own.2 with ⟨e, _⟩ | ⟨g2, cap, cur, e, _⟩
    · rw [e, hC]; exact LD.nil _ (Nat.le_refl _) _ _
    · rw [e, h0, hC]; exact LD.nil _ (Nat.le_refl _) _ _
  · exact h.out.ld (by omega)
theorem FoUp.slice {L : Int} {C : List (List Int)} {g : Nat} {s : Value} {w wr : World} {U : Nat → Value} (h : FoUp L C g s w wr U) : ∃ ao cap, s = .slice ao C.length cap := by
  rcases h.out.own.2 with ⟨e, h0⟩ | ⟨g2, cap, cur, e, _⟩
  · exact ⟨none, 0, by rw [e, h0]⟩
  · exact ⟨_, _, e⟩
/-- The field stands while the row of clauses grows. -/
theorem FoUp.kept {L : Int} {C : List (List Int)} {g : Nat} {s : Value} {w wr w0 w1 : World} {U : Nat → Value} (h : FoUp L C g s w wr U) (h0 : Below wr.heap.size wr w0) (hgr : w0.grownBy w1 s.ownBlock) :
    w1.cell? ⟨g, 1, none⟩ = some s ∧ w1.frozen? ⟨g, 1, none⟩ = false := by
  have hk := h.keep h0
  have hb : w1.heap[g]? = some (.cells #[.int .i64 L, s] 29 (0, 0)) := by rw [hgr.block g hk.lt (fun e => h.ne e.symm)]; exact hk.box
  exact ⟨by rw [Lib.cell_of_heap hb]; rfl, Lib.frozen_of_heap hb 1⟩
/-- The form as a result: what was written behind it lies ahead of its lists. -/
theorem FoUp.res {L : Int} {C : List (List Int)} {g lo hi B : Nat} {s : Value} {w wr X : World} {U : Nat → Value} (h : FoUp L C g s w wr U) (ht : Turned lo hi wr X) (hs : hi ≤ w.heap.size) (hB : B ≤ w.heap.size) :
    FmD B X.heap.size X (.agg #[.int .i64 L, s]) ⟨L, C⟩ := by
  obtain ⟨s', e, hl⟩ := h.fmd
  exact ⟨s', e, LD.wide (hl.kept' ht (Or.inr hs)) hB ht.size (Nat.le_refl _)⟩
theorem saysFB_no {w X : World} (hb : Below w.heap.size w X) : SaysFB ⟨0, []⟩ false w (.returned (.tuple #[.agg #[.int .i64 0, .slice none 0 0], .bool false])) X := ⟨_, rfl, ⟨_, rfl, LD.nil _ (Nat.le_refl _) _ _⟩, hb⟩
end Go.Proofs.Ytnakpfbeeekmiaa
