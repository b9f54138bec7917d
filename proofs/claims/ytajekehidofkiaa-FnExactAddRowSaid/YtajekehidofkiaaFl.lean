/- Floats in the model: classes (one for all not-a-numbers), values, rounding as a monotone map, conversions. -/
import Derived.Laws.FloatArith
import Derived.Deep.Draws
namespace Go.Proofs.Ytajekehidofkiaa.Fl
open Ieee

theorem read_word (f : Format) (neg : Bool) {rung : Nat} (h : rung ≤ f.infRung) : (f.read (f.word neg rung)).isNaN = false := by
  have h1 := f.infRung_lt
  have hp : 0 < f.signWeight := Nat.two_pow_pos _
  have hm : f.word neg rung % f.signWeight = rung := by
    unfold Format.word
    split
    · rw [Nat.add_mod_left, Nat.mod_eq_of_lt (by omega)]
    · rw [Nat.mod_eq_of_lt (by omega)]
  unfold Format.read
  simp only [hm]
  split
  · rfl
  · split
    · rfl
    · rw [if_pos (by omega)]; rfl

theorem nearest_word (f : Format) (neg : Bool) (m : Nat) (e : Int) : ∃ rung, rung ≤ f.infRung ∧ f.nearest neg m e = f.word neg rung := by
  unfold Format.nearest
  split
  · exact ⟨0, Nat.zero_le _, rfl⟩
  · exact ⟨_, Nat.min_le_right _ _, rfl⟩

theorem read_write_nan (f : Format) {d : Datum} (h : d.isNaN = false) : (f.read (f.write d)).isNaN = false := by
  cases d with
  | number s m e =>
    obtain ⟨r, hr, he⟩ := nearest_word f s m e
    show (f.read (f.nearest s m e)).isNaN = false
    rw [he]; exact read_word f s hr
  | infinity s => exact read_word f s (Nat.le_refl _)
  | nan s t => simp [Datum.isNaN] at h

theorem sum_nan {a b c : Datum} (h : a.sum b = some c) : c.isNaN = false ∧ a.isNaN = false ∧ b.isNaN = false := by
  cases a <;> cases b <;> simp [Datum.sum, Datum.isNaN] at h ⊢
  all_goals (first | (obtain ⟨_, h⟩ := h; subst h; simp) | (subst h; simp))
theorem product_nan {a b c : Datum} (h : a.product b = some c) : c.isNaN = false ∧ a.isNaN = false ∧ b.isNaN = false := by
  cases a <;> cases b <;> simp [Datum.product, Datum.isNaN] at h ⊢
  all_goals (first | (obtain ⟨_, h⟩ := h; subst h; simp) | (subst h; simp))
theorem quotient_nan {n : Nat} {a b c : Datum} (h : a.quotient n b = some c) : c.isNaN = false ∧ a.isNaN = false ∧ b.isNaN = false := by
  cases a <;> cases b <;> simp only [Datum.quotient, Datum.isNaN] at h ⊢
  all_goals (first | cases h | skip)
  all_goals (first | (split at h; split at h; cases h; (first | (cases h; simp) | skip)) | simp)
  all_goals (first | (cases h; simp) | skip)
theorem root_nan {n : Nat} {a c : Datum} (h : a.root n = some c) : c.isNaN = false ∧ a.isNaN = false := by
  cases a with
  | nan => simp [Datum.root] at h
  | infinity s => cases s <;> simp [Datum.root, Datum.isNaN] at h ⊢; subst h; rfl
  | number s m i =>
    simp only [Datum.root] at h
    split at h
    · cases h; exact ⟨rfl, rfl⟩
    · split at h
      · cases h
      · cases h; exact ⟨rfl, rfl⟩

theorem opposite_nan (a : Datum) : a.opposite.isNaN = a.isNaN := by cases a <;> rfl

/-- The class of a float: its bits, but one class for all not-a-numbers. -/
def cls (k : FloatKind) (b : Nat) : Option Nat := if (k.format.read b).isNaN then none else some b

theorem cls_some {k : FloatKind} {b : Nat} (h : (k.format.read b).isNaN = false) : cls k b = some b := by simp [cls, h]
theorem cls_none {k : FloatKind} {b : Nat} (h : (k.format.read b).isNaN = true) : cls k b = none := by simp [cls, h]

theorem bits_facts {op : BinOp} {k : FloatKind} {x y r : Nat} (h : floatBits op k x y = some r) : cls k r = some r ∧ cls k x = some x ∧ cls k y = some y := by
  unfold floatBits at h
  split at h
  · unfold Format.add at h
    obtain ⟨d, hd, rfl⟩ := Option.map_eq_some_iff.1 h
    have := sum_nan hd
    exact ⟨cls_some (read_write_nan _ this.1), cls_some this.2.1, cls_some this.2.2⟩
  · unfold Format.sub at h
    obtain ⟨d, hd, rfl⟩ := Option.map_eq_some_iff.1 h
    have := sum_nan hd
    rw [opposite_nan] at this
    exact ⟨cls_some (read_write_nan _ this.1), cls_some this.2.1, cls_some this.2.2⟩
  · unfold Format.mul at h
    obtain ⟨d, hd, rfl⟩ := Option.map_eq_some_iff.1 h
    have := product_nan hd
    exact ⟨cls_some (read_write_nan _ this.1), cls_some this.2.1, cls_some this.2.2⟩
  · unfold Format.div at h
    obtain ⟨d, hd, rfl⟩ := Option.map_eq_some_iff.1 h
    have := quotient_nan hd
    exact ⟨cls_some (read_write_nan _ this.1), cls_some this.2.1, cls_some this.2.2⟩
  · cases h

/-- An operation on classes. -/
def arC (op : BinOp) (k : FloatKind) : Option Nat → Option Nat → Option Nat
  | some x, some y => floatBits op k x y
  | _, _ => none
def ordC (k : FloatKind) : Option Nat → Option Nat → Option Ordering
  | some x, some y => k.format.order x y
  | _, _ => none

theorem arC_bits (op : BinOp) (k : FloatKind) (x y : Nat) : arC op k (cls k x) (cls k y) = floatBits op k x y := by
  cases h : floatBits op k x y with
  | some r => rw [(bits_facts h).2.1, (bits_facts h).2.2]; exact h
  | none =>
    unfold cls
    split <;> split <;> first | rfl | exact h

theorem order_nan_left {a b : Datum} (h : a.isNaN = true) : a.order b = none := by cases a <;> cases b <;> simp_all [Datum.isNaN, Datum.order]
theorem order_nan_right {a b : Datum} (h : b.isNaN = true) : a.order b = none := by cases a <;> cases b <;> simp_all [Datum.isNaN, Datum.order]
theorem ord_bits (k : FloatKind) (x y : Nat) : k.format.order x y = ordC k (cls k x) (cls k y) := by
  unfold cls
  split
  · exact order_nan_left ‹_›
  · split
    · exact order_nan_right ‹_›
    · rfl

/-- What an operation answers in a world, and how many draws it takes. -/
def nanAt (w : World) (q : Question) : Nat := q.cut (w.tape w.drawn q)
def ares (w : World) (op : BinOp) (k : FloatKind) (x y : Nat) : Nat :=
  match floatBits op k x y with
  | some r => r
  | none => nanAt w (.nanBits k x y)
def adr (op : BinOp) (k : FloatKind) (x y : Nat) : Nat :=
  match floatBits op k x y with
  | some _ => 0
  | none => 1

theorem nan32 (a t : Nat) : (single.read ((t % 2) * 2 ^ 31 + 0x7f800000 + 1 + a % (2 ^ 23 - 1))).isNaN = true := by
  have ha : a % (2 ^ 23 - 1) < 2 ^ 23 - 1 := Nat.mod_lt _ (by omega)
  have hs : single.signWeight = 2147483648 := by decide
  have hi : single.infRung = 2139095040 := by decide
  have hb : single.binade = 8388608 := by decide
  unfold Format.read
  rw [hs, hi, hb]
  have h2 : ((t % 2) * 2 ^ 31 + 0x7f800000 + 1 + a % (2 ^ 23 - 1)) % 2147483648 = 2139095041 + a % (2 ^ 23 - 1) := by omega
  simp only [h2]
  rw [if_neg (by omega), if_neg (by omega), if_neg (by omega)]
  rfl
theorem nan64 (a t : Nat) : (double.read ((t % 2) * 2 ^ 63 + 0x7ff0000000000000 + 1 + a % (2 ^ 52 - 1))).isNaN = true := by
  have ha : a % (2 ^ 52 - 1) < 2 ^ 52 - 1 := Nat.mod_lt _ (by omega)
  have hs : double.signWeight = 9223372036854775808 := by decide
  have hi : double.infRung = 9218868437227405312 := by decide
  have hb : double.binade = 4503599627370496 := by decide
  unfold Format.read
  rw [hs, hi, hb]
  have h2 : ((t % 2) * 2 ^ 63 + 0x7ff0000000000000 + 1 + a % (2 ^ 52 - 1)) % 9223372036854775808 = 9218868437227405313 + a % (2 ^ 52 - 1) := by omega
  simp only [h2]
  rw [if_neg (by omega), if_neg (by omega), if_neg (by omega)]
  rfl

theorem nanAt_bits (w : World) (k : FloatKind) (x y : Nat) : cls k (nanAt w (.nanBits k x y)) = none := by
  apply cls_none
  cases k
  · exact nan32 _ _
  · exact nan64 _ _
theorem nanAt_conv (w : World) (k : FloatKind) (x : Nat) : cls k (nanAt w (.nanConv k x)) = none := by
  apply cls_none
  cases k
  · exact nan32 _ _
  · exact nan64 _ _

theorem cls_ares (w : World) (op : BinOp) (k : FloatKind) (x y : Nat) : cls k (ares w op k x y) = arC op k (cls k x) (cls k y) := by
  rw [arC_bits]
  unfold ares
  split
  · rename_i r h; rw [h]; exact (bits_facts h).1
  · rename_i h; rw [h]; exact nanAt_bits _ _ _ _

theorem run_arith {P : Program} (w : World) (op : BinOp) (t : TypeId) (k : FloatKind) (x y : Nat) (hop : op = .add ∨ op = .sub ∨ op = .mul ∨ op = .quo) :
    (binOp op t (.float k x) (.float k y)).run P w = .ok (.float k (ares w op k x y)) (w.drewN (adr op k x y)) := by
  unfold ares adr
  cases h : floatBits op k x y with
  | some r => simp only []; rw [run_float_arith w op t k x y r h]; rfl
  | none =>
    unfold floatBits at h
    rcases hop with rfl | rfl | rfl | rfl <;> simp only at h <;> simp [binOp, Op.floatArith, h, choose, nanAt, World.drewN] <;> rfl

/-- The value of a magnitude and a place. -/
def qv (m : Nat) (e : Int) : Rat := (m : Rat) * (2 : Rat) ^ e

theorem two_ne : (2 : Rat) ≠ 0 := by decide
theorem two_pos (e : Int) : (0 : Rat) < (2 : Rat) ^ e := Rat.zpow_pos (by decide)

theorem qv_shift (m : Nat) {e b : Int} (h : b ≤ e) : qv m e = qv (m * 2 ^ (e - b).toNat) b := by
  unfold qv
  rw [Rat.natCast_mul, Rat.natCast_pow, Rat.mul_assoc]
  congr 1
  have h2 : ((2 : Nat) : Rat) = 2 := rfl
  rw [h2, ← Rat.zpow_natCast, ← Rat.zpow_add two_ne]
  congr 1
  omega

theorem qv_le_same {m k : Nat} {b : Int} : qv m b ≤ qv k b ↔ m ≤ k := by
  unfold qv
  constructor
  · intro h
    exact Rat.natCast_le_natCast.1 (Rat.le_of_mul_le_mul_right h (two_pos b))
  · intro h
    exact Rat.mul_le_mul_of_nonneg_right (Rat.natCast_le_natCast.2 h) (Rat.le_of_lt (two_pos b))

theorem qv_le {m k : Nat} {e g : Int} : qv m e ≤ qv k g ↔ m * 2 ^ (e - g).toNat ≤ k * 2 ^ (g - e).toNat := by
  by_cases h : g ≤ e
  · rw [qv_shift m h, qv_le_same, show (g - e).toNat = 0 by omega]; simp
  · rw [qv_shift k (show e ≤ g by omega), qv_le_same, show (e - g).toNat = 0 by omega]; simp

theorem cut_le {neg : Bool} {n drop C : Nat} (h : n ≤ C * 2 ^ drop) : Toward.even.cut neg n drop ≤ C := by
  unfold Toward.cut
  simp only [Nat.one_shiftLeft]
  by_cases hd : drop ≤ n.log2 + 2
  · rw [Nat.min_eq_left hd]
    have hp : 0 < 2 ^ drop := Nat.two_pow_pos _
    have h1 : n / 2 ^ drop ≤ C := Nat.div_le_of_le_mul (by rw [Nat.mul_comm]; exact h)
    by_cases he : n / 2 ^ drop = C
    · have hr : n % 2 ^ drop = 0 := by
        have := Nat.div_add_mod n (2 ^ drop)
        rw [he, Nat.mul_comm] at this
        omega
      rw [hr, he]
      have : (decide (2 ^ drop < 2 * 0) || (2 ^ drop == 2 * 0 && C % 2 == 1)) = false := by simp
      rw [this]; simp
    · have : ∀ b : Bool, b.toNat ≤ 1 := fun b => by cases b <;> decide
      have := this (decide (2 ^ drop < 2 * (n % 2 ^ drop)) || (2 ^ drop == 2 * (n % 2 ^ drop) && n / 2 ^ drop % 2 == 1))
      omega
  · rw [Nat.min_eq_right (by omega)]
    have hn : n < 2 ^ (n.log2 + 1) := Nat.lt_log2_self
    have hn2 : 2 ^ (n.log2 + 2) = 2 * 2 ^ (n.log2 + 1) := by rw [Nat.pow_succ, Nat.mul_comm]
    rw [Nat.div_eq_of_lt (by omega), Nat.mod_eq_of_lt (by omega)]
    have : (decide (2 ^ (n.log2 + 2) < 2 * n) || (2 ^ (n.log2 + 2) == 2 * n && 0 % 2 == 1)) = false := by
      have h1 : ¬ 2 ^ (n.log2 + 2) < 2 * n := by omega
      simp [h1]
    rw [this]; simp

/-- The rung that rounding finds. -/
def nrung (f : Format) (neg : Bool) (m : Nat) (e : Int) : Nat :=
  if m = 0 then 0 else
  let last := max (e + m.log2 - f.fractionBits) f.leastPlace
  let kept := Toward.even.cut neg (m <<< (e - last).toNat) (last - e).toNat
  min ((last - f.leastPlace).toNat * f.binade + kept) f.infRung
theorem nearest_nrung (f : Format) (neg : Bool) (m : Nat) (e : Int) : f.nearest neg m e = f.word neg (nrung f neg m e) := by
  unfold Format.nearest nrung
  split <;> rfl

/-- The value of a rung. -/
def rk (f : Format) (r : Nat) : Nat := if r < f.binade then r else f.binade + r % f.binade
def rq (f : Format) (r : Nat) : Nat := if r < f.binade then 0 else r / f.binade - 1
def rv (f : Format) (r : Nat) : Rat := qv (rk f r) (f.leastPlace + (rq f r : Nat))

theorem binade_pos (f : Format) : 0 < f.binade := Nat.two_pow_pos _
theorem rung_split (f : Format) (r : Nat) : r = rq f r * f.binade + rk f r := by
  unfold rq rk
  split
  · omega
  · have h := Nat.div_add_mod r f.binade
    have h1 : 1 ≤ r / f.binade := (Nat.le_div_iff_mul_le (binade_pos f)).2 (by omega)
    obtain ⟨c, hc⟩ : ∃ c, r / f.binade = c + 1 := ⟨r / f.binade - 1, by omega⟩
    rw [hc] at h ⊢
    rw [Nat.mul_comm, Nat.succ_mul] at h
    simp only [Nat.add_sub_cancel]
    omega
theorem rk_lt (f : Format) (r : Nat) : rk f r < 2 * f.binade := by
  unfold rk
  have := Nat.mod_lt r (binade_pos f)
  split <;> omega
theorem rk_ge (f : Format) (r : Nat) (h : 0 < rq f r) : f.binade ≤ rk f r := by
  unfold rk rq at *
  split at h
  · omega
  · rw [if_neg ‹_›]; omega

/-- Rounding is monotone: what is not above a rung's value is not rounded above it. -/
theorem nrung_le (f : Format) (neg : Bool) {m : Nat} {e : Int} {R : Nat} (h : qv m e ≤ rv f R) : nrung f neg m e ≤ R := by
  unfold nrung
  split
  · omega
  rename_i hm
  simp only
  generalize hl : max (e + (m.log2 : Int) - f.fractionBits) f.leastPlace = last
  have hB : f.binade = 2 ^ f.fractionBits := rfl
  have hlo : 2 ^ m.log2 ≤ m := Nat.log2_self_le hm
  have hhi : m < 2 ^ (m.log2 + 1) := Nat.lt_log2_self
  have hlast : f.leastPlace ≤ last := by omega
  have hlast2 : e + (m.log2 : Int) - f.fractionBits ≤ last := by omega
  have cutb : ∀ C : Nat, qv m e ≤ qv C last → Toward.even.cut neg (m <<< (e - last).toNat) (last - e).toNat ≤ C := by
    intro C hC
    apply cut_le
    rw [Nat.shiftLeft_eq]
    exact qv_le.1 hC
  have hK : Toward.even.cut neg (m <<< (e - last).toNat) (last - e).toNat ≤ 2 * f.binade := by
    apply cutb
    have h1 : qv m e ≤ qv (2 ^ (m.log2 + 1)) e := qv_le_same.2 (by omega)
    refine Rat.le_trans h1 ?_
    rw [qv_le, hB, ← Nat.pow_add, ← Nat.pow_succ', ← Nat.pow_add]
    exact Nat.pow_le_pow_right (by omega) (by omega)
  have hs := rung_split f R
  have hk := rk_lt f R
  have hk2 := rk_ge f R
  unfold rv at h
  generalize rq f R = q at *
  generalize rk f R = k at *
  apply Nat.le_trans (Nat.min_le_left _ _)
  rw [hs]
  obtain ⟨p, hp⟩ : ∃ p : Nat, last = f.leastPlace + p := ⟨(last - f.leastPlace).toNat, by omega⟩
  rw [show (last - f.leastPlace).toNat = p by omega]
  rcases Nat.lt_trichotomy p q with hpq | rfl | hpq
  · have h1 := hk2 (by omega)
    have h2 : (p + 1) * f.binade ≤ q * f.binade := Nat.mul_le_mul_right _ hpq
    rw [Nat.succ_mul] at h2
    omega
  · have := cutb k (by rw [hp]; exact h)
    omega
  · exfalso
    have hl3 : last = e + (m.log2 : Int) - f.fractionBits := by omega
    have h1 : qv (2 ^ m.log2) e ≤ qv m e := qv_le_same.2 hlo
    have h2 := Rat.le_trans h1 h
    rw [qv_le] at h2
    have h3 : k * 2 ^ (f.leastPlace + (q : Int) - e).toNat < 2 * f.binade * 2 ^ (f.leastPlace + (q : Int) - e).toNat :=
      Nat.mul_lt_mul_of_pos_right hk (Nat.two_pow_pos _)
    have h4 := Nat.lt_of_le_of_lt h2 h3
    rw [hB, ← Nat.pow_add, ← Nat.pow_succ', ← Nat.pow_add] at h4
    have h5 := (Nat.pow_lt_pow_iff_right (by omega : 1 < 2)).1 h4
    omega

theorem cut_ge {neg : Bool} {n drop C : Nat} (h : C * 2 ^ drop ≤ n) : C ≤ Toward.even.cut neg n drop := by
  unfold Toward.cut
  simp only [Nat.one_shiftLeft]
  by_cases hd : drop ≤ n.log2 + 2
  · rw [Nat.min_eq_left hd]
    have h1 : C ≤ n / 2 ^ drop := (Nat.le_div_iff_mul_le (Nat.two_pow_pos _)).2 h
    omega
  · have hn : n < 2 ^ (n.log2 + 1) := Nat.lt_log2_self
    have h2 : 2 ^ (n.log2 + 1) ≤ 2 ^ drop := Nat.pow_le_pow_right (by omega) (by omega)
    have : C = 0 := by
      cases C with
      | zero => rfl
      | succ c =>
        exfalso
        have h3 : 1 * 2 ^ drop ≤ (c + 1) * 2 ^ drop := Nat.mul_le_mul_right _ (by omega)
        omega
    rw [this]; exact Nat.zero_le _

theorem nrung_ge (f : Format) (neg : Bool) {m : Nat} {e : Int} {R : Nat} (hR : R ≤ f.infRung) (h : rv f R ≤ qv m e) : R ≤ nrung f neg m e := by
  have hs := rung_split f R
  have hk := rk_lt f R
  have hk2 := rk_ge f R
  have hB : f.binade = 2 ^ f.fractionBits := rfl
  unfold rv at h
  unfold nrung
  split
  · subst m
    rw [qv_le] at h
    have : rk f R = 0 := by
      have := Nat.two_pow_pos (f.leastPlace + (rq f R : Int) - e).toNat
      rw [Nat.zero_mul] at h
      have h9 := Nat.mul_eq_zero.1 (Nat.le_zero.1 h)
      omega
    have h0 : rq f R = 0 := by
      cases hq : rq f R with
      | zero => rfl
      | succ c => have := hk2 (by omega); have := binade_pos f; omega
    rw [hs, h0, this]; simp
  rename_i hm
  simp only
  generalize hl : max (e + (m.log2 : Int) - f.fractionBits) f.leastPlace = last
  have hlo : 2 ^ m.log2 ≤ m := Nat.log2_self_le hm
  have hhi : m < 2 ^ (m.log2 + 1) := Nat.lt_log2_self
  have cutb : ∀ C : Nat, qv C last ≤ qv m e → C ≤ Toward.even.cut neg (m <<< (e - last).toNat) (last - e).toNat := by
    intro C hC
    apply cut_ge
    rw [Nat.shiftLeft_eq]
    exact qv_le.1 hC
  refine Nat.le_min.2 ⟨?_, hR⟩
  rw (occs := [1]) [hs]
  generalize rq f R = q at *
  generalize rk f R = k at *
  obtain ⟨p, hp⟩ : ∃ p : Nat, last = f.leastPlace + p := ⟨(last - f.leastPlace).toNat, by omega⟩
  rw [show (last - f.leastPlace).toNat = p by omega]
  rcases Nat.lt_trichotomy p q with hpq | rfl | hpq
  · exfalso
    have h0 := hk2 (by omega)
    have h1 : qv f.binade (f.leastPlace + (q : Int)) ≤ qv k (f.leastPlace + (q : Int)) := qv_le_same.2 h0
    have h2 := Rat.le_trans h1 h
    rw [qv_le] at h2
    have h3 : m * 2 ^ (e - (f.leastPlace + (q : Int))).toNat < 2 ^ (m.log2 + 1) * 2 ^ (e - (f.leastPlace + (q : Int))).toNat :=
      Nat.mul_lt_mul_of_pos_right hhi (Nat.two_pow_pos _)
    have h4 := Nat.lt_of_le_of_lt h2 h3
    rw [hB, ← Nat.pow_add, ← Nat.pow_add] at h4
    have h5 := (Nat.pow_lt_pow_iff_right (by omega : 1 < 2)).1 h4
    omega
  · have := cutb k (by rw [hp]; exact h)
    omega
  · have h6 : f.binade ≤ Toward.even.cut neg (m <<< (e - last).toNat) (last - e).toNat := by
      apply cutb
      have h1 : qv (2 ^ m.log2) e ≤ qv m e := qv_le_same.2 hlo
      refine Rat.le_trans ?_ h1
      rw [qv_le, hB, ← Nat.pow_add, ← Nat.pow_add]
      exact Nat.pow_le_pow_right (by omega) (by omega)
    have h7 : (q + 1) * f.binade ≤ p * f.binade := Nat.mul_le_mul_right _ hpq
    rw [Nat.succ_mul] at h7
    omega

/-- Sign and rung of a word; its value. -/
def rg (f : Format) (b : Nat) : Nat := b % f.signWeight
def sg (f : Format) (b : Nat) : Bool := b / f.signWeight % 2 == 1
def sv (f : Format) (b : Nat) : Rat := if sg f b then -(rv f (rg f b)) else rv f (rg f b)
/-- The value of a datum that is a number. -/
def dv (s : Bool) (m : Nat) (e : Int) : Rat := if s then -(qv m e) else qv m e

theorem read_fin {f : Format} {b : Nat} (h : rg f b < f.infRung) : f.read b = .number (sg f b) (rk f (rg f b)) (f.leastPlace + (rq f (rg f b) : Nat)) := by
  unfold rg at h
  unfold Format.read rk rq rg sg
  simp only
  split
  · rename_i h1; simp
  · rfl

theorem signWeight_pos (f : Format) : 0 < f.signWeight := Nat.two_pow_pos _
theorem rg_word (f : Format) (s : Bool) {r : Nat} (h : r ≤ f.infRung) : rg f (f.word s r) = r := by
  have := f.infRung_lt
  unfold rg Format.word
  split
  · rw [Nat.add_mod_left, Nat.mod_eq_of_lt (by omega)]
  · rw [Nat.mod_eq_of_lt (by omega)]
theorem sg_word (f : Format) (s : Bool) {r : Nat} (h : r ≤ f.infRung) : sg f (f.word s r) = s := by
  have := f.infRung_lt
  unfold sg Format.word
  cases s
  · simp only [Bool.false_eq_true, if_false]
    rw [Nat.div_eq_of_lt (by omega)]; rfl
  · simp only [if_true]
    rw [Nat.add_div_left _ (signWeight_pos f), Nat.div_eq_of_lt (by omega)]; rfl
theorem nrung_inf (f : Format) (s : Bool) (m : Nat) (e : Int) : nrung f s m e ≤ f.infRung := by
  unfold nrung
  split
  · omega
  · exact Nat.min_le_right _ _

theorem qv_nonneg (m : Nat) (e : Int) : 0 ≤ qv m e := Rat.mul_nonneg (Rat.natCast_nonneg) (Rat.le_of_lt (two_pos e))
theorem rv_nonneg (f : Format) (r : Nat) : 0 ≤ rv f r := qv_nonneg _ _
theorem rv_zero (f : Format) : rv f 0 = 0 := by
  unfold rv rk
  rw [if_pos (binade_pos f)]
  unfold qv; simp

/-- What is written, of a number. -/
theorem write_sg (f : Format) (s : Bool) (m : Nat) (e : Int) : sg f (f.write (.number s m e)) = s := by
  show sg f (f.nearest s m e) = s
  rw [nearest_nrung]; exact sg_word f s (nrung_inf f s m e)
theorem write_rg (f : Format) (s : Bool) (m : Nat) (e : Int) : rg f (f.write (.number s m e)) = nrung f s m e := by
  show rg f (f.nearest s m e) = _
  rw [nearest_nrung]; exact rg_word f s (nrung_inf f s m e)

/-- Rungs rise with their values. -/
theorem rv_le_of (f : Format) {a b : Nat} (h : a ≤ b) (hb : b ≤ f.infRung) : rv f a ≤ rv f b := by
  rcases Classical.em (rv f a ≤ rv f b) with h1 | h1
  · exact h1
  · have h2 : rv f b ≤ rv f a := Rat.le_of_lt (Rat.not_le.1 h1)
    -- a rounds to a, from both sides
    have h3 := nrung_le f false (m := rk f b) (e := f.leastPlace + (rq f b : Nat)) (R := a) h2
    have h4 := nrung_ge f false (m := rk f b) (e := f.leastPlace + (rq f b : Nat)) (R := b) hb (Rat.le_refl)
    have : a = b := by omega
    subst this
    exact Rat.le_refl

theorem rv_lt_inf (f : Format) {a b : Nat} (h : a < b) (hb : b ≤ f.infRung) : rv f a < rv f b := by
  rcases Classical.em (rv f a < rv f b) with h1 | h1
  · exact h1
  · have h2 : rv f b ≤ rv f a := Rat.not_lt.1 h1
    have h3 := nrung_le f false (m := rk f b) (e := f.leastPlace + (rq f b : Nat)) (R := a) h2
    have h4 := nrung_ge f false (m := rk f b) (e := f.leastPlace + (rq f b : Nat)) (R := b) hb (Rat.le_refl)
    omega

theorem rv_le_iff (f : Format) {a b : Nat} (ha : a ≤ f.infRung) (hb : b ≤ f.infRung) : rv f a ≤ rv f b ↔ a ≤ b := by
  constructor
  · intro h
    rcases Nat.lt_or_ge b a with h1 | h1
    · exact absurd (rv_lt_inf f h1 ha) (Rat.not_lt.2 h)
    · exact h1
  · intro h; exact rv_le_of f h hb

/-- Rounding, to a rung below infinity: finite, and within the bounds. -/
theorem write_le (f : Format) {s : Bool} {m : Nat} {e : Int} {R : Nat} (h : qv m e ≤ rv f R) :
    rg f (f.write (.number s m e)) ≤ R := by rw [write_rg]; exact nrung_le f s h
theorem write_ge (f : Format) {s : Bool} {m : Nat} {e : Int} {R : Nat} (hR : R ≤ f.infRung) (h : rv f R ≤ qv m e) :
    R ≤ rg f (f.write (.number s m e)) := by rw [write_rg]; exact nrung_ge f s hR h

/-- What a finite word stands for, written in its own format, is the word. -/
theorem write_read {f : Format} {b : Nat} (h : rg f b < f.infRung) (hb : b < 2 ^ f.width) : f.write (f.read b) = b := by
  rw [read_fin h]
  show f.nearest _ _ _ = b
  rw [nearest_nrung]
  have h1 := nrung_le f (sg f b) (m := rk f (rg f b)) (e := f.leastPlace + (rq f (rg f b) : Nat)) (R := rg f b) Rat.le_refl
  have h2 := nrung_ge f (sg f b) (m := rk f (rg f b)) (e := f.leastPlace + (rq f (rg f b) : Nat)) (R := rg f b) (by omega) Rat.le_refl
  rw [Nat.le_antisymm h1 h2]
  have two : 2 ^ f.width = 2 * f.signWeight := by
    unfold Format.width Format.signWeight
    rw [Nat.add_assoc, Nat.add_comm 1, Nat.pow_succ, Nat.mul_comm]
  have hd := Nat.div_add_mod b f.signWeight
  unfold Format.word sg rg
  have hq : b / f.signWeight < 2 := Nat.div_lt_of_lt_mul (by rw [Nat.mul_comm, ← two]; exact hb)
  generalize b / f.signWeight = Q at *
  rcases (show Q = 0 ∨ Q = 1 by omega) with h | h <;> subst h <;> simp <;> omega

theorem dv_sg {f : Format} {b : Nat} (h : rg f b < f.infRung) : ∃ s m e, f.read b = .number s m e ∧ dv s m e = sv f b :=
  ⟨_, _, _, read_fin h, rfl⟩

theorem signed_val (s : Bool) (m : Nat) {i b : Int} (h : b ≤ i) : ((signed s m (i - b).toNat : Int) : Rat) * (2 : Rat) ^ b = dv s m i := by
  have h1 := qv_shift m h
  unfold dv signed
  rw [Nat.shiftLeft_eq, h1]
  unfold qv
  split
  · rw [Rat.intCast_neg, Rat.neg_mul, Rat.intCast_natCast]
  · rw [Rat.intCast_natCast]

theorem sum_val (s : Bool) (m : Nat) (i : Int) (t : Bool) (n : Nat) (j : Int) :
    ∃ s' m' e', (Datum.number s m i).sum (.number t n j) = some (.number s' m' e') ∧ dv s' m' e' = dv s m i + dv t n j := by
  refine ⟨_, _, _, rfl, ?_⟩
  rw [← signed_val s m (i := i) (b := min i j) (by omega), ← signed_val t n (i := j) (b := min i j) (by omega), ← Rat.add_mul, ← Rat.intCast_add]
  generalize signed s m (i - min i j).toNat + signed t n (j - min i j).toNat = T
  unfold dv qv
  by_cases hT : T = 0
  · subst hT
    simp
  · simp only [if_neg hT, decide_eq_true_eq]
    split
    · rename_i h
      rw [← Rat.intCast_natCast, ← Rat.neg_mul, ← Rat.intCast_neg]
      congr 2; omega
    · rename_i h
      rw [← Rat.intCast_natCast]
      congr 2; omega

theorem qv_mul (m n : Nat) (i j : Int) : qv (m * n) (i + j) = qv m i * qv n j := by
  unfold qv
  rw [Rat.natCast_mul, Rat.zpow_add two_ne]
  grind

theorem product_val (s : Bool) (m : Nat) (i : Int) (t : Bool) (n : Nat) (j : Int) :
    ∃ s' m' e', (Datum.number s m i).product (.number t n j) = some (.number s' m' e') ∧ dv s' m' e' = dv s m i * dv t n j := by
  refine ⟨_, _, _, rfl, ?_⟩
  unfold dv
  rw [qv_mul]
  cases s <;> cases t <;> simp <;> grind

theorem qv_abs {s : Bool} {m : Nat} {e : Int} {c : Rat} (h1 : dv s m e ≤ c) (h2 : -c ≤ dv s m e) : qv m e ≤ c := by
  unfold dv at *
  split at h1 <;> grind

/-- ROUNDING A NUMBER: it stays within bounds that the format has. -/
theorem write_in (f : Format) {s : Bool} {m : Nat} {e : Int} {R : Nat} (hR : R < f.infRung) (h1 : dv s m e ≤ rv f R) (h2 : -(rv f R) ≤ dv s m e) :
    rg f (f.write (.number s m e)) < f.infRung ∧ sv f (f.write (.number s m e)) ≤ rv f R ∧ -(rv f R) ≤ sv f (f.write (.number s m e)) := by
  have h3 := write_le f (s := s) (qv_abs h1 h2)
  have h4 := rv_le_of f h3 (by omega)
  refine ⟨by omega, ?_⟩
  unfold sv
  have := rv_nonneg f (rg f (f.write (.number s m e)))
  have := rv_nonneg f R
  split <;> constructor <;> grind

theorem opposite_val {f : Format} {b : Nat} (h : rg f b < f.infRung) : ∃ s m e, (f.read b).opposite = .number s m e ∧ dv s m e = -(sv f b) := by
  rw [read_fin h]
  refine ⟨_, _, _, rfl, ?_⟩
  unfold dv sv rv
  cases sg f b <;> simp

theorem nrung_zero_of (f : Format) (s : Bool) {m : Nat} {e : Int} (h : qv m e ≤ 0) : nrung f s m e = 0 := by
  have := nrung_le f s (R := 0) (m := m) (e := e) (by rw [rv_zero]; exact h)
  omega
theorem write_nonneg (f : Format) {s : Bool} {m : Nat} {e : Int} (h : 0 ≤ dv s m e) : 0 ≤ sv f (f.write (.number s m e)) := by
  unfold sv
  rw [write_rg, write_sg]
  unfold dv at h
  cases s
  · simp; exact rv_nonneg _ _
  · simp only [if_true] at h ⊢
    rw [nrung_zero_of f true (by grind), rv_zero]; decide
theorem write_above (f : Format) {s : Bool} {m : Nat} {e : Int} {R : Nat} (hR : R ≤ f.infRung) (h0 : 0 < R) (h : rv f R ≤ dv s m e) : rv f R ≤ sv f (f.write (.number s m e)) := by
  have hp : 0 < rv f R := by rw [← rv_zero f]; exact rv_lt_inf f h0 hR
  unfold dv at h
  cases s
  · simp only [Bool.false_eq_true, if_false] at h
    have h1 := write_ge f (s := false) hR h
    unfold sv
    rw [write_sg]
    simp only [Bool.false_eq_true, if_false]
    exact rv_le_of f h1 (by rw [write_rg]; exact nrung_inf _ _ _ _)
  · have := qv_nonneg m e
    simp only [if_true] at h
    grind

/-- What a rounded answer keeps of the exact one 'v'. -/
structure Near (f : Format) (v : Rat) (r : Nat) : Prop where
  bound : ∀ R, R < f.infRung → v ≤ rv f R → -(rv f R) ≤ v → rg f r < f.infRung ∧ sv f r ≤ rv f R ∧ -(rv f R) ≤ sv f r
  nonneg : 0 ≤ v → 0 ≤ sv f r
  above : ∀ R, R ≤ f.infRung → 0 < R → rv f R ≤ v → rv f R ≤ sv f r

theorem near_write (f : Format) {s : Bool} {m : Nat} {e : Int} {v : Rat} (h : dv s m e = v) : Near f v (f.write (.number s m e)) := by
  subst h
  exact ⟨fun R hR h1 h2 => write_in f hR h1 h2, fun h => write_nonneg f h, fun R hR h0 h => write_above f hR h0 h⟩

def Fin (f : Format) (b : Nat) : Prop := rg f b < f.infRung

theorem add_near {f : Format} {x y : Nat} (hx : Fin f x) (hy : Fin f y) : ∃ r, f.add x y = some r ∧ Near f (sv f x + sv f y) r := by
  obtain ⟨s, m, i, e1, v1⟩ := dv_sg hx
  obtain ⟨t, n, j, e2, v2⟩ := dv_sg hy
  obtain ⟨s', m', e', h, hv⟩ := sum_val s m i t n j
  refine ⟨_, by unfold Format.add; rw [e1, e2, h]; rfl, near_write f (by rw [hv, v1, v2])⟩
theorem sub_near {f : Format} {x y : Nat} (hx : Fin f x) (hy : Fin f y) : ∃ r, f.sub x y = some r ∧ Near f (sv f x - sv f y) r := by
  obtain ⟨s, m, i, e1, v1⟩ := dv_sg hx
  obtain ⟨t, n, j, e2, v2⟩ := opposite_val hy
  obtain ⟨s', m', e', h, hv⟩ := sum_val s m i t n j
  refine ⟨_, by unfold Format.sub; rw [e1, e2, h]; rfl, near_write f (by rw [hv, v1, v2, Rat.sub_eq_add_neg])⟩
theorem mul_near {f : Format} {x y : Nat} (hx : Fin f x) (hy : Fin f y) : ∃ r, f.mul x y = some r ∧ Near f (sv f x * sv f y) r := by
  obtain ⟨s, m, i, e1, v1⟩ := dv_sg hx
  obtain ⟨t, n, j, e2, v2⟩ := dv_sg hy
  obtain ⟨s', m', e', h, hv⟩ := product_val s m i t n j
  refine ⟨_, by unfold Format.mul; rw [e1, e2, h]; rfl, near_write f (by rw [hv, v1, v2])⟩

theorem int_rat_lt {a b : Int} {c : Rat} (hc : 0 < c) : (a : Rat) * c < (b : Rat) * c ↔ a < b := by
  rw [Rat.mul_lt_mul_right hc, Rat.intCast_lt_intCast]

/-- The order of finite floats is that of their values. -/
theorem order_fin {f : Format} {x y : Nat} (hx : Fin f x) (hy : Fin f y) :
    (f.order x y = some .lt ↔ sv f x < sv f y) ∧ (f.order x y = some .eq ↔ sv f x = sv f y) ∧ (f.order x y = some .gt ↔ sv f y < sv f x) := by
  obtain ⟨s, m, i, e1, v1⟩ := dv_sg hx
  obtain ⟨t, n, j, e2, v2⟩ := dv_sg hy
  unfold Format.order
  rw [e1, e2]
  simp only [Datum.order, Option.some.injEq]
  rw [← v1, ← v2, ← signed_val s m (i := i) (b := min i j) (by omega), ← signed_val t n (i := j) (b := min i j) (by omega)]
  generalize signed s m (i - min i j).toNat = A
  generalize signed t n (j - min i j).toNat = B
  have hc := two_pos (min i j)
  rw [int_rat_lt hc, int_rat_lt hc, Int.compare_eq_lt, Int.compare_eq_eq, Int.compare_eq_gt]
  refine ⟨Iff.rfl, ?_, Iff.rfl⟩
  constructor
  · rintro rfl; rfl
  · intro h
    rcases Int.lt_trichotomy A B with h1 | h1 | h1
    · have := (int_rat_lt hc).2 h1; grind
    · exact h1
    · have := (int_rat_lt hc).2 h1; grind

/-- The rung of a significand and a binade. -/
theorem rv_of (f : Format) {q k : Nat} (h1 : k < 2 * f.binade) (h2 : q = 0 ∨ f.binade ≤ k) : rv f (q * f.binade + k) = qv k (f.leastPlace + q) := by
  have hB := binade_pos f
  unfold rv rk rq
  by_cases h : q * f.binade + k < f.binade
  · have hq : q = 0 := by
      cases q with
      | zero => rfl
      | succ c => rw [Nat.succ_mul] at h; omega
    subst hq
    rw [if_pos h, if_pos h, Nat.zero_mul, Nat.zero_add]
  · rw [if_neg h, if_neg h]
    by_cases hk : f.binade ≤ k
    · have e1 : q * f.binade + k = (q + 1) * f.binade + (k - f.binade) := by rw [Nat.succ_mul]; omega
      rw [e1]
      have e2 : ((q + 1) * f.binade + (k - f.binade)) % f.binade = k - f.binade := by
        rw [Nat.mul_comm, Nat.mul_add_mod, Nat.mod_eq_of_lt (by omega)]
      have e3 : ((q + 1) * f.binade + (k - f.binade)) / f.binade = q + 1 := by
        rw [Nat.mul_comm, Nat.mul_add_div hB, Nat.div_eq_of_lt (by omega), Nat.add_zero]
      rw [e2, e3]
      congr 1
      omega
    · have hq : q = 0 := by omega
      subst hq
      omega

/-- What the format has is written as it is. -/
theorem nrung_exact (f : Format) (s : Bool) {m : Nat} {e : Int} {R : Nat} (hR : R ≤ f.infRung) (h : qv m e = rv f R) : nrung f s m e = R :=
  Nat.le_antisymm (nrung_le f s (by rw [h]; exact Rat.le_refl)) (nrung_ge f s hR (by rw [h]; exact Rat.le_refl))

theorem write_exact {f : Format} {s : Bool} {m : Nat} {e : Int} {R : Nat} (hR : R < f.infRung) (h : qv m e = rv f R) : Fin f (f.write (.number s m e)) ∧ sv f (f.write (.number s m e)) = dv s m e := by
  have h1 := nrung_exact f s (Nat.le_of_lt hR) h
  refine ⟨by unfold Fin; rw [write_rg, h1]; exact hR, ?_⟩
  unfold sv dv
  rw [write_sg, write_rg, h1, h]

theorem single_lp : single.leastPlace = -149 := by decide
theorem double_lp : double.leastPlace = -1074 := by decide
theorem single_inf : single.infRung = 2139095040 := by decide
theorem double_inf : double.infRung = 9218868437227405312 := by decide
theorem single_B : single.binade = 8388608 := by decide
theorem double_B : double.binade = 4503599627370496 := by decide
theorem single_S : single.signWeight = 2147483648 := by decide
theorem double_S : double.signWeight = 9223372036854775808 := by decide

/-- A finite single is written exactly as a double. -/
theorem wide_rung {m : Nat} {e : Int} (h1 : m < 2 ^ 24) (h2 : -149 ≤ e) (h3 : e ≤ 104) : ∃ R, R < double.infRung ∧ qv m e = rv double R := by
  by_cases hm : m = 0
  · subst hm
    refine ⟨0, by decide, ?_⟩
    rw [rv_zero]; unfold qv; simp
  · have hlo : 2 ^ m.log2 ≤ m := Nat.log2_self_le hm
    have hhi : m < 2 ^ (m.log2 + 1) := Nat.lt_log2_self
    have hL : m.log2 ≤ 23 := by
      have : m.log2 < 24 := (Nat.log2_lt hm).2 h1
      omega
    generalize m.log2 = L at *
    obtain ⟨q, hq⟩ : ∃ q : Nat, e - 52 + L + 1074 = q := ⟨(e - 52 + L + 1074).toNat, by omega⟩
    have k1 : 2 ^ 52 ≤ m * 2 ^ (52 - L) := by
      have : 2 ^ L * 2 ^ (52 - L) ≤ m * 2 ^ (52 - L) := Nat.mul_le_mul_right _ hlo
      rw [← Nat.pow_add, show L + (52 - L) = 52 by omega] at this
      exact this
    have k2 : m * 2 ^ (52 - L) < 2 * 2 ^ 52 := by
      have : m * 2 ^ (52 - L) < 2 ^ (L + 1) * 2 ^ (52 - L) := Nat.mul_lt_mul_of_pos_right hhi (Nat.two_pow_pos _)
      rw [← Nat.pow_add, show L + 1 + (52 - L) = 53 by omega] at this
      exact this
    refine ⟨q * double.binade + m * 2 ^ (52 - L), ?_, ?_⟩
    · rw [double_inf, double_B]
      have : q * 4503599627370496 ≤ 1200 * 4503599627370496 := Nat.mul_le_mul_right _ (by omega)
      omega
    · rw [rv_of double (by rw [double_B]; exact k2) (Or.inr (by rw [double_B]; exact k1)), double_lp]
      rw [qv_shift m (e := e) (b := -1074 + (q : Int)) (by omega)]
      congr 3
      omega

theorem single_place {r : Nat} (h : r < single.infRung) : rk single r < 2 ^ 24 ∧ -149 ≤ single.leastPlace + (rq single r : Int) ∧ single.leastPlace + (rq single r : Int) ≤ 104 := by
  have h1 := rk_lt single r
  rw [single_B] at h1
  rw [single_lp]
  refine ⟨by omega, by omega, ?_⟩
  have h2 : rq single r ≤ 253 := by
    unfold rq
    rw [single_B]
    rw [single_inf] at h
    split
    · omega
    · have : r / 8388608 < 255 := Nat.div_lt_of_lt_mul (by omega)
      omega
  omega

theorem wide_fin {b : Nat} (h : Fin single b) : Fin double (double.write (single.read b)) ∧ sv double (double.write (single.read b)) = sv single b := by
  have h1 := single_place h
  obtain ⟨R, hR, hv⟩ := wide_rung h1.1 h1.2.1 h1.2.2
  rw [read_fin h]
  have := write_exact (s := sg single b) hR hv
  exact ⟨this.1, this.2⟩

/-! ### Conversions -/
def wideC : Option Nat → Option Nat
  | some b => some (double.write (single.read b))
  | none => none
def wres (w : World) (b : Nat) : Nat := if (single.read b).isNaN then nanAt w (.nanConv .f64 b) else double.write (single.read b)
def wdr (b : Nat) : Nat := if (single.read b).isNaN then 1 else 0

theorem inf_of_rung {f : Format} (hf : f.binade ≤ f.infRung) {b : Nat} (h : rg f b = f.infRung) : f.read b = .infinity (sg f b) := by
  unfold rg at h
  unfold Format.read sg
  simp only [h]
  rw [if_neg (by omega), if_neg (by omega)]
  simp

theorem read_cases {f : Format} (hf : f.binade ≤ f.infRung) (b : Nat) : Fin f b ∨ f.read b = .infinity (sg f b) ∨ (f.read b).isNaN = true := by
  unfold Fin
  rcases Nat.lt_trichotomy (rg f b) f.infRung with h | h | h
  · exact Or.inl h
  · exact Or.inr (Or.inl (inf_of_rung hf h))
  · refine Or.inr (Or.inr ?_)
    unfold rg at h
    unfold Format.read
    simp only
    rw [if_neg (by omega), if_neg (by omega), if_neg (by omega)]
    rfl
theorem single_ok : single.binade ≤ single.infRung := by decide
theorem double_ok : double.binade ≤ double.infRung := by decide

theorem fin_nan {f : Format} {b : Nat} (h : Fin f b) : (f.read b).isNaN = false := by rw [read_fin h]; rfl
theorem fin_inf {f : Format} {b : Nat} (h : Fin f b) : (f.read b).isInfinity = false := by rw [read_fin h]; rfl

theorem run_widen {P : Program} (w : World) (src dst : TypeId) (b : Nat) (hs : (P.underlying src).isSome = true) (hd : P.underlying dst = some (.float .f64)) :
    (convert src dst (.float .f32 b)).run P w = .ok (.float .f64 (wres w b)) (w.drewN (wdr b)) := by
  unfold wres wdr
  rcases read_cases single_ok b with h | h | h
  · have hn := fin_nan h
    rw [hn]
    simp only [Bool.false_eq_true, if_false]
    rw [run_convert_float_float w src dst .f32 .f64 b (double.write (single.read b)) hs hd]
    · rfl
    · unfold floatToFloatBits
      rw [if_neg (by decide)]
      have hr := read_fin h
      have hw := (wide_fin h).1
      have hi := fin_inf hw
      show (match single.read b with | .nan _ _ => none | .infinity s => some (double.write (.infinity s)) | .number s m e => if (double.read (double.write (.number s m e))).isInfinity = true then none else some (double.write (.number s m e))) = _
      rw [hr] at hi ⊢
      simp only [hi]
      rfl
  · rw [h]
    simp only [Datum.isNaN, Bool.false_eq_true, if_false]
    rw [run_convert_float_float w src dst .f32 .f64 b (double.write (.infinity (sg single b))) hs hd]
    · rfl
    · unfold floatToFloatBits
      rw [if_neg (by decide)]
      show (match single.read b with | .nan _ _ => none | .infinity s => some (double.write (.infinity s)) | .number s m e => if (double.read (double.write (.number s m e))).isInfinity = true then none else some (double.write (.number s m e))) = _
      rw [h]
  · rw [h]
    simp only [if_true]
    obtain ⟨u, hs'⟩ := Option.isSome_iff_exists.1 hs
    have hd2 : ∃ s t, FloatKind.f32.decode b = .nan s t := by
      show ∃ s t, single.read b = .nan s t
      cases hc : single.read b <;> simp [hc, Datum.isNaN] at h ⊢
    obtain ⟨s, t, hd2⟩ := hd2
    cases u <;> simp [convert, run_underlying hs', run_underlying hd, Conv.floatToFloat, hd2, choose, nanAt, World.drewN] <;> rfl

theorem cls_wres (w : World) (b : Nat) : cls .f64 (wres w b) = wideC (cls .f32 b) := by
  unfold wres
  by_cases h : (single.read b).isNaN = true
  · rw [if_pos h, nanAt_conv]
    rw [cls_none (k := .f32) h]; rfl
  · rw [if_neg h]
    have h' : (single.read b).isNaN = false := by simpa using h
    rw [cls_some (k := .f32) h', cls_some (k := .f64) (read_write_nan double h')]; rfl

/-- Is a finite double too great for a single? -/
def ovf (b : Nat) : Bool := match double.read b with
  | .number s m e => (single.read (single.write (.number s m e))).isInfinity
  | _ => false
def narrowC : Option Nat → Option Nat
  | some b => some (single.write (double.read b))
  | none => none
def nres (w : World) (b : Nat) : Nat :=
  if (double.read b).isNaN then nanAt w (.nanConv .f32 b) else if ovf b then nanAt w (.floatToFloat b) else single.write (double.read b)
def ndr (b : Nat) : Nat := if (double.read b).isNaN then 1 else if ovf b then 1 else 0

theorem run_narrow {P : Program} (w : World) (src dst : TypeId) (b : Nat) (hs : (P.underlying src).isSome = true) (hd : P.underlying dst = some (.float .f32)) :
    (convert src dst (.float .f64 b)).run P w = .ok (.float .f32 (nres w b)) (w.drewN (ndr b)) := by
  unfold nres ndr
  obtain ⟨u, hs'⟩ := Option.isSome_iff_exists.1 hs
  have e0 : FloatKind.f64.decode b = double.read b := rfl
  have e1 : ∀ d, FloatKind.f32.encode d = single.write d := fun _ => rfl
  have e2 : ∀ d, FloatKind.f32.decode d = single.read d := fun _ => rfl
  cases hc : double.read b with
  | nan s t =>
    simp only [Datum.isNaN, if_true]
    cases u <;> simp [convert, run_underlying hs', run_underlying hd, Conv.floatToFloat, e0, hc, choose, nanAt, World.drewN] <;> rfl
  | infinity s =>
    have ho : ovf b = false := by unfold ovf; rw [hc]
    rw [ho]
    simp only [Datum.isNaN, Bool.false_eq_true, if_false]
    cases u <;> simp [convert, run_underlying hs', run_underlying hd, Conv.floatToFloat, e0, e1, hc] <;> rfl
  | number s m e =>
    have ho : ovf b = (single.read (single.write (.number s m e))).isInfinity := by unfold ovf; rw [hc]
    rw [ho]
    simp only [Datum.isNaN, Bool.false_eq_true, if_false]
    cases hi : (single.read (single.write (.number s m e))).isInfinity
    · simp only [Bool.false_eq_true, if_false]
      cases u <;> simp [convert, run_underlying hs', run_underlying hd, Conv.floatToFloat, e0, e1, e2, hc, hi] <;> rfl
    · simp only [if_true]
      cases u <;> simp [convert, run_underlying hs', run_underlying hd, Conv.floatToFloat, e0, e1, e2, hc, hi, choose, nanAt, World.drewN] <;> rfl

theorem cls_nres (w : World) {b : Nat} (ho : ovf b = false) : cls .f32 (nres w b) = narrowC (cls .f64 b) := by
  unfold nres
  by_cases h : (double.read b).isNaN = true
  · rw [if_pos h, nanAt_conv]
    rw [cls_none (k := .f64) h]; rfl
  · rw [if_neg h, ho]
    have h' : (double.read b).isNaN = false := by simpa using h
    simp only [Bool.false_eq_true, if_false]
    rw [cls_some (k := .f64) h', cls_some (k := .f32) (read_write_nan single h')]; rfl

/-- A double within a single's bounds is not too great. -/
theorem ovf_of {b R : Nat} (h : Fin double b) (hR : R < single.infRung) (h1 : sv double b ≤ rv single R) (h2 : -(rv single R) ≤ sv double b) : ovf b = false := by
  have hr := read_fin h
  unfold ovf
  rw [hr]
  simp only
  have h3 := write_in single (s := sg double b) (m := rk double (rg double b)) (e := double.leastPlace + (rq double (rg double b) : Nat)) hR h1 h2
  exact fin_inf h3.1

/-! ### Equality, classes and sameness -/
theorem ord_self {f : Format} {x : Nat} (h : (f.read x).isNaN = false) : f.order x x = some .eq := by
  unfold Format.order
  cases hx : f.read x with
  | number s m e => simp [Datum.order]
  | infinity s => simp [Datum.order]
  | nan s t => rw [hx] at h; cases h
theorem ord_nan {f : Format} {x : Nat} (h : (f.read x).isNaN = true) (y : Nat) : f.order x y = none ∧ f.order y x = none :=
  ⟨order_nan_left h, order_nan_right h⟩

theorem cls_wf {k : FloatKind} {x y : Nat} (h : cls k x = cls k y) : (k.format.read x).isNaN = (k.format.read y).isNaN ∧ ((k.format.read x).isNaN = false → x = y) := by
  unfold cls at h
  split at h <;> split at h
  · exact ⟨by simp_all, by simp_all⟩
  · cases h
  · cases h
  · exact ⟨by simp_all, fun _ => by injection h⟩

/-- The bits by which a number is told. -/
def told (x : Nat) : Nat := (cls .f32 x).getD 2143289344
theorem told_nan {x : Nat} (h : (single.read x).isNaN = true) : told x = 2143289344 := by unfold told; rw [cls_none (k := .f32) h]; rfl
theorem told_num {x : Nat} (h : (single.read x).isNaN = false) : told x = x := by unfold told; rw [cls_some (k := .f32) h]; rfl
end Go.Proofs.Ytajekehidofkiaa.Fl
