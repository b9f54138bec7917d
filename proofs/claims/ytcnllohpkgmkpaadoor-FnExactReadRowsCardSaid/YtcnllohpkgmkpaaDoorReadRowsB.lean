/- What ReadRows needs: Fl Ext Hx0 Rn0 Sz Rd0 Same F32s EqF F2 SzF Rws. -/
import Derived.Laws.FloatArith
import Derived.Deep.Draws
import Derived.Test.YtcnllohpkgmkpaaDoorRows
import Derived.WalkKit
import Derived.WalkSpells
import Derived.WalkLawsBesides
import Derived.Lib.Hide
import Derived.Test.YtcnllohpkgmkpaaDoorReadRowsA
import Derived.Lib.ParseIntB
import Derived.Deep.Slices
import Derived.ProofKit
import Derived.Deep.QuietTactic
import Derived.BigQuiet
import Derived.BigRegion
import Derived.Deep.RegionWith
/- Floats in the model: classes (one for all not-a-numbers), values, rounding as a monotone map, conversions. -/
namespace Go.Proofs.YtcnllohpkgmkpaaDoor.Fl
open Ieee

theorem read_word (f : Format) (neg : Bool) {rung : Nat} (h : rung ≤ f.infRung) : (f.read (f.word neg rung)).isNaN = false := by
  have h1 := f.infRung_lt
  have hp : 0 < f.signWeight := Nat.two_pow_pos _
  have hm : f.word neg rung % f.signWeight = rung := by
    unfold Format.word
    split
    · rw [Nat.add_mod_left, Nat.mod_eq_of_lt (by omega)]
    · rw [Nat.mod_eq_of_lt (by omega)]
  unfold Format.read
  simp only [hm]
  split
  · rfl
  · split
    · rfl
    · rw [if_pos (by omega)]; rfl

theorem nearest_word (f : Format) (neg : Bool) (m : Nat) (e : Int) : ∃ rung, rung ≤ f.infRung ∧ f.nearest neg m e = f.word neg rung := by
  unfold Format.nearest
  split
  · exact ⟨0, Nat.zero_le _, rfl⟩
  · exact ⟨_, Nat.min_le_right _ _, rfl⟩

theorem read_write_nan (f : Format) {d : Datum} (h : d.isNaN = false) : (f.read (f.write d)).isNaN = false := by
  cases d with
  | number s m e =>
    obtain ⟨r, hr, he⟩ := nearest_word f s m e
    show (f.read (f.nearest s m e)).isNaN = false
    rw [he]; exact read_word f s hr
  | infinity s => exact read_word f s (Nat.le_refl _)
  | nan s t => simp [Datum.isNaN] at h

theorem sum_nan {a b c : Datum} (h : a.sum b = some c) : c.isNaN = false ∧ a.isNaN = false ∧ b.isNaN = false := by
  cases a <;> cases b <;> simp [Datum.sum, Datum.isNaN] at h ⊢
  all_goals (first | (obtain ⟨_, h⟩ := h; subst h; simp) | (subst h; simp))
theorem product_nan {a b c : Datum} (h : a.product b = some c) : c.isNaN = false ∧ a.isNaN = false ∧ b.isNaN = false := by
  cases a <;> cases b <;> simp [Datum.product, Datum.isNaN] at h ⊢
  all_goals (first | (obtain ⟨_, h⟩ := h; subst h; simp) | (subst h; simp))
theorem quotient_nan {n : Nat} {a b c : Datum} (h : a.quotient n b = some c) : c.isNaN = false ∧ a.isNaN = false ∧ b.isNaN = false := by
  cases a <;> cases b <;> simp only [Datum.quotient, Datum.isNaN] at h ⊢
  all_goals (first | cases h | skip)
  all_goals (first | (split at h; split at h; cases h; (first | (cases h; simp) | skip)) | simp)
  all_goals (first | (cases h; simp) | skip)
theorem root_nan {n : Nat} {a c : Datum} (h : a.root n = some c) : c.isNaN = false ∧ a.isNaN = false := by
  cases a with
  | nan => simp [Datum.root] at h
  | infinity s => cases s <;> simp [Datum.root, Datum.isNaN] at h ⊢; subst h; rfl
  | number s m i =>
    simp only [Datum.root] at h
    split at h
    · cases h; exact ⟨rfl, rfl⟩
    · split at h
      · cases h
      · cases h; exact ⟨rfl, rfl⟩

theorem opposite_nan (a : Datum) : a.opposite.isNaN = a.isNaN := by cases a <;> rfl

/-- The class of a float: its bits, but one class for all not-a-numbers. -/
def cls (k : FloatKind) (b : Nat) : Option Nat := if (k.format.read b).isNaN then none else some b

theorem cls_some {k : FloatKind} {b : Nat} (h : (k.format.read b).isNaN = false) : cls k b = some b := by simp [cls, h]
theorem cls_none {k : FloatKind} {b : Nat} (h : (k.format.read b).isNaN = true) : cls k b = none := by simp [cls, h]

theorem bits_facts {op : BinOp} {k : FloatKind} {x y r : Nat} (h : floatBits op k x y = some r) : cls k r = some r ∧ cls k x = some x ∧ cls k y = some y := by
  unfold floatBits at h
  split at h
  · unfold Format.add at h
    obtain ⟨d, hd, rfl⟩ := Option.map_eq_some_iff.1 h
    have := sum_nan hd
    exact ⟨cls_some (read_write_nan _ this.1), cls_some this.2.1, cls_some this.2.2⟩
  · unfold Format.sub at h
    obtain ⟨d, hd, rfl⟩ := Option.map_eq_some_iff.1 h
    have := sum_nan hd
    rw [opposite_nan] at this
    exact ⟨cls_some (read_write_nan _ this.1), cls_some this.2.1, cls_some this.2.2⟩
  · unfold Format.mul at h
    obtain ⟨d, hd, rfl⟩ := Option.map_eq_some_iff.1 h
    have := product_nan hd
    exact ⟨cls_some (read_write_nan _ this.1), cls_some this.2.1, cls_some this.2.2⟩
  · unfold Format.div at h
    obtain ⟨d, hd, rfl⟩ := Option.map_eq_some_iff.1 h
    have := quotient_nan hd
    exact ⟨cls_some (read_write_nan _ this.1), cls_some this.2.1, cls_some this.2.2⟩
  · cases h

/-- An operation on classes. -/
def arC (op : BinOp) (k : FloatKind) : Option Nat → Option Nat → Option Nat
  | some x, some y => floatBits op k x y
  | _, _ => none
def ordC (k : FloatKind) : Option Nat → Option Nat → Option Ordering
  | some x, some y => k.format.order x y
  | _, _ => none

theorem arC_bits (op : BinOp) (k : FloatKind) (x y : Nat) : arC op k (cls k x) (cls k y) = floatBits op k x y := by
  cases h : floatBits op k x y with
  | some r => rw [(bits_facts h).2.1, (bits_facts h).2.2]; exact h
  | none =>
    unfold cls
    split <;> split <;> first | rfl | exact h

theorem order_nan_left {a b : Datum} (h : a.isNaN = true) : a.order b = none := by cases a <;> cases b <;> simp_all [Datum.isNaN, Datum.order]
theorem order_nan_right {a b : Datum} (h : b.isNaN = true) : a.order b = none := by cases a <;> cases b <;> simp_all [Datum.isNaN, Datum.order]
theorem ord_bits (k : FloatKind) (x y : Nat) : k.format.order x y = ordC k (cls k x) (cls k y) := by
  unfold cls
  split
  · exact order_nan_left ‹_›
  · split
    · exact order_nan_right ‹_›
    · rfl

/-- What an operation answers in a world, and how many draws it takes. -/
def nanAt (w : World) (q : Question) : Nat := q.cut (w.tape w.drawn q)
def ares (w : World) (op : BinOp) (k : FloatKind) (x y : Nat) : Nat :=
  match floatBits op k x y with
  | some r => r
  | none => nanAt w (.nanBits k x y)
def adr (op : BinOp) (k : FloatKind) (x y : Nat) : Nat :=
  match floatBits op k x y with
  | some _ => 0
  | none => 1

theorem nan32 (a t : Nat) : (single.read ((t % 2) * 2 ^ 31 + 0x7f800000 + 1 + a % (2 ^ 23 - 1))).isNaN = true := by
  have ha : a % (2 ^ 23 - 1) < 2 ^ 23 - 1 := Nat.mod_lt _ (by omega)
  have hs : single.signWeight = 2147483648 := by decide
  have hi : single.infRung = 2139095040 := by decide
  have hb : single.binade = 8388608 := by decide
  unfold Format.read
  rw [hs, hi, hb]
  have h2 : ((t % 2) * 2 ^ 31 + 0x7f800000 + 1 + a % (2 ^ 23 - 1)) % 2147483648 = 2139095041 + a % (2 ^ 23 - 1) := by omega
  simp only [h2]
  rw [if_neg (by omega), if_neg (by omega), if_neg (by omega)]
  rfl
theorem nan64 (a t : Nat) : (double.read ((t % 2) * 2 ^ 63 + 0x7ff0000000000000 + 1 + a % (2 ^ 52 - 1))).isNaN = true := by
  have ha : a % (2 ^ 52 - 1) < 2 ^ 52 - 1 := Nat.mod_lt _ (by omega)
  have hs : double.signWeight = 9223372036854775808 := by decide
  have hi : double.infRung = 9218868437227405312 := by decide
  have hb : double.binade = 4503599627370496 := by decide
  unfold Format.read
  rw [hs, hi, hb]
  have h2 : ((t % 2) * 2 ^ 63 + 0x7ff0000000000000 + 1 + a % (2 ^ 52 - 1)) % 9223372036854775808 = 9218868437227405313 + a % (2 ^ 52 - 1) := by omega
  simp only [h2]
  rw [if_neg (by omega), if_neg (by omega), if_neg (by omega)]
  rfl

theorem nanAt_bits (w : World) (k : FloatKind) (x y : Nat) : cls k (nanAt w (.nanBits k x y)) = none := by
  apply cls_none
  cases k
  · exact nan32 _ _
  · exact nan64 _ _
theorem nanAt_conv (w : World) (k : FloatKind) (x : Nat) : cls k (nanAt w (.nanConv k x)) = none := by
  apply cls_none
  cases k
  · exact nan32 _ _
  · exact nan64 _ _

theorem cls_ares (w : World) (op : BinOp) (k : FloatKind) (x y : Nat) : cls k (ares w op k x y) = arC op k (cls k x) (cls k y) := by
  rw [arC_bits]
  unfold ares
  split
  · rename_i r h; rw [h]; exact (bits_facts h).1
  · rename_i h; rw [h]; exact nanAt_bits _ _ _ _

theorem run_arith {P : Program} (w : World) (op : BinOp) (t : TypeId) (k : FloatKind) (x y : Nat) (hop : op = .add ∨ op = .sub ∨ op = .mul ∨ op = .quo) :
    (binOp op t (.float k x) (.float k y)).run P w = .ok (.float k (ares w op k x y)) (w.drewN (adr op k x y)) := by
  unfold ares adr
  cases h : floatBits op k x y with
  | some r => simp only []; rw [run_float_arith w op t k x y r h]; rfl
  | none =>
    unfold floatBits at h
    rcases hop with rfl | rfl | rfl | rfl <;> simp only at h <;> simp [binOp, Op.floatArith, h, choose, nanAt, World.drewN] <;> rfl

/-- The value of a magnitude and a place. -/
def qv (m : Nat) (e : Int) : Rat := (m : Rat) * (2 : Rat) ^ e

theorem two_ne : (2 : Rat) ≠ 0 := by decide
theorem two_pos (e : Int) : (0 : Rat) < (2 : Rat) ^ e := Rat.zpow_pos (by decide)

theorem qv_shift (m : Nat) {e b : Int} (h : b ≤ e) : qv m e = qv (m * 2 ^ (e - b).toNat) b := by
  unfold qv
  rw [Rat.natCast_mul, Rat.natCast_pow, Rat.mul_assoc]
  congr 1
  have h2 : ((2 : Nat) : Rat) = 2 := rfl
  rw [h2, ← Rat.zpow_natCast, ← Rat.zpow_add two_ne]
  congr 1
  omega

theorem qv_le_same {m k : Nat} {b : Int} : qv m b ≤ qv k b ↔ m ≤ k := by
  unfold qv
  constructor
  · intro h
    exact Rat.natCast_le_natCast.1 (Rat.le_of_mul_le_mul_right h (two_pos b))
  · intro h
    exact Rat.mul_le_mul_of_nonneg_right (Rat.natCast_le_natCast.2 h) (Rat.le_of_lt (two_pos b))

theorem qv_le {m k : Nat} {e g : Int} : qv m e ≤ qv k g ↔ m * 2 ^ (e - g).toNat ≤ k * 2 ^ (g - e).toNat := by
  by_cases h : g ≤ e
  · rw [qv_shift m h, qv_le_same, show (g - e).toNat = 0 by omega]; simp
  · rw [qv_shift k (show e ≤ g by omega), qv_le_same, show (e - g).toNat = 0 by omega]; simp

theorem cut_le {neg : Bool} {n drop C : Nat} (h : n ≤ C * 2 ^ drop) : Toward.even.cut neg n drop ≤ C := by
  unfold Toward.cut
  simp only [Nat.one_shiftLeft]
  by_cases hd : drop ≤ n.log2 + 2
  · rw [Nat.min_eq_left hd]
    have hp : 0 < 2 ^ drop := Nat.two_pow_pos _
    have h1 : n / 2 ^ drop ≤ C := Nat.div_le_of_le_mul (by rw [Nat.mul_comm]; exact h)
    by_cases he : n / 2 ^ drop = C
    · have hr : n % 2 ^ drop = 0 := by
        have := Nat.div_add_mod n (2 ^ drop)
        rw [he, Nat.mul_comm] at this
        omega
      rw [hr, he]
      have : (decide (2 ^ drop < 2 * 0) || (2 ^ drop == 2 * 0 && C % 2 == 1)) = false := by simp
      rw [this]; simp
    · have : ∀ b : Bool, b.toNat ≤ 1 := fun b => by cases b <;> decide
      have := this (decide (2 ^ drop < 2 * (n % 2 ^ drop)) || (2 ^ drop == 2 * (n % 2 ^ drop) && n / 2 ^ drop % 2 == 1))
      omega
  · rw [Nat.min_eq_right (by omega)]
    have hn : n < 2 ^ (n.log2 + 1) := Nat.lt_log2_self
    have hn2 : 2 ^ (n.log2 + 2) = 2 * 2 ^ (n.log2 + 1) := by rw [Nat.pow_succ, Nat.mul_comm]
    rw [Nat.div_eq_of_lt (by omega), Nat.mod_eq_of_lt (by omega)]
    have : (decide (2 ^ (n.log2 + 2) < 2 * n) || (2 ^ (n.log2 + 2) == 2 * n && 0 % 2 == 1)) = false := by
      have h1 : ¬ 2 ^ (n.log2 + 2) < 2 * n := by omega
      simp [h1]
    rw [this]; simp

/-- The rung that rounding finds. -/
def nrung (f : Format) (neg : Bool) (m : Nat) (e : Int) : Nat :=
  if m = 0 then 0 else
  let last := max (e + m.log2 - f.fractionBits) f.leastPlace
  let kept := Toward.even.cut neg (m <<< (e - last).toNat) (last - e).toNat
  min ((last - f.leastPlace).toNat * f.binade + kept) f.infRung
theorem nearest_nrung (f : Format) (neg : Bool) (m : Nat) (e : Int) : f.nearest neg m e = f.word neg (nrung f neg m e) := by
  unfold Format.nearest nrung
  split <;> rfl

/-- The value of a rung. -/
def rk (f : Format) (r : Nat) : Nat := if r < f.binade then r else f.binade + r % f.binade
def rq (f : Format) (r : Nat) : Nat := if r < f.binade then 0 else r / f.binade - 1
def rv (f : Format) (r : Nat) : Rat := qv (rk f r) (f.leastPlace + (rq f r : Nat))

theorem binade_pos (f : Format) : 0 < f.binade := Nat.two_pow_pos _
theorem rung_split (f : Format) (r : Nat) : r = rq f r * f.binade + rk f r := by
  unfold rq rk
  split
  · omega
  · have h := Nat.div_add_mod r f.binade
    have h1 : 1 ≤ r / f.binade := (Nat.le_div_iff_mul_le (binade_pos f)).2 (by omega)
    obtain ⟨c, hc⟩ : ∃ c, r / f.binade = c + 1 := ⟨r / f.binade - 1, by omega⟩
    rw [hc] at h ⊢
    rw [Nat.mul_comm, Nat.succ_mul] at h
    simp only [Nat.add_sub_cancel]
    omega
theorem rk_lt (f : Format) (r : Nat) : rk f r < 2 * f.binade := by
  unfold rk
  have := Nat.mod_lt r (binade_pos f)
  split <;> omega
theorem rk_ge (f : Format) (r : Nat) (h : 0 < rq f r) : f.binade ≤ rk f r := by
  unfold rk rq at *
  split at h
  · omega
  · rw [if_neg ‹_›]; omega

/-- Rounding is monotone: what is not above a rung's value is not rounded above it. -/
theorem nrung_le (f : Format) (neg : Bool) {m : Nat} {e : Int} {R : Nat} (h : qv m e ≤ rv f R) : nrung f neg m e ≤ R := by
  unfold nrung
  split
  · omega
  rename_i hm
  simp only
  generalize hl : max (e + (m.log2 : Int) - f.fractionBits) f.leastPlace = last
  have hB : f.binade = 2 ^ f.fractionBits := rfl
  have hlo : 2 ^ m.log2 ≤ m := Nat.log2_self_le hm
  have hhi : m < 2 ^ (m.log2 + 1) := Nat.lt_log2_self
  have hlast : f.leastPlace ≤ last := by omega
  have hlast2 : e + (m.log2 : Int) - f.fractionBits ≤ last := by omega
  have cutb : ∀ C : Nat, qv m e ≤ qv C last → Toward.even.cut neg (m <<< (e - last).toNat) (last - e).toNat ≤ C := by
    intro C hC
    apply cut_le
    rw [Nat.shiftLeft_eq]
    exact qv_le.1 hC
  have hK : Toward.even.cut neg (m <<< (e - last).toNat) (last - e).toNat ≤ 2 * f.binade := by
    apply cutb
    have h1 : qv m e ≤ qv (2 ^ (m.log2 + 1)) e := qv_le_same.2 (by omega)
    refine Rat.le_trans h1 ?_
    rw [qv_le, hB, ← Nat.pow_add, ← Nat.pow_succ', ← Nat.pow_add]
    exact Nat.pow_le_pow_right (by omega) (by omega)
  have hs := rung_split f R
  have hk := rk_lt f R
  have hk2 := rk_ge f R
  unfold rv at h
  generalize rq f R = q at *
  generalize rk f R = k at *
  apply Nat.le_trans (Nat.min_le_left _ _)
  rw [hs]
  obtain ⟨p, hp⟩ : ∃ p : Nat, last = f.leastPlace + p := ⟨(last - f.leastPlace).toNat, by omega⟩
  rw [show (last - f.leastPlace).toNat = p by omega]
  rcases Nat.lt_trichotomy p q with hpq | rfl | hpq
  · have h1 := hk2 (by omega)
    have h2 : (p + 1) * f.binade ≤ q * f.binade := Nat.mul_le_mul_right _ hpq
    rw [Nat.succ_mul] at h2
    omega
  · have := cutb k (by rw [hp]; exact h)
    omega
  · exfalso
    have hl3 : last = e + (m.log2 : Int) - f.fractionBits := by omega
    have h1 : qv (2 ^ m.log2) e ≤ qv m e := qv_le_same.2 hlo
    have h2 := Rat.le_trans h1 h
    rw [qv_le] at h2
    have h3 : k * 2 ^ (f.leastPlace + (q : Int) - e).toNat < 2 * f.binade * 2 ^ (f.leastPlace + (q : Int) - e).toNat :=
      Nat.mul_lt_mul_of_pos_right hk (Nat.two_pow_pos _)
    have h4 := Nat.lt_of_le_of_lt h2 h3
    rw [hB, ← Nat.pow_add, ← Nat.pow_succ', ← Nat.pow_add] at h4
    have h5 := (Nat.pow_lt_pow_iff_right (by omega : 1 < 2)).1 h4
    omega

theorem cut_ge {neg : Bool} {n drop C : Nat} (h : C * 2 ^ drop ≤ n) : C ≤ Toward.even.cut neg n drop := by
  unfold Toward.cut
  simp only [Nat.one_shiftLeft]
  by_cases hd : drop ≤ n.log2 + 2
  · rw [Nat.min_eq_left hd]
    have h1 : C ≤ n / 2 ^ drop := (Nat.le_div_iff_mul_le (Nat.two_pow_pos _)).2 h
    omega
  · have hn : n < 2 ^ (n.log2 + 1) := Nat.lt_log2_self
    have h2 : 2 ^ (n.log2 + 1) ≤ 2 ^ drop := Nat.pow_le_pow_right (by omega) (by omega)
    have : C = 0 := by
      cases C with
      | zero => rfl
      | succ c =>
        exfalso
        have h3 : 1 * 2 ^ drop ≤ (c + 1) * 2 ^ drop := Nat.mul_le_mul_right _ (by omega)
        omega
    rw [this]; exact Nat.zero_le _

theorem nrung_ge (f : Format) (neg : Bool) {m : Nat} {e : Int} {R : Nat} (hR : R ≤ f.infRung) (h : rv f R ≤ qv m e) : R ≤ nrung f neg m e := by
  have hs := rung_split f R
  have hk := rk_lt f R
  have hk2 := rk_ge f R
  have hB : f.binade = 2 ^ f.fractionBits := rfl
  unfold rv at h
  unfold nrung
  split
  · subst m
    rw [qv_le] at h
    have : rk f R = 0 := by
      have := Nat.two_pow_pos (f.leastPlace + (rq f R : Int) - e).toNat
      rw [Nat.zero_mul] at h
      have h9 := Nat.mul_eq_zero.1 (Nat.le_zero.1 h)
      omega
    have h0 : rq f R = 0 := by
      cases hq : rq f R with
      | zero => rfl
      | succ c => have := hk2 (by omega); have := binade_pos f; omega
    rw [hs, h0, this]; simp
  rename_i hm
  simp only
  generalize hl : max (e + (m.log2 : Int) - f.fractionBits) f.leastPlace = last
  have hlo : 2 ^ m.log2 ≤ m := Nat.log2_self_le hm
  have hhi : m < 2 ^ (m.log2 + 1) := Nat.lt_log2_self
  have cutb : ∀ C : Nat, qv C last ≤ qv m e → C ≤ Toward.even.cut neg (m <<< (e - last).toNat) (last - e).toNat := by
    intro C hC
    apply cut_ge
    rw [Nat.shiftLeft_eq]
    exact qv_le.1 hC
  refine Nat.le_min.2 ⟨?_, hR⟩
  rw (occs := [1]) [hs]
  generalize rq f R = q at *
  generalize rk f R = k at *
  obtain ⟨p, hp⟩ : ∃ p : Nat, last = f.leastPlace + p := ⟨(last - f.leastPlace).toNat, by omega⟩
  rw [show (last - f.leastPlace).toNat = p by omega]
  rcases Nat.lt_trichotomy p q with hpq | rfl | hpq
  · exfalso
    have h0 := hk2 (by omega)
    have h1 : qv f.binade (f.leastPlace + (q : Int)) ≤ qv k (f.leastPlace + (q : Int)) := qv_le_same.2 h0
    have h2 := Rat.le_trans h1 h
    rw [qv_le] at h2
    have h3 : m * 2 ^ (e - (f.leastPlace + (q : Int))).toNat < 2 ^ (m.log2 + 1) * 2 ^ (e - (f.leastPlace + (q : Int))).toNat :=
      Nat.mul_lt_mul_of_pos_right hhi (Nat.two_pow_pos _)
    have h4 := Nat.lt_of_le_of_lt h2 h3
    rw [hB, ← Nat.pow_add, ← Nat.pow_add] at h4
    have h5 := (Nat.pow_lt_pow_iff_right (by omega : 1 < 2)).1 h4
    omega
  · have := cutb k (by rw [hp]; exact h)
    omega
  · have h6 : f.binade ≤ Toward.even.cut neg (m <<< (e - last).toNat) (last - e).toNat := by
      apply cutb
      have h1 : qv (2 ^ m.log2) e ≤ qv m e := qv_le_same.2 hlo
      refine Rat.le_trans ?_ h1
      rw [qv_le, hB, ← Nat.pow_add, ← Nat.pow_add]
      exact Nat.pow_le_pow_right (by omega) (by omega)
    have h7 : (q + 1) * f.binade ≤ p * f.binade := Nat.mul_le_mul_right _ hpq
    rw [Nat.succ_mul] at h7
    omega

/-- Sign and rung of a word; its value. -/
def rg (f : Format) (b : Nat) : Nat := b % f.signWeight
def sg (f : Format) (b : Nat) : Bool := b / f.signWeight % 2 == 1
def sv (f : Format) (b : Nat) : Rat := if sg f b then -(rv f (rg f b)) else rv f (rg f b)
/-- The value of a datum that is a number. -/
def dv (s : Bool) (m : Nat) (e : Int) : Rat := if s then -(qv m e) else qv m e

theorem read_fin {f : Format} {b : Nat} (h : rg f b < f.infRung) : f.read b = .number (sg f b) (rk f (rg f b)) (f.leastPlace + (rq f (rg f b) : Nat)) := by
  unfold rg at h
  unfold Format.read rk rq rg sg
  simp only
  split
  · rename_i h1; simp
  · rfl

theorem signWeight_pos (f : Format) : 0 < f.signWeight := Nat.two_pow_pos _
theorem rg_word (f : Format) (s : Bool) {r : Nat} (h : r ≤ f.infRung) : rg f (f.word s r) = r := by
  have := f.infRung_lt
  unfold rg Format.word
  split
  · rw [Nat.add_mod_left, Nat.mod_eq_of_lt (by omega)]
  · rw [Nat.mod_eq_of_lt (by omega)]
theorem sg_word (f : Format) (s : Bool) {r : Nat} (h : r ≤ f.infRung) : sg f (f.word s r) = s := by
  have := f.infRung_lt
  unfold sg Format.word
  cases s
  · simp only [Bool.false_eq_true, if_false]
    rw [Nat.div_eq_of_lt (by omega)]; rfl
  · simp only [if_true]
    rw [Nat.add_div_left _ (signWeight_pos f), Nat.div_eq_of_lt (by omega)]; rfl
theorem nrung_inf (f : Format) (s : Bool) (m : Nat) (e : Int) : nrung f s m e ≤ f.infRung := by
  unfold nrung
  split
  · omega
  · exact Nat.min_le_right _ _

theorem qv_nonneg (m : Nat) (e : Int) : 0 ≤ qv m e := Rat.mul_nonneg (Rat.natCast_nonneg) (Rat.le_of_lt (two_pos e))
theorem rv_nonneg (f : Format) (r : Nat) : 0 ≤ rv f r := qv_nonneg _ _
theorem rv_zero (f : Format) : rv f 0 = 0 := by
  unfold rv rk
  rw [if_pos (binade_pos f)]
  unfold qv; simp

/-- What is written, of a number. -/
theorem write_sg (f : Format) (s : Bool) (m : Nat) (e : Int) : sg f (f.write (.number s m e)) = s := by
  show sg f (f.nearest s m e) = s
  rw [nearest_nrung]; exact sg_word f s (nrung_inf f s m e)
theorem write_rg (f : Format) (s : Bool) (m : Nat) (e : Int) : rg f (f.write (.number s m e)) = nrung f s m e := by
  show rg f (f.nearest s m e) = _
  rw [nearest_nrung]; exact rg_word f s (nrung_inf f s m e)

/-- Rungs rise with their values. -/
theorem rv_le_of (f : Format) {a b : Nat} (h : a ≤ b) (hb : b ≤ f.infRung) : rv f a ≤ rv f b := by
  rcases Classical.em (rv f a ≤ rv f b) with h1 | h1
  · exact h1
  · have h2 : rv f b ≤ rv f a := Rat.le_of_lt (Rat.not_le.1 h1)
    -- a rounds to a, from both sides
    have h3 := nrung_le f false (m := rk f b) (e := f.leastPlace + (rq f b : Nat)) (R := a) h2
    have h4 := nrung_ge f false (m := rk f b) (e := f.leastPlace + (rq f b : Nat)) (R := b) hb (Rat.le_refl)
    have : a = b := by omega
    subst this
    exact Rat.le_refl

theorem rv_lt_inf (f : Format) {a b : Nat} (h : a < b) (hb : b ≤ f.infRung) : rv f a < rv f b := by
  rcases Classical.em (rv f a < rv f b) with h1 | h1
  · exact h1
  · have h2 : rv f b ≤ rv f a := Rat.not_lt.1 h1
    have h3 := nrung_le f false (m := rk f b) (e := f.leastPlace + (rq f b : Nat)) (R := a) h2
    have h4 := nrung_ge f false (m := rk f b) (e := f.leastPlace + (rq f b : Nat)) (R := b) hb (Rat.le_refl)
    omega

theorem rv_le_iff (f : Format) {a b : Nat} (ha : a ≤ f.infRung) (hb : b ≤ f.infRung) : rv f a ≤ rv f b ↔ a ≤ b := by
  constructor
  · intro h
    rcases Nat.lt_or_ge b a with h1 | h1
    · exact absurd (rv_lt_inf f h1 ha) (Rat.not_lt.2 h)
    · exact h1
  · intro h; exact rv_le_of f h hb

/-- Rounding, to a rung below infinity: finite, and within the bounds. -/
theorem write_le (f : Format) {s : Bool} {m : Nat} {e : Int} {R : Nat} (h : qv m e ≤ rv f R) :
    rg f (f.write (.number s m e)) ≤ R := by rw [write_rg]; exact nrung_le f s h
theorem write_ge (f : Format) {s : Bool} {m : Nat} {e : Int} {R : Nat} (hR : R ≤ f.infRung) (h : rv f R ≤ qv m e) :
    R ≤ rg f (f.write (.number s m e)) := by rw [write_rg]; exact nrung_ge f s hR h

/-- What a finite word stands for, written in its own format, is the word. -/
theorem write_read {f : Format} {b : Nat} (h : rg f b < f.infRung) (hb : b < 2 ^ f.width) : f.write (f.read b) = b := by
  rw [read_fin h]
  show f.nearest _ _ _ = b
  rw [nearest_nrung]
  have h1 := nrung_le f (sg f b) (m := rk f (rg f b)) (e := f.leastPlace + (rq f (rg f b) : Nat)) (R := rg f b) Rat.le_refl
  have h2 := nrung_ge f (sg f b) (m := rk f (rg f b)) (e := f.leastPlace + (rq f (rg f b) : Nat)) (R := rg f b) (by omega) Rat.le_refl
  rw [Nat.le_antisymm h1 h2]
  have two : 2 ^ f.width = 2 * f.signWeight := by
    unfold Format.width Format.signWeight
    rw [Nat.add_assoc, Nat.add_comm 1, Nat.pow_succ, Nat.mul_comm]
  have hd := Nat.div_add_mod b f.signWeight
  unfold Format.word sg rg
  have hq : b / f.signWeight < 2 := Nat.div_lt_of_lt_mul (by rw [Nat.mul_comm, ← two]; exact hb)
  generalize b / f.signWeight = Q at *
  rcases (show Q = 0 ∨ Q = 1 by omega) with h | h <;> subst h <;> simp <;> omega

theorem dv_sg {f : Format} {b : Nat} (h : rg f b < f.infRung) : ∃ s m e, f.read b = .number s m e ∧ dv s m e = sv f b :=
  ⟨_, _, _, read_fin h, rfl⟩

theorem signed_val (s : Bool) (m : Nat) {i b : Int} (h : b ≤ i) : ((signed s m (i - b).toNat : Int) : Rat) * (2 : Rat) ^ b = dv s m i := by
  have h1 := qv_shift m h
  unfold dv signed
  rw [Nat.shiftLeft_eq, h1]
  unfold qv
  split
  · rw [Rat.intCast_neg, Rat.neg_mul, Rat.intCast_natCast]
  · rw [Rat.intCast_natCast]

theorem sum_val (s : Bool) (m : Nat) (i : Int) (t : Bool) (n : Nat) (j : Int) :
    ∃ s' m' e', (Datum.number s m i).sum (.number t n j) = some (.number s' m' e') ∧ dv s' m' e' = dv s m i + dv t n j := by
  refine ⟨_, _, _, rfl, ?_⟩
  rw [← signed_val s m (i := i) (b := min i j) (by omega), ← signed_val t n (i := j) (b := min i j) (by omega), ← Rat.add_mul, ← Rat.intCast_add]
  generalize signed s m (i - min i j).toNat + signed t n (j - min i j).toNat = T
  unfold dv qv
  by_cases hT : T = 0
  · subst hT
    simp
  · simp only [if_neg hT, decide_eq_true_eq]
    split
    · rename_i h
      rw [← Rat.intCast_natCast, ← Rat.neg_mul, ← Rat.intCast_neg]
      congr 2; omega
    · rename_i h
      rw [← Rat.intCast_natCast]
      congr 2; omega

theorem qv_mul (m n : Nat) (i j : Int) : qv (m * n) (i + j) = qv m i * qv n j := by
  unfold qv
  rw [Rat.natCast_mul, Rat.zpow_add two_ne]
  grind

theorem product_val (s : Bool) (m : Nat) (i : Int) (t : Bool) (n : Nat) (j : Int) :
    ∃ s' m' e', (Datum.number s m i).product (.number t n j) = some (.number s' m' e') ∧ dv s' m' e' = dv s m i * dv t n j := by
  refine ⟨_, _, _, rfl, ?_⟩
  unfold dv
  rw [qv_mul]
  cases s <;> cases t <;> simp <;> grind

theorem qv_abs {s : Bool} {m : Nat} {e : Int} {c : Rat} (h1 : dv s m e ≤ c) (h2 : -c ≤ dv s m e) : qv m e ≤ c := by
  unfold dv at *
  split at h1 <;> grind

/-- ROUNDING A NUMBER: it stays within bounds that the format has. -/
theorem write_in (f : Format) {s : Bool} {m : Nat} {e : Int} {R : Nat} (hR : R < f.infRung) (h1 : dv s m e ≤ rv f R) (h2 : -(rv f R) ≤ dv s m e) :
    rg f (f.write (.number s m e)) < f.infRung ∧ sv f (f.write (.number s m e)) ≤ rv f R ∧ -(rv f R) ≤ sv f (f.write (.number s m e)) := by
  have h3 := write_le f (s := s) (qv_abs h1 h2)
  have h4 := rv_le_of f h3 (by omega)
  refine ⟨by omega, ?_⟩
  unfold sv
  have := rv_nonneg f (rg f (f.write (.number s m e)))
  have := rv_nonneg f R
  split <;> constructor <;> grind

theorem opposite_val {f : Format} {b : Nat} (h : rg f b < f.infRung) : ∃ s m e, (f.read b).opposite = .number s m e ∧ dv s m e = -(sv f b) := by
  rw [read_fin h]
  refine ⟨_, _, _, rfl, ?_⟩
  unfold dv sv rv
  cases sg f b <;> simp

theorem nrung_zero_of (f : Format) (s : Bool) {m : Nat} {e : Int} (h : qv m e ≤ 0) : nrung f s m e = 0 := by
  have := nrung_le f s (R := 0) (m := m) (e := e) (by rw [rv_zero]; exact h)
  omega
theorem write_nonneg (f : Format) {s : Bool} {m : Nat} {e : Int} (h : 0 ≤ dv s m e) : 0 ≤ sv f (f.write (.number s m e)) := by
  unfold sv
  rw [write_rg, write_sg]
  unfold dv at h
  cases s
  · simp; exact rv_nonneg _ _
  · simp only [if_true] at h ⊢
    rw [nrung_zero_of f true (by grind), rv_zero]; decide
theorem write_above (f : Format) {s : Bool} {m : Nat} {e : Int} {R : Nat} (hR : R ≤ f.infRung) (h0 : 0 < R) (h : rv f R ≤ dv s m e) : rv f R ≤ sv f (f.write (.number s m e)) := by
  have hp : 0 < rv f R := by rw [← rv_zero f]; exact rv_lt_inf f h0 hR
  unfold dv at h
  cases s
  · simp only [Bool.false_eq_true, if_false] at h
    have h1 := write_ge f (s := false) hR h
    unfold sv
    rw [write_sg]
    simp only [Bool.false_eq_true, if_false]
    exact rv_le_of f h1 (by rw [write_rg]; exact nrung_inf _ _ _ _)
  · have := qv_nonneg m e
    simp only [if_true] at h
    grind

/-- What a rounded answer keeps of the exact one 'v'. -/
structure Near (f : Format) (v : Rat) (r : Nat) : Prop where
  bound : ∀ R, R < f.infRung → v ≤ rv f R → -(rv f R) ≤ v → rg f r < f.infRung ∧ sv f r ≤ rv f R ∧ -(rv f R) ≤ sv f r
  nonneg : 0 ≤ v → 0 ≤ sv f r
  above : ∀ R, R ≤ f.infRung → 0 < R → rv f R ≤ v → rv f R ≤ sv f r

theorem near_write (f : Format) {s : Bool} {m : Nat} {e : Int} {v : Rat} (h : dv s m e = v) : Near f v (f.write (.number s m e)) := by
  subst h
  exact ⟨fun R hR h1 h2 => write_in f hR h1 h2, fun h => write_nonneg f h, fun R hR h0 h => write_above f hR h0 h⟩

def Fin (f : Format) (b : Nat) : Prop := rg f b < f.infRung

theorem add_near {f : Format} {x y : Nat} (hx : Fin f x) (hy : Fin f y) : ∃ r, f.add x y = some r ∧ Near f (sv f x + sv f y) r := by
  obtain ⟨s, m, i, e1, v1⟩ := dv_sg hx
  obtain ⟨t, n, j, e2, v2⟩ := dv_sg hy
  obtain ⟨s', m', e', h, hv⟩ := sum_val s m i t n j
  refine ⟨_, by unfold Format.add; rw [e1, e2, h]; rfl, near_write f (by rw [hv, v1, v2])⟩
theorem sub_near {f : Format} {x y : Nat} (hx : Fin f x) (hy : Fin f y) : ∃ r, f.sub x y = some r ∧ Near f (sv f x - sv f y) r := by
  obtain ⟨s, m, i, e1, v1⟩ := dv_sg hx
  obtain ⟨t, n, j, e2, v2⟩ := opposite_val hy
  obtain ⟨s', m', e', h, hv⟩ := sum_val s m i t n j
  refine ⟨_, by unfold Format.sub; rw [e1, e2, h]; rfl, near_write f (by rw [hv, v1, v2, Rat.sub_eq_add_neg])⟩
theorem mul_near {f : Format} {x y : Nat} (hx : Fin f x) (hy : Fin f y) : ∃ r, f.mul x y = some r ∧ Near f (sv f x * sv f y) r := by
  obtain ⟨s, m, i, e1, v1⟩ := dv_sg hx
  obtain ⟨t, n, j, e2, v2⟩ := dv_sg hy
  obtain ⟨s', m', e', h, hv⟩ := product_val s m i t n j
  refine ⟨_, by unfold Format.mul; rw [e1, e2, h]; rfl, near_write f (by rw [hv, v1, v2])⟩

theorem int_rat_lt {a b : Int} {c : Rat} (hc : 0 < c) : (a : Rat) * c < (b : Rat) * c ↔ a < b := by
  rw [Rat.mul_lt_mul_right hc, Rat.intCast_lt_intCast]

/-- The order of finite floats is that of their values. -/
theorem order_fin {f : Format} {x y : Nat} (hx : Fin f x) (hy : Fin f y) :
    (f.order x y = some .lt ↔ sv f x < sv f y) ∧ (f.order x y = some .eq ↔ sv f x = sv f y) ∧ (f.order x y = some .gt ↔ sv f y < sv f x) := by
  obtain ⟨s, m, i, e1, v1⟩ := dv_sg hx
  obtain ⟨t, n, j, e2, v2⟩ := dv_sg hy
  unfold Format.order
  rw [e1, e2]
  simp only [Datum.order, Option.some.injEq]
  rw [← v1, ← v2, ← signed_val s m (i := i) (b := min i j) (by omega), ← signed_val t n (i := j) (b := min i j) (by omega)]
  generalize signed s m (i - min i j).toNat = A
  generalize signed t n (j - min i j).toNat = B
  have hc := two_pos (min i j)
  rw [int_rat_lt hc, int_rat_lt hc, Int.compare_eq_lt, Int.compare_eq_eq, Int.compare_eq_gt]
  refine ⟨Iff.rfl, ?_, Iff.rfl⟩
  constructor
  · rintro rfl; rfl
  · intro h
    rcases Int.lt_trichotomy A B with h1 | h1 | h1
    · have := (int_rat_lt hc).2 h1; grind
    · exact h1
    · have := (int_rat_lt hc).2 h1; grind

/-- The rung of a significand and a binade. -/
theorem rv_of (f : Format) {q k : Nat} (h1 : k < 2 * f.binade) (h2 : q = 0 ∨ f.binade ≤ k) : rv f (q * f.binade + k) = qv k (f.leastPlace + q) := by
  have hB := binade_pos f
  unfold rv rk rq
  by_cases h : q * f.binade + k < f.binade
  · have hq : q = 0 := by
      cases q with
      | zero => rfl
      | succ c => rw [Nat.succ_mul] at h; omega
    subst hq
    rw [if_pos h, if_pos h, Nat.zero_mul, Nat.zero_add]
  · rw [if_neg h, if_neg h]
    by_cases hk : f.binade ≤ k
    · have e1 : q * f.binade + k = (q + 1) * f.binade + (k - f.binade) := by rw [Nat.succ_mul]; omega
      rw [e1]
      have e2 : ((q + 1) * f.binade + (k - f.binade)) % f.binade = k - f.binade := by
        rw [Nat.mul_comm, Nat.mul_add_mod, Nat.mod_eq_of_lt (by omega)]
      have e3 : ((q + 1) * f.binade + (k - f.binade)) / f.binade = q + 1 := by
        rw [Nat.mul_comm, Nat.mul_add_div hB, Nat.div_eq_of_lt (by omega), Nat.add_zero]
      rw [e2, e3]
      congr 1
      omega
    · have hq : q = 0 := by omega
      subst hq
      omega

/-- What the format has is written as it is. -/
theorem nrung_exact (f : Format) (s : Bool) {m : Nat} {e : Int} {R : Nat} (hR : R ≤ f.infRung) (h : qv m e = rv f R) : nrung f s m e = R :=
  Nat.le_antisymm (nrung_le f s (by rw [h]; exact Rat.le_refl)) (nrung_ge f s hR (by rw [h]; exact Rat.le_refl))

theorem write_exact {f : Format} {s : Bool} {m : Nat} {e : Int} {R : Nat} (hR : R < f.infRung) (h : qv m e = rv f R) : Fin f (f.write (.number s m e)) ∧ sv f (f.write (.number s m e)) = dv s m e := by
  have h1 := nrung_exact f s (Nat.le_of_lt hR) h
  refine ⟨by unfold Fin; rw [write_rg, h1]; exact hR, ?_⟩
  unfold sv dv
  rw [write_sg, write_rg, h1, h]

theorem single_lp : single.leastPlace = -149 := by decide
theorem double_lp : double.leastPlace = -1074 := by decide
theorem single_inf : single.infRung = 2139095040 := by decide
theorem double_inf : double.infRung = 9218868437227405312 := by decide
theorem single_B : single.binade = 8388608 := by decide
theorem double_B : double.binade = 4503599627370496 := by decide
theorem single_S : single.signWeight = 2147483648 := by decide
theorem double_S : double.signWeight = 9223372036854775808 := by decide

/-- A finite single is written exactly as a double. -/
theorem wide_rung {m : Nat} {e : Int} (h1 : m < 2 ^ 24) (h2 : -149 ≤ e) (h3 : e ≤ 104) : ∃ R, R < double.infRung ∧ qv m e = rv double R := by
  by_cases hm : m = 0
  · subst hm
    refine ⟨0, by decide, ?_⟩
    rw [rv_zero]; unfold qv; simp
  · have hlo : 2 ^ m.log2 ≤ m := Nat.log2_self_le hm
    have hhi : m < 2 ^ (m.log2 + 1) := Nat.lt_log2_self
    have hL : m.log2 ≤ 23 := by
      have : m.log2 < 24 := (Nat.log2_lt hm).2 h1
      omega
    generalize m.log2 = L at *
    obtain ⟨q, hq⟩ : ∃ q : Nat, e - 52 + L + 1074 = q := ⟨(e - 52 + L + 1074).toNat, by omega⟩
    have k1 : 2 ^ 52 ≤ m * 2 ^ (52 - L) := by
      have : 2 ^ L * 2 ^ (52 - L) ≤ m * 2 ^ (52 - L) := Nat.mul_le_mul_right _ hlo
      rw [← Nat.pow_add, show L + (52 - L) = 52 by omega] at this
      exact this
    have k2 : m * 2 ^ (52 - L) < 2 * 2 ^ 52 := by
      have : m * 2 ^ (52 - L) < 2 ^ (L + 1) * 2 ^ (52 - L) := Nat.mul_lt_mul_of_pos_right hhi (Nat.two_pow_pos _)
      rw [← Nat.pow_add, show L + 1 + (52 - L) = 53 by omega] at this
      exact this
    refine ⟨q * double.binade + m * 2 ^ (52 - L), ?_, ?_⟩
    · rw [double_inf, double_B]
      have : q * 4503599627370496 ≤ 1200 * 4503599627370496 := Nat.mul_le_mul_right _ (by omega)
      omega
    · rw [rv_of double (by rw [double_B]; exact k2) (Or.inr (by rw [double_B]; exact k1)), double_lp]
      rw [qv_shift m (e := e) (b := -1074 + (q : Int)) (by omega)]
      congr 3
      omega

theorem single_place {r : Nat} (h : r < single.infRung) : rk single r < 2 ^ 24 ∧ -149 ≤ single.leastPlace + (rq single r : Int) ∧ single.leastPlace + (rq single r : Int) ≤ 104 := by
  have h1 := rk_lt single r
  rw [single_B] at h1
  rw [single_lp]
  refine ⟨by omega, by omega, ?_⟩
  have h2 : rq single r ≤ 253 := by
    unfold rq
    rw [single_B]
    rw [single_inf] at h
    split
    · omega
    · have : r / 8388608 < 255 := Nat.div_lt_of_lt_mul (by omega)
      omega
  omega

theorem wide_fin {b : Nat} (h : Fin single b) : Fin double (double.write (single.read b)) ∧ sv double (double.write (single.read b)) = sv single b := by
  have h1 := single_place h
  obtain ⟨R, hR, hv⟩ := wide_rung h1.1 h1.2.1 h1.2.2
  rw [read_fin h]
  have := write_exact (s := sg single b) hR hv
  exact ⟨this.1, this.2⟩

/-! ### Conversions -/
def wideC : Option Nat → Option Nat
  | some b => some (double.write (single.read b))
  | none => none
def wres (w : World) (b : Nat) : Nat := if (single.read b).isNaN then nanAt w (.nanConv .f64 b) else double.write (single.read b)
def wdr (b : Nat) : Nat := if (single.read b).isNaN then 1 else 0

theorem inf_of_rung {f : Format} (hf : f.binade ≤ f.infRung) {b : Nat} (h : rg f b = f.infRung) : f.read b = .infinity (sg f b) := by
  unfold rg at h
  unfold Format.read sg
  simp only [h]
  rw [if_neg (by omega), if_neg (by omega)]
  simp

theorem read_cases {f : Format} (hf : f.binade ≤ f.infRung) (b : Nat) : Fin f b ∨ f.read b = .infinity (sg f b) ∨ (f.read b).isNaN = true := by
  unfold Fin
  rcases Nat.lt_trichotomy (rg f b) f.infRung with h | h | h
  · exact Or.inl h
  · exact Or.inr (Or.inl (inf_of_rung hf h))
  · refine Or.inr (Or.inr ?_)
    unfold rg at h
    unfold Format.read
    simp only
    rw [if_neg (by omega), if_neg (by omega), if_neg (by omega)]
    rfl
theorem single_ok : single.binade ≤ single.infRung := by decide
theorem double_ok : double.binade ≤ double.infRung := by decide

theorem fin_nan {f : Format} {b : Nat} (h : Fin f b) : (f.read b).isNaN = false := by rw [read_fin h]; rfl
theorem fin_inf {f : Format} {b : Nat} (h : Fin f b) : (f.read b).isInfinity = false := by rw [read_fin h]; rfl

theorem run_widen {P : Program} (w : World) (src dst : TypeId) (b : Nat) (hs : (P.underlying src).isSome = true) (hd : P.underlying dst = some (.float .f64)) :
    (convert src dst (.float .f32 b)).run P w = .ok (.float .f64 (wres w b)) (w.drewN (wdr b)) := by
  unfold wres wdr
  rcases read_cases single_ok b with h | h | h
  · have hn := fin_nan h
    rw [hn]
    simp only [Bool.false_eq_true, if_false]
    rw [run_convert_float_float w src dst .f32 .f64 b (double.write (single.read b)) hs hd]
    · rfl
    · unfold floatToFloatBits
      rw [if_neg (by decide)]
      have hr := read_fin h
      have hw := (wide_fin h).1
      have hi := fin_inf hw
      show (match single.read b with | .nan _ _ => none | .infinity s => some (double.write (.infinity s)) | .number s m e => if (double.read (double.write (.number s m e))).isInfinity = true then none else some (double.write (.number s m e))) = _
      rw [hr] at hi ⊢
      simp only [hi]
      rfl
  · rw [h]
    simp only [Datum.isNaN, Bool.false_eq_true, if_false]
    rw [run_convert_float_float w src dst .f32 .f64 b (double.write (.infinity (sg single b))) hs hd]
    · rfl
    · unfold floatToFloatBits
      rw [if_neg (by decide)]
      show (match single.read b with | .nan _ _ => none | .infinity s => some (double.write (.infinity s)) | .number s m e => if (double.read (double.write (.number s m e))).isInfinity = true then none else some (double.write (.number s m e))) = _
      rw [h]
  · rw [h]
    simp only [if_true]
    obtain ⟨u, hs'⟩ := Option.isSome_iff_exists.1 hs
    have hd2 : ∃ s t, FloatKind.f32.decode b = .nan s t := by
      show ∃ s t, single.read b = .nan s t
      cases hc : single.read b <;> simp [hc, Datum.isNaN] at h ⊢
    obtain ⟨s, t, hd2⟩ := hd2
    cases u <;> simp [convert, run_underlying hs', run_underlying hd, Conv.floatToFloat, hd2, choose, nanAt, World.drewN] <;> rfl

theorem cls_wres (w : World) (b : Nat) : cls .f64 (wres w b) = wideC (cls .f32 b) := by
  unfold wres
  by_cases h : (single.read b).isNaN = true
  · rw [if_pos h, nanAt_conv]
    rw [cls_none (k := .f32) h]; rfl
  · rw [if_neg h]
    have h' : (single.read b).isNaN = false := by simpa using h
    rw [cls_some (k := .f32) h', cls_some (k := .f64) (read_write_nan double h')]; rfl

/-- Is a finite double too great for a single? -/
def ovf (b : Nat) : Bool := match double.read b with
  | .number s m e => (single.read (single.write (.number s m e))).isInfinity
  | _ => false
def narrowC : Option Nat → Option Nat
  | some b => some (single.write (double.read b))
  | none => none
def nres (w : World) (b : Nat) : Nat :=
  if (double.read b).isNaN then nanAt w (.nanConv .f32 b) else if ovf b then nanAt w (.floatToFloat b) else single.write (double.read b)
def ndr (b : Nat) : Nat := if (double.read b).isNaN then 1 else if ovf b then 1 else 0

theorem run_narrow {P : Program} (w : World) (src dst : TypeId) (b : Nat) (hs : (P.underlying src).isSome = true) (hd : P.underlying dst = some (.float .f32)) :
    (convert src dst (.float .f64 b)).run P w = .ok (.float .f32 (nres w b)) (w.drewN (ndr b)) := by
  unfold nres ndr
  obtain ⟨u, hs'⟩ := Option.isSome_iff_exists.1 hs
  have e0 : FloatKind.f64.decode b = double.read b := rfl
  have e1 : ∀ d, FloatKind.f32.encode d = single.write d := fun _ => rfl
  have e2 : ∀ d, FloatKind.f32.decode d = single.read d := fun _ => rfl
  cases hc : double.read b with
  | nan s t =>
    simp only [Datum.isNaN, if_true]
    cases u <;> simp [convert, run_underlying hs', run_underlying hd, Conv.floatToFloat, e0, hc, choose, nanAt, World.drewN] <;> rfl
  | infinity s =>
    have ho : ovf b = false := by unfold ovf; rw [hc]
    rw [ho]
    simp only [Datum.isNaN, Bool.false_eq_true, if_false]
    cases u <;> simp [convert, run_underlying hs', run_underlying hd, Conv.floatToFloat, e0, e1, hc] <;> rfl
  | number s m e =>
    have ho : ovf b = (single.read (single.write (.number s m e))).isInfinity := by unfold ovf; rw [hc]
    rw [ho]
    simp only [Datum.isNaN, Bool.false_eq_true, if_false]
    cases hi : (single.read (single.write (.number s m e))).isInfinity
    · simp only [Bool.false_eq_true, if_false]
      cases u <;> simp [convert, run_underlying hs', run_underlying hd, Conv.floatToFloat, e0, e1, e2, hc, hi] <;> rfl
    · simp only [if_true]
      cases u <;> simp [convert, run_underlying hs', run_underlying hd, Conv.floatToFloat, e0, e1, e2, hc, hi, choose, nanAt, World.drewN] <;> rfl

theorem cls_nres (w : World) {b : Nat} (ho : ovf b = false) : cls .f32 (nres w b) = narrowC (cls .f64 b) := by
  unfold nres
  by_cases h : (double.read b).isNaN = true
  · rw [if_pos h, nanAt_conv]
    rw [cls_none (k := .f64) h]; rfl
  · rw [if_neg h, ho]
    have h' : (double.read b).isNaN = false := by simpa using h
    simp only [Bool.false_eq_true, if_false]
    rw [cls_some (k := .f64) h', cls_some (k := .f32) (read_write_nan single h')]; rfl

/-- A double within a single's bounds is not too great. -/
theorem ovf_of {b R : Nat} (h : Fin double b) (hR : R < single.infRung) (h1 : sv double b ≤ rv single R) (h2 : -(rv single R) ≤ sv double b) : ovf b = false := by
  have hr := read_fin h
  unfold ovf
  rw [hr]
  simp only
  have h3 := write_in single (s := sg double b) (m := rk double (rg double b)) (e := double.leastPlace + (rq double (rg double b) : Nat)) hR h1 h2
  exact fin_inf h3.1

/-! ### Equality, classes and sameness -/
theorem ord_self {f : Format} {x : Nat} (h : (f.read x).isNaN = false) : f.order x x = some .eq := by
  unfold Format.order
  cases hx : f.read x with
  | number s m e => simp [Datum.order]
  | infinity s => simp [Datum.order]
  | nan s t => rw [hx] at h; cases h
theorem ord_nan {f : Format} {x : Nat} (h : (f.read x).isNaN = true) (y : Nat) : f.order x y = none ∧ f.order y x = none :=
  ⟨order_nan_left h, order_nan_right h⟩

theorem cls_wf {k : FloatKind} {x y : Nat} (h : cls k x = cls k y) : (k.format.read x).isNaN = (k.format.read y).isNaN ∧ ((k.format.read x).isNaN = false → x = y) := by
  unfold cls at h
  split at h <;> split at h
  · exact ⟨by simp_all, by simp_all⟩
  · cases h
  · cases h
  · exact ⟨by simp_all, fun _ => by injection h⟩

/-- The bits by which a number is told. -/
def told (x : Nat) : Nat := (cls .f32 x).getD 2143289344
theorem told_nan {x : Nat} (h : (single.read x).isNaN = true) : told x = 2143289344 := by unfold told; rw [cls_none (k := .f32) h]; rfl
theorem told_num {x : Nat} (h : (single.read x).isNaN = false) : told x = x := by unfold told; rw [cls_some (k := .f32) h]; rfl
end Go.Proofs.YtcnllohpkgmkpaaDoor.Fl
/- The entries of package math that the model stands in for, and arithmetic on floats, as rules of the walk. -/
namespace Go.Proofs.YtcnllohpkgmkpaaDoor
open Go.RowKit

theorem call_f32bits (x : Nat) (w : World) : (callFunc 114 #[.float .f32 x]).run Tryd.prog w = .ok (.value (.int .u32 x)) w := by rw [run_callFunc_extern (e := Extern.MathFloatBits.float32bits) Tryd.func114 (by kernel_rfl) (by kernel_rfl) (by kernel_rfl) (by kernel_rfl)]; rfl
theorem call_f32from (n : Int) (w : World) : (callFunc 120 #[.int .u32 n]).run Tryd.prog w = .ok (.value (.float .f32 n.toNat)) w := by rw [run_callFunc_extern (e := Extern.MathFloatBits.float32frombits) Tryd.func120 (by kernel_rfl) (by kernel_rfl) (by kernel_rfl) (by kernel_rfl)]; rfl
theorem call_f64bits (x : Nat) (w : World) : (callFunc 172 #[.float .f64 x]).run Tryd.prog w = .ok (.value (.int .u64 x)) w := by rw [run_callFunc_extern (e := Extern.MathFloatBits.float64bits) Tryd.func172 (by kernel_rfl) (by kernel_rfl) (by kernel_rfl) (by kernel_rfl)]; rfl
theorem call_f64from (n : Int) (w : World) : (callFunc 171 #[.int .u64 n]).run Tryd.prog w = .ok (.value (.float .f64 n.toNat)) w := by rw [run_callFunc_extern (e := Extern.MathFloatBits.float64frombits) Tryd.func171 (by kernel_rfl) (by kernel_rfl) (by kernel_rfl) (by kernel_rfl)]; rfl

theorem run_add {P : Program} (w : World) (t : TypeId) (k : FloatKind) (x y : Nat) : (binOp .add t (.float k x) (.float k y)).run P w = .ok (.float k (Fl.ares w .add k x y)) (w.drewN (Fl.adr .add k x y)) := Fl.run_arith w .add t k x y (by simp)
theorem run_sub {P : Program} (w : World) (t : TypeId) (k : FloatKind) (x y : Nat) : (binOp .sub t (.float k x) (.float k y)).run P w = .ok (.float k (Fl.ares w .sub k x y)) (w.drewN (Fl.adr .sub k x y)) := Fl.run_arith w .sub t k x y (by simp)
theorem run_mul {P : Program} (w : World) (t : TypeId) (k : FloatKind) (x y : Nat) : (binOp .mul t (.float k x) (.float k y)).run P w = .ok (.float k (Fl.ares w .mul k x y)) (w.drewN (Fl.adr .mul k x y)) := Fl.run_arith w .mul t k x y (by simp)
theorem run_quo {P : Program} (w : World) (t : TypeId) (k : FloatKind) (x y : Nat) : (binOp .quo t (.float k x) (.float k y)).run P w = .ok (.float k (Fl.ares w .quo k x y)) (w.drewN (Fl.adr .quo k x y)) := Fl.run_arith w .quo t k x y (by simp)
end Go.Proofs.YtcnllohpkgmkpaaDoor
/- The digits of a number's bits (plain). -/
namespace Go.Proofs.YtcnllohpkgmkpaaDoor
open Go

def hxB (c : UInt8) : Bool := decide (48 ≤ c.toNat ∧ c.toNat ≤ 57) || decide (97 ≤ c.toNat ∧ c.toNat ≤ 102)
def hxV (c : UInt8) : Nat := if 48 ≤ c.toNat ∧ c.toNat ≤ 57 then c.toNat - 48 else if 97 ≤ c.toNat ∧ c.toNat ≤ 102 then c.toNat - 87 else 0
theorem hxV_le (c : UInt8) : hxV c ≤ 15 := by
  unfold hxV
  split
  · omega
  · split <;> omega
def hxN (S : List UInt8) : Nat := S.foldl (fun a c => 16 * a + hxV c) 0
theorem hxN_take {S : List UInt8} {k : Nat} (h : k < S.length) : hxN (S.take (k + 1)) = 16 * hxN (S.take k) + hxV S[k] := by
  unfold hxN
  rw [List.take_succ_eq_append_getElem h, List.foldl_append]; rfl
theorem hxN_bound (S : List UInt8) : ∀ k, hxN (S.take k) < 16 ^ k
  | 0 => by simp [hxN]
  | k + 1 => by
    have h := hxN_bound S k
    rw [Nat.pow_succ]
    by_cases hk : k < S.length
    · rw [hxN_take hk]
      have := hxV_le S[k]
      omega
    · rw [List.take_of_length_le (by omega)]
      rw [List.take_of_length_le (by omega)] at h
      omega
def hxOk (S : List UInt8) : Bool := decide (S.length = 8) && (S.all hxB && decide (Fl.told (hxN S) = hxN S))
def hxR (S : List UInt8) : Nat := if hxOk S then hxN S else 0
theorem hxR_no {S : List UInt8} (h : hxOk S = false) : hxR S = 0 := by unfold hxR; rw [h]; rfl
theorem hx_len {S : List UInt8} (h : ¬ S.length = 8) : hxOk S = false := by unfold hxOk; rw [decide_eq_false h]; rfl
theorem hx_bad {S : List UInt8} {k : Nat} (hk : k < S.length) (h : hxB S[k] = false) : hxOk S = false := by
  have : S.all hxB = false := by
    rw [Bool.eq_false_iff]
    intro hc
    have := List.all_eq_true.1 hc _ (List.getElem_mem hk)
    rw [h] at this; cases this
  unfold hxOk; rw [this]; simp
theorem hx_told {S : List UInt8} (h : ¬ Fl.told (hxN S) = hxN S) : hxOk S = false := by unfold hxOk; rw [decide_eq_false h]; simp
theorem hx_good {S : List UInt8} (h1 : S.length = 8) (h2 : ∀ k (h : k < S.length), hxB S[k] = true) (h3 : Fl.told (hxN S) = hxN S) : hxOk S = true ∧ hxR S = hxN S := by
  have ha : S.all hxB = true := List.all_eq_true.2 fun x hx => by
    obtain ⟨j, hj, rfl⟩ := List.getElem_of_mem hx
    exact h2 j hj
  have : hxOk S = true := by unfold hxOk; rw [decide_eq_true h1, ha, decide_eq_true h3]; rfl
  exact ⟨this, by unfold hxR; rw [this]; rfl⟩
theorem hxN_8 {S : List UInt8} (h1 : S.length = 8) : hxN S < 4294967296 := by
  have h := hxN_bound S 8
  rw [List.take_of_length_le (by omega)] at h
  have : (16 : Nat) ^ 8 = 4294967296 := by decide
  omega
theorem hxB_digit {c : UInt8} (h : 48 ≤ c.toNat ∧ c.toNat ≤ 57) : hxB c = true ∧ hxV c = c.toNat - 48 := by
  unfold hxB hxV; rw [decide_eq_true h, if_pos h]; exact ⟨rfl, rfl⟩
theorem hxB_letter {c : UInt8} (h : 97 ≤ c.toNat ∧ c.toNat ≤ 102) : hxB c = true ∧ hxV c = c.toNat - 87 := by
  unfold hxB hxV; rw [decide_eq_true h, if_neg (by omega), if_pos h, Bool.or_true]; exact ⟨rfl, rfl⟩
theorem hxB_other {c : UInt8} (h1 : ¬ (48 ≤ c.toNat ∧ c.toNat ≤ 57)) (h2 : ¬ (97 ≤ c.toNat ∧ c.toNat ≤ 102)) : hxB c = false ∧ hxV c = 0 := by
  unfold hxB hxV; rw [decide_eq_false h1, decide_eq_false h2, if_neg h1, if_neg h2]; exact ⟨rfl, rfl⟩
end Go.Proofs.YtcnllohpkgmkpaaDoor
/- A list of numbers with digits of bits that is read (plain). -/
namespace Go.Proofs.YtcnllohpkgmkpaaDoor
open Go

def rnG (s : ByteArray) : Bool := (List.range (ptY 44 s).length).all fun i => hxOk (ptK s i).data.toList
def rnB (s : ByteArray) : Bool := decide (s = noneS) || (decide ((ptY 44 s).length ≤ 256) && rnG s)
/-- The first k numbers. -/
def rnK (s : ByteArray) (k : Nat) : List Nat := (List.range k).map fun i => hxR (ptK s i).data.toList
def rnL (s : ByteArray) : List Nat := if s = noneS then [] else if rnB s then rnK s (ptY 44 s).length else []
theorem rnK_len (s : ByteArray) (k : Nat) : (rnK s k).length = k := by simp [rnK]
theorem rnK_succ (s : ByteArray) (k : Nat) : rnK s (k + 1) = rnK s k ++ [hxR (ptK s k).data.toList] := by simp [rnK, List.range_succ]
theorem rn_none {s : ByteArray} (h : s = noneS) : rnB s = true ∧ rnL s = [] := by
  unfold rnB rnL
  rw [if_pos h, decide_eq_true h]
  exact ⟨rfl, rfl⟩
theorem rn_no {s : ByteArray} (h : s ≠ noneS) (h2 : rnB s = false) : rnL s = [] := by
  unfold rnL
  rw [if_neg h, h2]; rfl
theorem rn_long {s : ByteArray} (h : s ≠ noneS) (h2 : 256 < (ptY 44 s).length) : rnB s = false ∧ rnL s = [] := by
  have : rnB s = false := by unfold rnB; rw [decide_eq_false h, decide_eq_false (by omega)]; rfl
  exact ⟨this, rn_no h this⟩
theorem rn_bad {s : ByteArray} {k : Nat} (h : s ≠ noneS) (hk : k < (ptY 44 s).length) (h2 : hxOk (ptK s k).data.toList = false) : rnB s = false ∧ rnL s = [] := by
  have hg : rnG s = false := by
    rw [Bool.eq_false_iff]
    intro hc
    unfold rnG at hc
    have := List.all_eq_true.1 hc k (List.mem_range.2 hk)
    rw [h2] at this; cases this
  have : rnB s = false := by unfold rnB; rw [decide_eq_false h, hg, Bool.and_false]; rfl
  exact ⟨this, rn_no h this⟩
theorem rn_good {s : ByteArray} (h : s ≠ noneS) (hl : (ptY 44 s).length ≤ 256) (h2 : ∀ k, k < (ptY 44 s).length → hxOk (ptK s k).data.toList = true) : rnB s = true ∧ rnL s = rnK s (ptY 44 s).length := by
  have hg : rnG s = true := by
    unfold rnG
    rw [List.all_eq_true]
    intro k hk
    exact h2 k (List.mem_range.1 hk)
  have : rnB s = true := by unfold rnB; rw [hg, decide_eq_true hl, Bool.and_true, Bool.or_true]
  refine ⟨this, ?_⟩
  unfold rnL
  rw [if_neg h, this]; rfl
theorem rnL_len (s : ByteArray) : (rnL s).length ≤ 256 := by
  by_cases h : s = noneS
  · rw [(rn_none h).2]; simp
  · cases hb : rnB s with
    | false => rw [rn_no h hb]; simp
    | true =>
      have hl : (ptY 44 s).length ≤ 256 := by
        unfold rnB at hb
        rw [decide_eq_false h, Bool.false_or, Bool.and_eq_true] at hb
        exact of_decide_eq_true hb.1
      unfold rnL
      rw [if_neg h, hb, if_pos rfl, rnK_len]
      exact hl
end Go.Proofs.YtcnllohpkgmkpaaDoor
/- Sizes, sets of numbers, gains: what they are (plain). -/
namespace Go.Proofs.YtcnllohpkgmkpaaDoor

theorem rngAll {p : Nat → Bool} {n : Nat} (h : ∀ i, i < n → p i = true) : (List.range n).all p = true := by
  rw [List.all_eq_true]
  intro x hx
  exact h x (List.mem_range.1 hx)
theorem rngNot {p : Nat → Bool} {n i : Nat} (hi : i < n) (h : p i = false) : (List.range n).all p = false := by
  rw [Bool.eq_false_iff]
  intro hc
  have := List.all_eq_true.1 hc i (List.mem_range.2 hi)
  rw [h] at this; cases this
theorem rngAt {p : Nat → Bool} {n i : Nat} (hc : (List.range n).all p = true) (hi : i < n) : p i = true := List.all_eq_true.1 hc i (List.mem_range.2 hi)
def inB (n lo hi : Int) : Bool := decide (lo ≤ n) && decide (n ≤ hi)
theorem inB_ok {n lo hi : Int} (h : inB n lo hi = true) : lo ≤ n ∧ n ≤ hi := by unfold inB at h; simpa using h
def allIn (L : List Int) (lo hi : Int) : Bool := (List.range L.length).all fun i => inB (L.getD i 0) lo hi
theorem allIn_at {L : List Int} {lo hi : Int} (h : allIn L lo hi = true) {i : Nat} (hi' : i < L.length) : lo ≤ L.getD i 0 ∧ L.getD i 0 ≤ hi := inB_ok (rngAt h hi')
theorem allIn_no {L : List Int} {lo hi : Int} {i : Nat} (hi' : i < L.length) (h : inB (L.getD i 0) lo hi = false) : allIn L lo hi = false := rngNot hi' h
def fewB (n : Nat) : Bool := decide (1 ≤ (n : Int)) && decide ((n : Int) ≤ 16)
def sizesB (L : List Int) : Bool := allIn L 1 1000 && fewB L.length
structure SizesOk (L : List Int) : Prop where
  a : ∀ i, i < L.length → 1 ≤ L.getD i 0 ∧ L.getD i 0 ≤ 1000
  l1 : 1 ≤ L.length
  l2 : L.length ≤ 16
theorem sizesB_ok {L : List Int} (h : sizesB L = true) : SizesOk L := by
  unfold sizesB fewB at h
  simp only [Bool.and_eq_true, decide_eq_true_eq] at h
  exact ⟨fun i hi => allIn_at h.1 hi, by omega, by omega⟩
def setsB (n : Int) (L : List Int) : Bool := inB n 1 16 && (fewB L.length && allIn L 0 (2 ^ n.toNat - 1))
def canB (S G : List Int) (r : Int) : Bool := sizesB S && (decide ((G.length : Int) = (S.length : Int)) && (inB r 0 1000 && allIn G 0 1000))
structure CanOk (S G : List Int) (r : Int) : Prop where
  s : SizesOk S
  l : G.length = S.length
  r0 : 0 ≤ r
  r1 : r ≤ 1000
  g : ∀ i, i < G.length → 0 ≤ G.getD i 0 ∧ G.getD i 0 ≤ 1000
theorem canB_ok {S G : List Int} {r : Int} (h : canB S G r = true) : CanOk S G r := by
  unfold canB at h
  simp only [Bool.and_eq_true, decide_eq_true_eq] at h
  have hr := inB_ok h.2.2.1
  exact ⟨sizesB_ok h.1, by omega, hr.1, hr.2, fun i hi => allIn_at h.2.2.2 hi⟩
/-- The best gain of the first i things in room r. -/
def bestG (S G : List Int) : Nat → Nat → Int
  | 0, _ => 0
  | i + 1, r => if (S.getD i 0).toNat ≤ r then max (bestG S G i r) (bestG S G i (r - (S.getD i 0).toNat) + G.getD i 0) else bestG S G i r
theorem bestG_in {S G : List Int} (h : ∀ i, i < S.length → 0 ≤ G.getD i 0 ∧ G.getD i 0 ≤ 1000) : ∀ i, i ≤ S.length → ∀ r, 0 ≤ bestG S G i r ∧ bestG S G i r ≤ 1000 * (i : Int)
  | 0, _, r => by simp [bestG]
  | i + 1, hi, r => by
    have ih := bestG_in h i (by omega) r
    have ih2 := bestG_in h i (by omega) (r - (S.getD i 0).toNat)
    have hg := h i (by omega)
    unfold bestG
    split <;> omega
/-- How many sets of the first i things fill r. -/
def fillW (S : List Int) : Nat → Nat → Int
  | 0, r => if r = 0 then 1 else 0
  | i + 1, r => if (S.getD i 0).toNat ≤ r then fillW S i r + fillW S i (r - (S.getD i 0).toNat) else fillW S i r
theorem fillW_in {S : List Int} : ∀ i r, 0 ≤ fillW S i r ∧ fillW S i r ≤ 2 ^ i
  | 0, r => by unfold fillW; split <;> simp
  | i + 1, r => by
    have ih := fillW_in (S := S) i r
    have ih2 := fillW_in (S := S) i (r - (S.getD i 0).toNat)
    have e : (2 : Int) ^ (i + 1) = 2 ^ i + 2 ^ i := by rw [Int.pow_succ]; omega
    unfold fillW
    rw [e]
    split <;> omega
theorem two_le {i : Nat} (h : i ≤ 16) : (2 : Int) ^ i ≤ 65536 := by
  have h1 : 2 ^ i ≤ 2 ^ 16 := Nat.pow_le_pow_right (by omega) h
  have h2 : ((2 ^ i : Nat) : Int) ≤ ((2 ^ 16 : Nat) : Int) := by omega
  simpa using h2
end Go.Proofs.YtcnllohpkgmkpaaDoor
/- The number with a decimal text (plain). -/
namespace Go.Proofs.YtcnllohpkgmkpaaDoor
open Go

theorem pU_app (M : Nat) : ∀ (l1 l2 : List UInt8) (acc : Nat) {v : Nat}, Lib.parseUintM M acc l1 = .ok v → Lib.parseUintM M acc (l1 ++ l2) = Lib.parseUintM M v l2
  | [], l2, acc, v, h => by
    simp only [Lib.parseUintM] at h
    injection h with h
    subst h; rfl
  | c :: r, l2, acc, v, h => by
    simp only [Lib.parseUintM, List.cons_append] at h ⊢
    split at h
    · rename_i h1
      rw [if_pos h1]
      split at h
      · cases h
      · rename_i h2
        rw [if_neg h2]
        split at h
        · cases h
        · rename_i h3
          rw [if_neg h3]
          exact pU_app M r l2 _ h
    · cases h
theorem dig_nat {q : Nat} (h : q < 10) : (UInt8.ofNat (48 + q)).toNat = 48 + q := by
  rw [UInt8.toNat_ofNat', show (2 ^ 8 : Nat) = 256 from rfl]; omega
theorem pU_dec {M : Nat} (u : Nat) (hM : u ≤ M) (hu : u ≤ 1000000000000000000) : Lib.parseUintM M 0 (Lib.decDigits u) = .ok u := by
  induction u using Nat.strongRecOn with
  | _ u ih =>
    by_cases h : u < 10
    · rw [dec_small h]
      simp only [Lib.parseUintM, dig_nat h]
      rw [if_pos (by omega), if_neg (by omega), if_neg (by omega)]
      congr 1; omega
    · rw [dec_big h, pU_app M _ _ 0 (ih (u / 10) (by omega) (by omega) (by omega))]
      have hq : u % 10 < 10 := by omega
      simp only [Lib.parseUintM, dig_nat hq]
      rw [if_pos (by omega), if_neg (by omega), if_neg (by omega)]
      congr 1; omega
theorem dec_digits (u : Nat) : ∀ c ∈ Lib.decDigits u, 48 ≤ c.toNat ∧ c.toNat ≤ 57 := by
  induction u using Nat.strongRecOn with
  | _ u ih =>
    intro c hc
    by_cases h : u < 10
    · rw [dec_small h, List.mem_singleton] at hc
      subst hc
      rw [dig_nat h]; omega
    · rw [dec_big h, List.mem_append, List.mem_singleton] at hc
      rcases hc with hc | hc
      · exact ih (u / 10) (by omega) c hc
      · subst hc
        rw [dig_nat (by omega)]; omega
theorem dec_cons (u : Nat) : ∃ c r, Lib.decDigits u = c :: r := by
  cases h : Lib.decDigits u with
  | nil =>
    exfalso
    rw [Lib.decDigits_eq] at h
    have := Lib.nDigits_pos u
    have h2 := congrArg List.length h
    simp at h2; omega
  | cons c r => exact ⟨c, r, rfl⟩
theorem pU64 (u : Nat) (hu : u ≤ 1000000000000000000) : Lib.parseUintB 64 (Lib.decDigits u) = .ok u := by
  unfold Lib.parseUintB
  obtain ⟨c, r, e⟩ := dec_cons u
  rw [if_neg (by rw [e]; exact fun h => by cases h)]
  exact pU_dec u (by omega) hu
theorem parse_itoa {n : Int} (h : -1000000000000000 ≤ n ∧ n ≤ 1000000000000000) : Lib.parseIntB 64 (Lib.itoa n) = .ok n := by
  have hp := pU64 n.natAbs (by omega)
  by_cases hn : n < 0
  · rw [itoa_neg hn]
    unfold Lib.parseIntB
    have e : (45 : UInt8).toNat = 45 := rfl
    simp only [e]
    rw [if_pos (Or.inr trivial), hp]
    simp only
    have e63 : (2 : Nat) ^ (64 - 1) = 9223372036854775808 := by decide
    rw [e63]
    have hx : ¬ (True ∧ 9223372036854775808 < n.natAbs) := by omega
    have hy : ¬ (¬ True ∧ 9223372036854775808 ≤ n.natAbs) := by simp
    rw [if_neg hy, if_neg hx, if_pos trivial]
    congr 1; omega
  · rw [itoa_pos hn]
    obtain ⟨c, r, e⟩ := dec_cons n.natAbs
    have hc := dec_digits n.natAbs c (by rw [e]; simp)
    rw [e] at hp ⊢
    unfold Lib.parseIntB
    simp only
    rw [if_neg (by omega), hp]
    simp only
    rw [if_neg (by simp; omega), if_neg (by simp; omega), if_neg (by omega)]
    congr 1; omega
/-- The number that the digits of a text spell. -/
def dgF (a : Nat) (c : UInt8) : Nat := if 48 ≤ c.toNat ∧ c.toNat ≤ 57 then 10 * a + (c.toNat - 48) else a
def dgS (S : List UInt8) : Nat := S.foldl dgF 0
def valS (S : List UInt8) : Int := if S.head? = some 45 then -(dgS S : Int) else (dgS S : Int)
def rdB (S : List UInt8) : Bool := decide (1 ≤ S.length ∧ S.length ≤ 17) && (inB (valS S) (-1000000000000000) 1000000000000000 && decide (Lib.itoa (valS S) = S))
def rdN (S : List UInt8) : Int := if rdB S then valS S else 0
theorem dgS_dec (u : Nat) : dgS (Lib.decDigits u) = u := by
  induction u using Nat.strongRecOn with
  | _ u ih =>
    unfold dgS at ih ⊢
    by_cases h : u < 10
    · rw [dec_small h]
      show dgF 0 _ = _
      unfold dgF
      rw [dig_nat h, if_pos (by omega)]; omega
    · rw [dec_big h, List.foldl_append, ih (u / 10) (by omega)]
      show dgF (u / 10) _ = _
      unfold dgF
      rw [dig_nat (by omega), if_pos (by omega)]; omega
theorem valS_itoa {n : Int} : valS (Lib.itoa n) = n := by
  by_cases hn : n < 0
  · rw [itoa_neg hn]
    unfold valS
    rw [if_pos (show (45 :: Lib.decDigits n.natAbs).head? = some 45 from rfl)]
    have : dgS (45 :: Lib.decDigits n.natAbs) = n.natAbs := by
      have h := dgS_dec n.natAbs
      unfold dgS at h ⊢
      rw [List.foldl_cons, show dgF 0 45 = 0 from rfl]
      exact h
    omega
  · rw [itoa_pos hn]
    obtain ⟨c, r, e⟩ := dec_cons n.natAbs
    have hc := dec_digits n.natAbs c (by rw [e]; simp)
    have h := dgS_dec n.natAbs
    unfold valS
    rw [if_neg, h]
    · omega
    · rw [e]
      intro h2
      injection h2 with h2
      subst h2
      have : (45 : UInt8).toNat = 45 := rfl
      omega
theorem nD_le : ∀ (n v : Nat), Lib.nDigits v = n + 1 → 10 ^ n ≤ v ∨ n = 0
  | 0, _, _ => Or.inr rfl
  | n + 1, v, hv => by
    left
    by_cases hs : v < 10
    · rw [Lib.nDigits_small hs] at hv; omega
    · rw [Lib.nDigits_big hs] at hv
      rcases nD_le n (v / 10) (by omega) with h2 | h2
      · rw [Nat.pow_succ]; omega
      · subst h2; simp; omega
theorem dec_len16 {u : Nat} (h : u ≤ 1000000000000000) : 1 ≤ (Lib.decDigits u).length ∧ (Lib.decDigits u).length ≤ 16 := by
  rw [Lib.decDigits_eq, List.length_map, List.length_range]
  refine ⟨Lib.nDigits_pos u, ?_⟩
  rcases Nat.lt_or_ge 16 (Lib.nDigits u) with h1 | h1
  · exfalso
    rcases nD_le (Lib.nDigits u - 1) u (by omega) with h2 | h2
    · have h3 : 10 ^ 16 ≤ 10 ^ (Lib.nDigits u - 1) := Nat.pow_le_pow_right (by omega) (by omega)
      have h5 : (10 : Nat) ^ 16 = 10000000000000000 := by decide
      omega
    · omega
  · exact h1
theorem itoa_len17 {n : Int} (h : -1000000000000000 ≤ n ∧ n ≤ 1000000000000000) : 1 ≤ (Lib.itoa n).length ∧ (Lib.itoa n).length ≤ 17 := by
  have := dec_len16 (u := n.natAbs) (by omega)
  by_cases hn : n < 0
  · rw [itoa_neg hn, List.length_cons]; omega
  · rw [itoa_pos hn]; omega
theorem rdB_itoa {n : Int} (h : inB n (-1000000000000000) 1000000000000000 = true) : rdB (Lib.itoa n) = true ∧ rdN (Lib.itoa n) = n := by
  have h1 : rdB (Lib.itoa n) = true := by
    unfold rdB
    rw [valS_itoa, h, decide_eq_true (itoa_len17 (inB_ok h)), decide_eq_true rfl]; rfl
  exact ⟨h1, by unfold rdN; rw [if_pos h1, valS_itoa]⟩
theorem rdB_parse {S : List UInt8} (h : rdB S = true) : Lib.parseIntB 64 S = .ok (valS S) ∧ inB (valS S) (-1000000000000000) 1000000000000000 = true ∧ Lib.itoa (valS S) = S := by
  unfold rdB at h
  simp only [Bool.and_eq_true, decide_eq_true_eq] at h
  have hp := parse_itoa (inB_ok h.2.1)
  rw [h.2.2] at hp
  exact ⟨hp, h.2.1, h.2.2⟩
theorem rdN_no {S : List UInt8} (h : rdB S = false) : rdN S = 0 := by unfold rdN; rw [h]; rfl
/-- What the program tells of a text that is parsed. -/
theorem rd_ok {S : List UInt8} {n : Int} (h : Lib.parseIntB 64 S = .ok n) (h1 : inB n (-1000000000000000) 1000000000000000 = true) (h2 : Lib.itoa n = S) : rdB S = true ∧ rdN S = n := by
  subst h2; exact rdB_itoa h1
theorem rd_out {S : List UInt8} {n : Int} (h : Lib.parseIntB 64 S = .ok n) (h1 : inB n (-1000000000000000) 1000000000000000 = false) : rdB S = false := by
  rw [Bool.eq_false_iff]
  intro hc
  obtain ⟨a, b, _⟩ := rdB_parse hc
  rw [h] at a
  injection a with a
  rw [← a, h1] at b; cases b
theorem rd_other {S : List UInt8} {n : Int} (h : Lib.parseIntB 64 S = .ok n) (h1 : Lib.itoa n ≠ S) : rdB S = false := by
  rw [Bool.eq_false_iff]
  intro hc
  obtain ⟨a, _, c⟩ := rdB_parse hc
  rw [h] at a
  injection a with a
  rw [← a] at c
  exact h1 c
theorem rd_err {S : List UInt8} (h : ∀ n, Lib.parseIntB 64 S ≠ .ok n) : rdB S = false := by
  rw [Bool.eq_false_iff]
  intro hc
  exact h _ (rdB_parse hc).1
/-- The digits of the first k bytes. -/
theorem dg_take {S : List UInt8} {k : Nat} (h : k < S.length) : dgS (S.take (k + 1)) = dgF (dgS (S.take k)) S[k] := by
  unfold dgS
  rw [List.take_succ_eq_append_getElem h, List.foldl_append]; rfl
theorem dg_bound {S : List UInt8} : ∀ k, dgS (S.take k) < 10 ^ k
  | 0 => by simp [dgS]
  | k + 1 => by
    have ih := dg_bound (S := S) k
    rw [Nat.pow_succ]
    rcases Nat.lt_or_ge k S.length with h | h
    · rw [dg_take h]
      unfold dgF
      split <;> omega
    · rw [List.take_of_length_le (by omega)]
      rw [List.take_of_length_le (by omega)] at ih
      omega
end Go.Proofs.YtcnllohpkgmkpaaDoor
/- sameFloat is true of two doubles of one class. -/
namespace Go.Proofs.YtcnllohpkgmkpaaDoor
open Go.RowKit
attribute [local go_sem] run_quo

theorem eq_self_num {x : Nat} (h : (Ieee.double.read x).isNaN = false) : (FloatKind.f64.format.order x x == some Ordering.eq) = true := by
  show (Ieee.double.order x x == some Ordering.eq) = true
  rw [Fl.ord_self h]; rfl
theorem ne_self_num {x : Nat} (h : (Ieee.double.read x).isNaN = false) : (FloatKind.f64.format.order x x != some Ordering.eq) = false := by
  show (Ieee.double.order x x != some Ordering.eq) = false
  rw [Fl.ord_self h]; rfl
theorem ne_self_nan {x : Nat} (h : (Ieee.double.read x).isNaN = true) : (FloatKind.f64.format.order x x != some Ordering.eq) = true := by
  show (Ieee.double.order x x != some Ordering.eq) = true
  rw [(Fl.ord_nan h x).1]; rfl

theorem ares_some {w : World} {op : BinOp} {k : FloatKind} {x y r : Nat} (h : floatBits op k x y = some r) : Fl.ares w op k x y = r := by unfold Fl.ares; rw [h]

/-- One over a zero is not NaN. -/
theorem one_over_zero {x : Nat} (h : (FloatKind.f64.format.order x 0 == some Ordering.eq) = true) : ∃ r, floatBits .quo .f64 4607182418800017408 x = some r := by
  have h1 : Ieee.double.order x 0 = some Ordering.eq := eq_of_beq h
  have h0 : Fl.Fin Ieee.double 0 := by unfold Fl.Fin; decide
  show ∃ r, Ieee.double.div 4607182418800017408 x = some r
  have hone : Ieee.double.read 4607182418800017408 = .number false 4503599627370496 (-52) := by decide +kernel
  rcases Fl.read_cases Fl.double_ok x with hx | hx | hx
  · have h2 := (Fl.order_fin hx h0).2.1.1 h1
    have hz : Fl.sv Ieee.double 0 = 0 := by
      unfold Fl.sv
      rw [show Fl.sg Ieee.double 0 = false by decide, show Fl.rg Ieee.double 0 = 0 by decide, Fl.rv_zero]; rfl
    rw [hz] at h2
    have h3 : Fl.rg Ieee.double x = 0 := by
      have h4 : Fl.rv Ieee.double (Fl.rg Ieee.double x) ≤ Fl.rv Ieee.double 0 := by
        rw [Fl.rv_zero]; unfold Fl.sv at h2; split at h2 <;> grind
      have := (Fl.rv_le_iff Ieee.double (Nat.le_of_lt hx) (Nat.zero_le _)).1 h4
      omega
    unfold Ieee.Format.div
    rw [hone, Fl.read_fin hx, h3]
    exact ⟨_, rfl⟩
  · unfold Ieee.Format.order at h1
    rw [hx] at h1
    exfalso
    rw [Fl.read_fin h0] at h1
    cases hs : Fl.sg Ieee.double x <;> rw [hs] at h1 <;> simp [Ieee.Datum.order] at h1
  · exfalso
    rw [(Fl.ord_nan hx 0).1] at h1; cases h1

set_option maxHeartbeats 400000 in
theorem same_num (a : Nat) (hn : (Ieee.double.read a).isNaN = false) (w : World) :
    Calls Tryd.prog 52 #[.float .f64 a, .float .f64 a] w fun e w' => e = .returned (.bool true) ∧ ∃ n, w' = w.drewN n := by
  have h1 := ne_self_num hn
  have h2 := eq_self_num hn
  clear hn
  cases hz : (FloatKind.f64.format.order a 0 == some Ordering.eq) with
  | true =>
    obtain ⟨r, hr⟩ := one_over_zero hz
    have hq : ∀ w : World, Fl.ares w .quo .f64 4607182418800017408 a = r := fun w => ares_some hr
    clear hr
    go_enter Tryd.func52, Tryd.ntmps52
    go_wp2
    go_ret
    exact ⟨by simp, _, rfl⟩
  | false =>
    go_enter Tryd.func52, Tryd.ntmps52
    go_wp2
    go_ret
    exact ⟨rfl, 0, rfl⟩
theorem same_nan (a b : Nat) (ha : (Ieee.double.read a).isNaN = true) (hb : (Ieee.double.read b).isNaN = true) (w : World) :
    Calls Tryd.prog 52 #[.float .f64 a, .float .f64 b] w fun e w' => e = .returned (.bool true) ∧ ∃ n, w' = w.drewN n := by
  have h1 := ne_self_nan ha
  have h2 := ne_self_nan hb
  clear ha hb
  go_enter Tryd.func52, Tryd.ntmps52
  go_wp2
  go_ret
  exact ⟨rfl, 0, rfl⟩
theorem same_any (a b : Nat) (h : Fl.cls .f64 a = Fl.cls .f64 b) (w : World) :
    Calls Tryd.prog 52 #[.float .f64 a, .float .f64 b] w fun e w' => e = .returned (.bool true) ∧ ∃ n, w' = w.drewN n := by
  obtain ⟨h1, h2⟩ := Fl.cls_wf h
  cases hn : (Ieee.double.read a).isNaN with
  | true => exact same_nan a b hn (by rw [← hn]; exact h1.symm) w
  | false =>
    obtain rfl := h2 hn
    exact same_num a hn w
end Go.Proofs.YtcnllohpkgmkpaaDoor
/- Slices of singles: how they read, and a copy of one. -/
namespace Go.Proofs.YtcnllohpkgmkpaaDoor
open Go.RowKit Go.ChangeShapes Go.WideShapes

theorem run_store_float (P : Program) (w : World) (a : Addr) (m : Mode) (k : FloatKind) (b : Nat) : (store a (.float k b) m).run P w = stored P w a (.float k b) m := run_store P w a _ m rfl
attribute [local go_sem] run_store_float

/-- A slice value that reads as the singles Z. -/
def SL (w : World) (v : Value) (Z : List Nat) : Prop :=
  (Z = [] ∧ ∃ ao cap, v = .slice ao 0 cap) ∨
  (∃ b off cap, v = .slice (some ⟨b, off, none⟩) Z.length (Z.length + cap) ∧ 0 < Z.length ∧ b < w.heap.size ∧ ∀ i, i < Z.length → w.cell? ⟨b, off + i, none⟩ = some (.float .f32 (Z.getD i 0)))

theorem SL.below {w w' : World} {v : Value} {Z : List Nat} (h : SL w v Z) {B : Nat} (hb : Below B w w') (hB : w.heap.size ≤ B) : SL w' v Z := by
  rcases h with h | ⟨b, off, cap, h1, h2, h3, h4⟩
  · exact Or.inl h
  · exact Or.inr ⟨b, off, cap, h1, h2, Nat.lt_of_lt_of_le h3 (by have := hb.size; exact this), fun i hi => by rw [hb.cell (p := ⟨b, off + i, none⟩) (by show b < B; omega)]; exact h4 i hi⟩

theorem cell_lt {w : World} {b o : Nat} {v : Value} (h : w.cell? (Addr.add ⟨b, o, none⟩ 0) = some v) : b < w.heap.size := by
  rcases Nat.lt_or_ge b w.heap.size with h1 | h1
  · exact h1
  · exfalso
    have hn : w.heap[b]? = none := by simp [h1]
    simp [Addr.add, World.cell?, hn] at h

/-- .. out of an argument's reading. -/
theorem open_f32s_len {H : Type} {enc : TypeId × Value → H} {P : Program} {w : World} {t e : TypeId} {v : Value} {d : DataW H} {ps : List MemPlace} {b0 : Nat}
    (ht : P.underlying t = some (.slice e)) (he : P.underlying e = some (.float .f32)) (hc : P.cellsOf e = 1) (hval : Value.okWide P w .any b0 t v)
    (hd : DataW.Trod enc P w 0 (fun _ => true) true t v d ps)   : ∃ Z : List Nat, SL w v Z ∧ Z.length ≤ maxLen := by
  obtain ⟨a0, len, cap, rfl⟩ := okWide_slice ht hval
  obtain ⟨fuel, hf⟩ := hd
  rcases Deep.open_slice1 ht hc hf with ⟨hcs, hx⟩ | ⟨a, len', cap', m, n, V, D, Pl, hcs, _, hl, hm, hmm, hx, hV⟩
  · simp [Value.cells] at hcs
    obtain ⟨rfl, rfl, rfl⟩ := hcs
    exact ⟨[], Or.inl ⟨rfl, none, 0, rfl⟩, Nat.zero_le _⟩
  · simp [Value.cells] at hcs
    obtain ⟨rfl, rfl, rfl⟩ := hcs
    simp only [if_true] at hmm
    subst hmm
    have hcell : ∀ i, i < m → ∃ z, V i = .float .f32 z := by
      intro i hi
      obtain ⟨_, h2⟩ := hV i hi
      cases n with
      | zero => simp [DataW.trod] at h2
      | succ n =>
        simp only [DataW.trod, he] at h2
        cases hvi : V i with
        | float k b =>
          rw [hvi] at h2
          cases k with
          | f32 => exact ⟨b, rfl⟩
          | f64 => simp at h2
        | _ => rw [hvi] at h2; simp at h2
    obtain ⟨z, hz⟩ := Deep.choose_lt (α := Nat) (p := fun i z => V i = .float .f32 z) hcell
    refine ⟨(List.range len).map z, ?_, by simp; omega⟩
    by_cases h0 : len = 0
    · subst h0
      exact Or.inl ⟨rfl, _, _, rfl⟩
    · right
      obtain ⟨b, off, spot⟩ := a
      have hc0 := (hV 0 (by omega)).1
      have hspot : spot = none := by simpa [Addr.add] using World.cell?_spot hc0
      subst hspot
      refine ⟨b, off, m - len, by simp only [List.length_map, List.length_range]; rw [Nat.add_sub_cancel' hl], by simpa using (by omega : 0 < len), cell_lt hc0, fun i hi => ?_⟩
      have hi' : i < len := by simpa using hi
      have h3 := (hV i (by omega)).1
      rw [Go.WideShapes.add_plain] at h3
      rw [h3, hz i (by omega)]
      simp [List.getD, hi']

theorem Tryd.infoF : (Tryd.prog.info? 70).map (fun i => (i.zero, i.size, i.bytes)) = some (some (.float .f32 0), 1, 4) := by kernel_rfl

/-- A row of the call's own, of which the first k elements are the list's. -/
def Own (g : Nat) (Z : List Nat) (k : Nat) (w : World) : Prop :=
  ∃ xs : List Value, w.ownsRow g 70 1 (.slice (some ⟨g, 0, none⟩) Z.length Z.length) Z.length xs ∧ ∀ i, i < k → xs[i]? = some (.float .f32 (Z.getD i 0))
theorem Own.len {g : Nat} {Z : List Nat} {xs : List Value} {w : World} (h : w.ownsRow g 70 1 (.slice (some ⟨g, 0, none⟩) Z.length Z.length) Z.length xs) : xs.length = Z.length := by have := h.1; omega
theorem Own.cell {g : Nat} {Z : List Nat} {k : Nat} {w : World} (h : Own g Z k w) {i : Nat} (hi : i < Z.length) : ∃ v, w.cell? ⟨g, i, none⟩ = some v := by
  obtain ⟨xs, h1, _⟩ := h
  refine ⟨xs[i]'(by rw [Own.len h1]; exact hi), ?_⟩
  rw [h1.cellAt i (by omega)]
  exact List.getElem?_eq_getElem _
theorem Own.free {g : Nat} {Z : List Nat} {k : Nat} {w : World} (h : Own g Z k w) (i : Nat) : w.frozen? ⟨g, i, none⟩ = false := by
  obtain ⟨xs, h1, _⟩ := h
  exact h1.frozenAt i
theorem Own.step {g : Nat} {Z : List Nat} {k : Nat} {w : World} (h : Own g Z k w) (hk : k < Z.length) : Own g Z (k + 1) (w.setCell ⟨g, k, none⟩ (.float .f32 (Z.getD k 0))) := by
  obtain ⟨xs, h1, h2⟩ := h
  refine ⟨xs.set k _, (h1.stored k _).1, fun i hi => ?_⟩
  by_cases e : i = k
  · subst e
    rw [List.getElem?_set_self (by rw [Own.len h1]; exact hk)]
  · rw [List.getElem?_set_ne (fun h => e h.symm)]
    exact h2 i (by omega)
theorem Own.block {g : Nat} {Z : List Nat} {k : Nat} {w : World} (h : Own g Z k w) : g < w.heap.size := by
  obtain ⟨xs, h1, _⟩ := h
  rcases h1.2 with ⟨h', _⟩ | ⟨g', cap', cur, h', hb, hg, _⟩
  · simp at h'
  · simp only [Value.slice.injEq, Option.some.injEq, Addr.mk.injEq, and_true, true_and] at h'
    obtain ⟨rfl, rfl⟩ := h'
    rcases Nat.lt_or_ge g w.heap.size with h5 | h5
    · exact h5
    · rw [Array.getElem?_eq_none h5] at hg; cases hg
theorem Own.reads {g : Nat} {Z : List Nat} {w : World} (h : Own g Z Z.length w) : SL w (.slice (some ⟨g, 0, none⟩) Z.length Z.length) Z := by
  by_cases h0 : Z.length = 0
  · have : Z = [] := List.eq_nil_of_length_eq_zero h0
    subst this
    exact Or.inl ⟨rfl, _, _, rfl⟩
  · refine Or.inr ⟨g, 0, 0, rfl, by omega, h.block, fun i hi => ?_⟩
    obtain ⟨xs, h1, h2⟩ := h
    rw [Nat.zero_add, h1.cellAt i (by omega)]
    exact h2 i hi

def Copied (Z : List Nat) (w : World) (e : Ending) (w' : World) : Prop := ∃ v, e = .returned v ∧ SL w' v Z ∧ Below w.heap.size w w'

theorem getD_at {Z : List Nat} {k : Nat} (h : k < Z.length) : Z.getD k 0 = Z[k] := by simp [List.getD, h]
def Copying (w : World) (Z : List Nat) (k : Nat) (wr : World) : Prop := Own w.heap.size Z k wr ∧ Below w.heap.size w wr
set_option maxHeartbeats 400000 in
theorem toF32_zero (ao : Option Addr) (cap : Nat) (w : World) :
    Calls Tryd.prog 16 #[.slice ao 0 cap] w (Copied [] w) := by
  obtain ⟨i0, hi, hz0, hz1, hz2⟩ := info_parts Tryd.infoF
  go_enter Tryd.func16, Tryd.ntmps16
  go_wp2_with (at_make; refine wpList_make_full _ rfl _ _ 28 rfl w.heap.size 70 i0 (.float .f32 0) 1 Tryd.underlying28 hi hz0 hz1 _ _ _ _ 0 rfl rfl rfl rfl (by omega) (by unfold maxLen; omega) (Nat.le_refl _) ?_; intro w1 hown hgrow)
  have hb : Below w.heap.size w w1 := (Below.refl _ _).grown hgrow (Nat.le_refl _) (fun g hg => by cases hg)
  have HB := Lib.hid hb
  clear hb hown hgrow
  refine wp_loop_rounds 1 ?_
  rw [rounds_succ]
  go_wp2
  refine bodyPost_ret (results_tmp rfl _ _ _) rfl ?_
  exact ⟨_, rfl, Or.inl ⟨rfl, _, _, rfl⟩, HB.out⟩
set_option maxHeartbeats 400000 in
theorem toF32_any (v : Value) (Z : List Nat) (w : World) (hv : SL w v Z) (hn : Z.length ≤ 1048576) :
    Calls Tryd.prog 16 #[v] w (Copied Z w) := by
  obtain ⟨i0, hi, hz0, hz1, hz2⟩ := info_parts Tryd.infoF
  rcases hv with ⟨rfl, ao, cap, rfl⟩ | ⟨b, off, cap, rfl, hpos, hbl, hcell⟩
  · exact toF32_zero ao cap w
  · go_enter Tryd.func16, Tryd.ntmps16
    go_wp2_with (at_make; refine wpList_make_full _ rfl _ _ 28 rfl w.heap.size 70 i0 (.float .f32 0) 1 Tryd.underlying28 hi hz0 hz1 _ _ _ _ Z.length rfl rfl rfl rfl (by rw [hz2]; omega) (by unfold maxLen; omega) (Nat.le_refl _) ?_; intro w1 hown hgrow)
    have h0 : Copying w Z 0 w1 := ⟨⟨_, hown, fun i hi => by omega⟩, (Below.refl _ _).grown hgrow (Nat.le_refl _) (fun g hg => by cases hg)⟩
    clear hown hgrow
    go_loopw [4] (fun i wr => ∃ k : Nat, k ≤ Z.length ∧ i = .int .i64 k ∧ Copying w Z k wr) (fun i _ => Z.length - (intOf i).toNat)
    case atStart => exact ⟨0, Nat.zero_le _, rfl, h0⟩
    case round =>
      clear h0
      obtain ⟨k, hk, rfl, hO, hnx⟩ := hrel
      by_cases hlt : k < Z.length
      · have hc1 : wr.cell? ⟨b, off + k, none⟩ = some (.float .f32 (Z.getD k 0)) := by rw [hnx.cell (p := ⟨b, off + k, none⟩) hbl]; exact hcell k hlt
        obtain ⟨v0, hv0⟩ := hO.cell hlt
        have hfz := hO.free k
        have hO2 := Lib.hid (hO.step hlt)
        have hnx2 := Lib.hid (fun u => hnx.setCell (p := ⟨w.heap.size, k, none⟩) (Nat.le_refl _) u)
        clear hO hnx
        go_wp2
        go_roundw
        case rel => exact ⟨k + 1, by omega, by go_num, by have h := hO2.out; rw [getD_at hlt] at h; exact h, hnx2.out _⟩
        case measure => simp [intOf]; omega
      · obtain rfl : k = Z.length := by omega
        have hr := Lib.hid hO.reads
        have hb := Lib.hid hnx
        clear hO hnx
        go_wp2
        refine bodyPost_ret (results_tmp rfl _ _ _) rfl ?_
        exact ⟨_, rfl, hr.out, hb.out⟩
end Go.Proofs.YtcnllohpkgmkpaaDoor
/- eqFloat32S is true of two slices that read as the same singles. -/
namespace Go.Proofs.YtcnllohpkgmkpaaDoor
open Go.RowKit
attribute [local go_sem] Fl.run_widen

set_option maxHeartbeats 2000000 in
theorem eqF32_num (b1 off1 cap1 b2 off2 cap2 : Nat) (Z : List Nat) (w : World) (hn : Z.length ≤ 1048576) (hc1 : ∀ i, i < Z.length → w.cell? ⟨b1, off1 + i, none⟩ = some (.float .f32 (Z.getD i 0))) (hc2 : ∀ i, i < Z.length → w.cell? ⟨b2, off2 + i, none⟩ = some (.float .f32 (Z.getD i 0))) :
    Calls Tryd.prog 18 #[.slice (some ⟨b1, off1, none⟩) Z.length cap1, .slice (some ⟨b2, off2, none⟩) Z.length cap2] w fun e w' => e = .returned (.bool true) ∧ ∃ n, w' = w.drewN n := by
  go_enter Tryd.func18, Tryd.ntmps18
  go_wp2
  go_loopw [5] (fun i wr => ∃ k : Nat, k ≤ Z.length ∧ i = .int .i64 k ∧ ∃ n, wr = w.drewN n) (fun i _ => Z.length - (intOf i).toNat)
  case atStart => exact ⟨0, Nat.zero_le _, rfl, 0, rfl⟩
  case round =>
    obtain ⟨k, hk, rfl, hwr⟩ := hrel
    by_cases hlt : k < Z.length
    · have c1 : wr.cell? ⟨b1, off1 + k, none⟩ = some (.float .f32 (Z.getD k 0)) := by obtain ⟨n, rfl⟩ := hwr; exact hc1 k hlt
      have c2 : wr.cell? ⟨b2, off2 + k, none⟩ = some (.float .f32 (Z.getD k 0)) := by obtain ⟨n, rfl⟩ := hwr; exact hc2 k hlt
      have HW : Hid (∀ m, ∃ n, wr.drewN m = w.drewN n) := Lib.hid (fun m => by obtain ⟨n, rfl⟩ := hwr; exact ⟨n + m, World.drewN_drewN _ _ _⟩)
      clear hc1 hc2 hwr
      rw [getD_at hlt] at c1 c2
      generalize Z[k] = z at c1 c2
      go_wp2
      go_region_with ((go_at_call 52; refine (same_any _ _ (by rw [Fl.cls_wres, Fl.cls_wres]) _).mono ?_; rintro e w' ⟨rfl, n, rfl⟩))
      all_goals
        go_wp2
        go_roundw
        case rel => exact ⟨k + 1, by omega, by go_num, HW.out _⟩
        case measure => simp [intOf]; omega
    · obtain rfl : k = Z.length := by omega
      have HW := Lib.hid hwr
      clear hc1 hc2 hwr
      go_wp2
      go_ret
      exact ⟨rfl, HW.out⟩
theorem eqF32_any (v1 v2 : Value) (Z : List Nat) (w : World) (hn : Z.length ≤ 1048576) (h1 : SL w v1 Z) (h2 : SL w v2 Z) :
    Calls Tryd.prog 18 #[v1, v2] w fun e w' => e = .returned (.bool true) ∧ ∃ n, w' = w.drewN n := by
  rcases h1 with ⟨rfl, ao, cap, rfl⟩ | ⟨b, off, cap, rfl, hpos, hbl, hcell⟩
  · rcases h2 with ⟨_, ao2, cap2, rfl⟩ | ⟨b2, off2, cap2, rfl, hpos2, hbl2, hcell2⟩
    · go_enter Tryd.func18, Tryd.ntmps18
      go_wp2
      refine wp_loop_rounds 1 ?_
      rw [rounds_succ]
      go_wp2
      go_ret
      exact ⟨rfl, 0, rfl⟩
    · exact absurd hpos2 (by simp)
  · rcases h2 with ⟨rfl, ao2, cap2, rfl⟩ | ⟨b2, off2, cap2, rfl, hpos2, hbl2, hcell2⟩
    · exact absurd hpos (by simp)
    · exact eqF32_num _ _ _ _ _ _ Z w hn hcell hcell2
end Go.Proofs.YtcnllohpkgmkpaaDoor
/- Copies of lists of singles, in blocks of their own; marks that are laid into them, and found again. -/
namespace Go.Proofs.YtcnllohpkgmkpaaDoor
open Go.RowKit Go.ChangeShapes Go.WideShapes
attribute [local go_sem] run_store_float

abbrev FI := SI (Value.float .f32) (0 : Nat)
theorem sl_of_vl {w : World} {v : Value} {Z : List Nat} (h : VL (Value.float .f32) (0 : Nat) w v Z) : SL w v Z := h
theorem FI.sl {lo hi : Nat} {w : World} {v : Value} {Z : List Nat} (h : FI lo hi w v Z) : SL w v Z := SI.vl h

theorem Own.si {g : Nat} {Z : List Nat} {w : World} (h : Own g Z Z.length w) : FI g w.heap.size w (.slice (some ⟨g, 0, none⟩) Z.length Z.length) Z := by
  by_cases h0 : Z.length = 0
  · have : Z = [] := List.eq_nil_of_length_eq_zero h0
    subst this
    exact ⟨Nat.le_refl _, Or.inl ⟨rfl, _, _, rfl⟩⟩
  · refine ⟨Nat.le_refl _, Or.inr ⟨g, 0, 0, rfl, by omega, Nat.le_refl _, h.block, h.free, fun i hi => ?_⟩⟩
    obtain ⟨xs, h1, h2⟩ := h
    rw [Nat.zero_add, h1.cellAt i (by omega)]
    exact h2 i hi

set_option maxHeartbeats 400000 in
theorem toF32_nil (ao : Option Addr) (cap : Nat) (w : World) :
    Calls Tryd.prog 16 #[.slice ao 0 cap] w (Made (Value.float .f32) 0 [] w) :=
  (toF32_zero ao cap w).mono fun e w' ⟨v, he, hv, hb⟩ => by
    rcases hv with ⟨_, ao', cap', rfl⟩ | ⟨b, off, cap', rfl, h0, _⟩
    · exact ⟨_, he, SI.nil _ (Nat.le_refl _) _ _, hb⟩
    · exact absurd h0 (by simp)
set_option maxHeartbeats 400000 in
theorem toF32_si (v : Value) (Z : List Nat) (w : World) (hv : SL w v Z) (hn : Z.length ≤ 1048576) :
    Calls Tryd.prog 16 #[v] w (Made (Value.float .f32) 0 Z w) := by
  obtain ⟨i0, hi, hz0, hz1, hz2⟩ := info_parts Tryd.infoF
  rcases hv with ⟨rfl, ao, cap, rfl⟩ | ⟨b, off, cap, rfl, hpos, hbl, hcell⟩
  · exact toF32_nil ao cap w
  · go_enter Tryd.func16, Tryd.ntmps16
    go_wp2_with (at_make; refine wpList_make_full _ rfl _ _ 28 rfl w.heap.size 70 i0 (.float .f32 0) 1 Tryd.underlying28 hi hz0 hz1 _ _ _ _ Z.length rfl rfl rfl rfl (by rw [hz2]; omega) (by unfold maxLen; omega) (Nat.le_refl _) ?_; intro w1 hown hgrow)
    have h0 : Copying w Z 0 w1 := ⟨⟨_, hown, fun i hi => by omega⟩, (Below.refl _ _).grown hgrow (Nat.le_refl _) (fun g hg => by cases hg)⟩
    clear hown hgrow
    go_loopw [4] (fun i wr => ∃ k : Nat, k ≤ Z.length ∧ i = .int .i64 k ∧ Copying w Z k wr) (fun i _ => Z.length - (intOf i).toNat)
    case atStart => exact ⟨0, Nat.zero_le _, rfl, h0⟩
    case round =>
      clear h0
      obtain ⟨k, hk, rfl, hO, hnx⟩ := hrel
      by_cases hlt : k < Z.length
      · have hc1 : wr.cell? ⟨b, off + k, none⟩ = some (.float .f32 (Z.getD k 0)) := by rw [hnx.cell (p := ⟨b, off + k, none⟩) hbl]; exact hcell k hlt
        obtain ⟨v0, hv0⟩ := hO.cell hlt
        have hfz := hO.free k
        have hO2 := Lib.hid (hO.step hlt)
        have hnx2 := Lib.hid (fun u => hnx.setCell (p := ⟨w.heap.size, k, none⟩) (Nat.le_refl _) u)
        clear hO hnx
        go_wp2
        go_roundw
        case rel => exact ⟨k + 1, by omega, by go_num, by have h := hO2.out; rw [getD_at hlt] at h; exact h, hnx2.out _⟩
        case measure => simp [intOf]; omega
      · obtain rfl : k = Z.length := by omega
        have hr := Lib.hid hO.si
        have hb := Lib.hid hnx
        clear hO hnx
        go_wp2
        refine bodyPost_ret (results_tmp rfl _ _ _) rfl ?_
        exact ⟨_, rfl, hr.out, hb.out⟩

/-! ### marks -/
/-- The bits of a whole number as a single. -/
def mkF (n : Int) : Nat := floatOfInt .f32 n
theorem mkF_self (n : Int) : (FloatKind.f32.format.order (mkF n) (mkF n) != some Ordering.eq) = false := by
  have h : (Ieee.single.read (mkF n)).isNaN = false := Fl.read_write_nan Ieee.single (d := .number (n < 0) n.natAbs 0) rfl
  show (Ieee.single.order (mkF n) (mkF n) != some Ordering.eq) = false
  rw [Fl.ord_self h]; rfl
/-- What a list of n holds behind its marks from k on. -/
def marks (k : Int) (n : Nat) : List Nat := (List.range n).map fun i => mkF (k + (i : Nat))
theorem marks_len (k : Int) (n : Nat) : (marks k n).length = n := by simp [marks]
theorem marks_at {k : Int} {n i : Nat} (h : i < n) : (marks k n).getD i 0 = mkF (k + (i : Nat)) := by simp [marks, List.getD, h]

/-- The first j of Z's cells bear marks. -/
structure Marking (b off : Nat) (Z : List Nat) (k : Int) (w : World) (j : Nat) (wr : World) : Prop where
  done : ∀ i, i < j → wr.cell? ⟨b, off + i, none⟩ = some (.float .f32 (mkF (k + (i : Nat))))
  rest : ∀ i, i < Z.length → ∃ u, wr.cell? ⟨b, off + i, none⟩ = some u
  free : ∀ i, wr.frozen? ⟨b, i, none⟩ = false
  turned : Turned b (b + 1) w wr
theorem Marking.step {b off : Nat} {Z : List Nat} {k : Int} {w wr : World} {j : Nat} (h : Marking b off Z k w j wr) (hj : j < Z.length) : Marking b off Z k w (j + 1) (wr.setCell ⟨b, off + j, none⟩ (.float .f32 (mkF (k + (j : Nat))))) := by
  obtain ⟨u, hu⟩ := h.rest j hj
  refine ⟨fun i hi => ?_, fun i hi => ?_, fun i => by rw [World.frozen?_setCell]; exact h.free i, h.turned.setCell (Nat.le_refl _) (Nat.lt_succ_self _) _⟩
  · by_cases e : i = j
    · subst e; exact World.cell?_setCell_same _ _ _ hu
    · rw [World.cell?_setCell_other _ _ _ _ (by intro h; injection h with _ h2 _; omega)]; exact h.done i (by omega)
  · by_cases e : i = j
    · subst e; exact ⟨_, World.cell?_setCell_same _ _ _ hu⟩
    · rw [World.cell?_setCell_other _ _ _ _ (by intro h; injection h with _ h2 _; omega)]; exact h.rest i hi

/-- What marking a list does. -/
def Marked (lo hi : Nat) (v : Value) (k : Int) (n : Nat) (w : World) (e : Ending) (w' : World) : Prop := e = .returned (.int .i64 (k + (n : Nat))) ∧ FI lo hi w' v (marks k n) ∧ Turned lo hi w w'

set_option maxHeartbeats 400000 in
theorem markF32_any (lo hi : Nat) (v : Value) (Z : List Nat) (k : Int) (w : World) (hv : FI lo hi w v Z) (hn : Z.length ≤ 1048576) (hk0 : 0 ≤ k) (hk1 : k ≤ 4194304) :
    Calls Tryd.prog 26 #[v, .int .i64 k] w (Marked lo hi v k Z.length w) := by
  obtain ⟨hhi, ⟨rfl, ao, cap, rfl⟩ | ⟨b, off, cap, rfl, hpos, hlo, hbh, hfz, hcell⟩⟩ := hv
  · go_enter Tryd.func26, Tryd.ntmps26
    go_wp2
    refine wp_loop_rounds 1 ?_
    rw [rounds_succ]
    go_wp2
    go_ret
    exact ⟨by simp, SI.nil _ hhi _ _, Turned.refl _ _ _⟩
  · have h0 : Marking b off Z k w 0 w := ⟨fun i hi => by omega, fun i hi => ⟨_, hcell i hi⟩, hfz, Turned.refl _ _ _⟩
    clear hfz hcell
    go_enter Tryd.func26, Tryd.ntmps26
    go_wp2
    go_loopw [1, 5] (fun kk i wr => ∃ j : Nat, j ≤ Z.length ∧ i = .int .i64 j ∧ kk = .int .i64 (k + (j : Nat)) ∧ Marking b off Z k w j wr) (fun _ i _ => Z.length - (intOf i).toNat)
    case atStart => exact ⟨0, Nat.zero_le _, rfl, by simp, h0⟩
    case round =>
      clear h0
      obtain ⟨j, hj, rfl, rfl, hM⟩ := hrel
      by_cases hlt : j < Z.length
      · obtain ⟨u, hu⟩ := hM.rest j hlt
        have hf := hM.free (off + j)
        have hM2 := Lib.hid (hM.step hlt)
        clear hM
        go_wp2
        go_roundw
        case rel => exact ⟨j + 1, by omega, by go_num, by go_num, hM2.out⟩
        case measure => simp [intOf]; omega
      · obtain rfl : j = Z.length := by omega
        have hM2 := Lib.hid hM
        clear hM
        go_wp2
        go_ret
        have hM := hM2.out
        have ht : Turned lo hi w _ := hM.turned.wide hlo hbh
        exact ⟨rfl, ⟨Nat.le_trans hhi ht.size, Or.inr ⟨b, off, cap, by rw [marks_len], by rw [marks_len]; exact hpos, hlo, hbh, hM.free, fun i hi => by rw [marks_len] at hi; rw [marks_at hi]; exact hM.done i hi⟩⟩, ht⟩

set_option maxHeartbeats 400000 in
theorem heldF32_any (v : Value) (k : Int) (n : Nat) (w : World) (hv : SL w v (marks k n)) (hn : n ≤ 1048576) (hk0 : 0 ≤ k) (hk1 : k ≤ 4194304) :
    Calls Tryd.prog 27 #[v, .int .i64 k] w fun e w' => e = .returned (.int .i64 (k + (n : Nat))) ∧ w = w' := by
  rcases hv with ⟨h0, ao, cap, rfl⟩ | ⟨b, off, cap, rfl, hpos, hbl, hcell⟩
  · have hn0 : n = 0 := by have := marks_len k n; rw [h0] at this; simpa using this.symm
    subst hn0
    clear h0
    go_enter Tryd.func27, Tryd.ntmps27
    go_wp2
    refine wp_loop_rounds 1 ?_
    rw [rounds_succ]
    go_wp2
    go_ret
    exact ⟨by simp, rfl⟩
  · rw [marks_len] at hpos hcell ⊢
    go_enter Tryd.func27, Tryd.ntmps27
    go_wp2
    go_loop [1, 5] (fun kk i => ∃ j : Nat, j ≤ n ∧ i = .int .i64 j ∧ kk = .int .i64 (k + (j : Nat))) (fun _ i => n - (intOf i).toNat)
    case atStart => exact ⟨0, Nat.zero_le _, rfl, by simp⟩
    case round =>
      obtain ⟨j, hj, rfl, rfl⟩ := hrel
      by_cases hlt : j < n
      · have hc1 := hcell j hlt
        rw [marks_at hlt] at hc1
        have hne := mkF_self (k + (j : Nat))
        unfold mkF at hne hc1
        clear hcell
        go_wp2
        go_round
        case rel => exact ⟨j + 1, by omega, by go_num, by go_num⟩
        case measure => simp [intOf]; omega
      · obtain rfl : j = n := by omega
        clear hcell
        go_wp2
        go_ret
        exact ⟨rfl, rfl⟩
end Go.Proofs.YtcnllohpkgmkpaaDoor
/- How long a list of singles is. -/
namespace Go.Proofs.YtcnllohpkgmkpaaDoor
open Go.RowKit Go.ChangeShapes Go.WideShapes

/-! ### szFloat32S -/
theorem szF32_yes (v : Value) (n : Nat) (m : Int) (w : World) (h : ∃ ao cap, v = .slice ao n cap) (hm : (n : Int) ≤ m) (hb : m ≤ 1048576) :
    Calls Tryd.prog 53 #[v, .int .i64 m] w fun e w' => e = .returned (.int .i64 (m - n)) ∧ w = w' := by
  obtain ⟨ao, cap, rfl⟩ := h
  go_enter Tryd.func53, Tryd.ntmps53
  go_wp2
  go_ret
  exact ⟨rfl, rfl⟩
theorem szF32_no (v : Value) (n : Nat) (m : Int) (w : World) (h : ∃ ao cap, v = .slice ao n cap) (hm : m < n) (h0 : 0 ≤ m) (hb : m ≤ 1048576) (hn : n ≤ maxLen) :
    Calls Tryd.prog 53 #[v, .int .i64 m] w fun e w' => e = .returned (.int .i64 (-1)) ∧ w = w' := by
  obtain ⟨ao, cap, rfl⟩ := h
  unfold maxLen at hn
  go_enter Tryd.func53, Tryd.ntmps53
  go_wp2
  go_ret
  exact ⟨rfl, rfl⟩

end Go.Proofs.YtcnllohpkgmkpaaDoor
/- Rows: how they read; their copies; that copies are equal; their marks. -/
namespace Go.Proofs.YtcnllohpkgmkpaaDoor
open Go.RowKit Go.ChangeShapes Go.WideShapes

structure Rw where
  vars : Int
  N : List Nat
  B : List Nat
  G : List Nat
/-- How many numbers rows hold. -/
def Rw.size (R : Rw) : Nat := R.N.length + R.B.length + R.G.length
/-- A value that reads as rows. -/
def RV (w : World) (v : Value) (R : Rw) : Prop := ∃ s1 s2 s3, v = .agg #[.int .i64 R.vars, s1, s2, s3] ∧ SL w s1 R.N ∧ SL w s2 R.B ∧ SL w s3 R.G
/-- .. and lies in blocks from lo on, below hi. -/
def RI (lo hi : Nat) (w : World) (v : Value) (R : Rw) : Prop := ∃ s1 s2 s3, v = .agg #[.int .i64 R.vars, s1, s2, s3] ∧ FI lo hi w s1 R.N ∧ FI lo hi w s2 R.B ∧ FI lo hi w s3 R.G
/-- .. its lists in different ones. -/
def RD (lo hi : Nat) (w : World) (v : Value) (R : Rw) : Prop := ∃ s1 s2 s3 a b, lo ≤ a ∧ a ≤ b ∧ b ≤ hi ∧ v = .agg #[.int .i64 R.vars, s1, s2, s3] ∧ FI lo a w s1 R.N ∧ FI a b w s2 R.B ∧ FI b hi w s3 R.G

theorem SL.vl {w : World} {v : Value} {Z : List Nat} (h : SL w v Z) : VL (Value.float .f32) (0 : Nat) w v Z := h
theorem SL.keep {w w' : World} {v : Value} {Z : List Nat} (h : SL w v Z) {B : Nat} (hb : Below B w w') (hB : w.heap.size ≤ B) : SL w' v Z := SL.below h hb hB
theorem RV.below {w w' : World} {v : Value} {R : Rw} (h : RV w v R) {B : Nat} (hb : Below B w w') (hB : w.heap.size ≤ B) : RV w' v R := by
  obtain ⟨s1, s2, s3, e, h1, h2, h3⟩ := h
  exact ⟨s1, s2, s3, e, h1.below hb hB, h2.below hb hB, h3.below hb hB⟩
theorem RI.below {lo hi : Nat} {w w' : World} {v : Value} {R : Rw} (h : RI lo hi w v R) {B : Nat} (hb : Below B w w') (hB : w.heap.size ≤ B) : RI lo hi w' v R := by
  obtain ⟨s1, s2, s3, e, h1, h2, h3⟩ := h
  exact ⟨s1, s2, s3, e, SI.below h1 hb hB, SI.below h2 hb hB, SI.below h3 hb hB⟩
theorem RD.below {lo hi : Nat} {w w' : World} {v : Value} {R : Rw} (h : RD lo hi w v R) {B : Nat} (hb : Below B w w') (hB : w.heap.size ≤ B) : RD lo hi w' v R := by
  obtain ⟨s1, s2, s3, a, b, l1, l2, l3, e, h1, h2, h3⟩ := h
  exact ⟨s1, s2, s3, a, b, l1, l2, l3, e, SI.below h1 hb hB, SI.below h2 hb hB, SI.below h3 hb hB⟩
theorem RI.kept {lo hi lo2 hi2 : Nat} {w w' : World} {v : Value} {R : Rw} (h : RI lo hi w v R) (ht : Turned lo2 hi2 w w') (hs : hi ≤ lo2 ∨ hi2 ≤ lo) : RI lo hi w' v R := by
  obtain ⟨s1, s2, s3, e, h1, h2, h3⟩ := h
  exact ⟨s1, s2, s3, e, SI.kept h1 ht hs, SI.kept h2 ht hs, SI.kept h3 ht hs⟩
theorem RD.kept {lo hi lo2 hi2 : Nat} {w w' : World} {v : Value} {R : Rw} (h : RD lo hi w v R) (ht : Turned lo2 hi2 w w') (hs : hi ≤ lo2 ∨ hi2 ≤ lo) : RD lo hi w' v R := by
  obtain ⟨s1, s2, s3, a, b, l1, l2, l3, e, h1, h2, h3⟩ := h
  exact ⟨s1, s2, s3, a, b, l1, l2, l3, e, SI.kept h1 ht (by omega), SI.kept h2 ht (by omega), SI.kept h3 ht (by omega)⟩
theorem RD.ri {lo hi : Nat} {w : World} {v : Value} {R : Rw} (h : RD lo hi w v R) : RI lo hi w v R := by
  obtain ⟨s1, s2, s3, a, b, l1, l2, l3, e, h1, h2, h3⟩ := h
  have hh : hi ≤ w.heap.size := h3.1
  exact ⟨s1, s2, s3, e, SI.wide h1 (Nat.le_refl _) (by omega) hh, SI.wide h2 (by omega) (by omega) hh, SI.wide h3 (by omega) (Nat.le_refl _) hh⟩
theorem RI.rv {lo hi : Nat} {w : World} {v : Value} {R : Rw} (h : RI lo hi w v R) : RV w v R := by
  obtain ⟨s1, s2, s3, e, h1, h2, h3⟩ := h
  exact ⟨s1, s2, s3, e, FI.sl h1, FI.sl h2, FI.sl h3⟩
theorem RD.rv {lo hi : Nat} {w : World} {v : Value} {R : Rw} (h : RD lo hi w v R) : RV w v R := h.ri.rv
theorem RI.hi {lo hi : Nat} {w : World} {v : Value} {R : Rw} (h : RI lo hi w v R) : hi ≤ w.heap.size := by
  obtain ⟨s1, s2, s3, e, h1, h2, h3⟩ := h
  exact h1.1
theorem SL.long {w : World} {v : Value} {Z : List Nat} (h : SL w v Z) : ∃ ao cap, v = .slice ao Z.length cap := VL.len (mk := Value.float .f32) (d := (0 : Nat)) h

def MadeR (R : Rw) (w : World) (e : Ending) (w' : World) : Prop := ∃ v, e = .returned v ∧ RD w.heap.size w'.heap.size w' v R ∧ Below w.heap.size w w'

set_option maxHeartbeats 1000000 in
theorem toRows_any (v : Value) (R : Rw) (w : World) (hv : RV w v R) (hn : R.size ≤ 1048576) :
    Calls Tryd.prog 21 #[v] w (MadeR R w) := by
  obtain ⟨s1, s2, s3, rfl, g1, g2, g3⟩ := hv
  have hn1 : R.N.length ≤ 1048576 := by unfold Rw.size at hn; omega
  have hn2 : R.B.length ≤ 1048576 := by unfold Rw.size at hn; omega
  have hn3 : R.G.length ≤ 1048576 := by unfold Rw.size at hn; omega
  have G1 := Lib.hid g1
  have G2 := Lib.hid g2
  have G3 := Lib.hid g3
  clear g1 g2 g3 hn
  have hb0 : ∀ A B C, Below w.heap.size w (((w.alloc A).alloc B).alloc C) := fun A B C => ((below_alloc w A).alloc (by simp) B).alloc (by simp; omega) C
  have HB0 := Lib.hid hb0
  clear hb0
  go_enter Tryd.func21, Tryd.ntmps21
  go_wp2_with fail
  go_at_call 16; refine (toF32_si _ R.N _ (G1.out.below (HB0.out _ _ _) (Nat.le_refl _)) hn1).mono ?_; rintro e w1 ⟨v1, rfl, i1, b1⟩
  obtain ⟨x1, y1, rfl⟩ := SI.len i1
  obtain ⟨hc1, hf1⟩ := bcell b1
  have hz1 : w.heap.size + 1 + 1 < w1.heap.size := by have := b1.size; simp at this; omega
  have hy1 : w.heap.size < w1.heap.size := by omega
  have hx1 : w.heap.size + 1 < w1.heap.size := by omega
  have I1 := Lib.hid (fun u => SI.set (p := ⟨w.heap.size + 1 + 1, 1, none⟩) (SI.wide (lo' := w.heap.size + 1 + 1 + 1) i1 (by simp) (Nat.le_refl _) (Nat.le_refl _)) (Or.inl (Nat.lt_succ_self _)) u)
  have B1 := Lib.hid (fun u => ((HB0.out _ _ _).trans (b1.mono (by simp; omega))).setCell (p := ⟨w.heap.size + 1 + 1, 1, none⟩) (by show _ ≤ w.heap.size + 1 + 1; omega) u)
  clear i1 b1
  go_wp2_with fail
  go_at_call 16; refine (toF32_si _ R.B _ (G2.out.below (B1.out _) (Nat.le_refl _)) hn2).mono ?_; rintro e w2 ⟨v2, rfl, i2, b2⟩
  obtain ⟨x2, y2, rfl⟩ := SI.len i2
  obtain ⟨hc2, hf2⟩ := bcell b2
  have hz2 : w.heap.size + 1 + 1 < w2.heap.size := by have := b2.size; simp at this; omega
  have hy2 : w.heap.size < w2.heap.size := by omega
  have hx2 : w.heap.size + 1 < w2.heap.size := by omega
  have HS2 := Lib.hid (show w1.heap.size ≤ w2.heap.size by have := b2.size; simpa using this)
  have I1' := Lib.hid (fun u => SI.set (p := ⟨w.heap.size + 1 + 1, 2, none⟩) (SI.below (I1.out _) b2 (Nat.le_refl _)) (Or.inl (Nat.lt_succ_self _)) u)
  have I2 := Lib.hid (fun u => SI.set (p := ⟨w.heap.size + 1 + 1, 2, none⟩) (SI.wide (lo' := w1.heap.size) i2 (by simp) (Nat.le_refl _) (Nat.le_refl _)) (Or.inl hz1) u)
  have B2 := Lib.hid (fun u => ((B1.out _).trans (b2.mono (by simp; omega))).setCell (p := ⟨w.heap.size + 1 + 1, 2, none⟩) (by show _ ≤ w.heap.size + 1 + 1; omega) u)
  clear i2 b2 I1 B1
  go_wp2_with fail
  go_at_call 16; refine (toF32_si _ R.G _ (G3.out.below (B2.out _) (Nat.le_refl _)) hn3).mono ?_; rintro e w3 ⟨v3, rfl, i3, b3⟩
  obtain ⟨x3, y3, rfl⟩ := SI.len i3
  obtain ⟨hc3, hf3⟩ := bcell b3
  have hz3 : w.heap.size + 1 + 1 < w3.heap.size := by have := b3.size; simp at this; omega
  have hx3 : w.heap.size + 1 < w3.heap.size := by omega
  have HS3 := Lib.hid (show w2.heap.size ≤ w3.heap.size by have := b3.size; simpa using this)
  have I1 := Lib.hid (SI.below (I1'.out _) b3 (Nat.le_refl _))
  have I2' := Lib.hid (SI.below (I2.out _) b3 (Nat.le_refl _))
  have I3 := Lib.hid (SI.wide (lo' := w2.heap.size) i3 (by simp) (Nat.le_refl _) (Nat.le_refl _))
  have B3 := Lib.hid ((B2.out _).trans (b3.mono (by simp; omega)))
  clear i3 b3 I1' I2 B2
  go_wp2_with fail
  refine bodyPost_ret (v := .agg #[.int .i64 R.vars, .slice x1 R.N.length y1, .slice x2 R.B.length y2, .slice x3 R.G.length y3]) (by simp [results, Tryd.results21, hc1, hc2, hc3, hx1, hx2, go_sem]) rfl ?_
  generalize hX : World.setCell _ _ _ = X
  have hT : Turned (w.heap.size + 1) (w.heap.size + 1 + 1 + 1) w3 X := by
    rw [← hX]
    repeat (refine Turned.setCell ?_ (by simp) (by simp) _)
    exact Turned.refl _ _ _
  clear hX
  have hTB := hT.below (by omega)
  refine ⟨_, rfl, ⟨_, _, _, w1.heap.size, w2.heap.size, by omega, HS2.out, Nat.le_trans HS3.out hT.size, rfl, ?_, ?_, ?_⟩, B3.out.trans (hTB.mono (by omega))⟩
  · exact SI.wide (SI.kept I1.out hT (Or.inr (Nat.le_refl _))) (by omega) (Nat.le_refl _) (Nat.le_trans (Nat.le_trans HS2.out HS3.out) hT.size)
  · exact SI.kept I2'.out hT (Or.inr (by omega))
  · exact SI.wide (SI.kept I3.out hT (Or.inr (by omega))) (Nat.le_refl _) hT.size (Nat.le_refl _)

theorem szRows_yes (v : Value) (R : Rw) (m : Int) (w : World) (hv : RV w v R) (hm : (R.size : Int) ≤ m) (hb : m ≤ 1048576) :
    Calls Tryd.prog 19 #[v, .int .i64 m] w fun e w' => e = .returned (.int .i64 (m - R.size)) ∧ Below w.heap.size w w' := by
  obtain ⟨s1, s2, s3, rfl, g1, g2, g3⟩ := hv
  have G1 := Lib.hid g1.long
  have G2 := Lib.hid g2.long
  have G3 := Lib.hid g3.long
  clear g1 g2 g3
  have hS : (R.size : Int) = R.N.length + R.B.length + R.G.length := by unfold Rw.size; omega
  rw [hS] at hm ⊢
  clear hS
  go_enter Tryd.func19, Tryd.ntmps19
  go_wp2_with fail
  go_at_call 53; refine (szF32_yes _ R.N.length _ _ G1.out (by omega) (by omega)).mono ?_; rintro e w1 ⟨rfl, rfl⟩
  go_wp2_with fail
  go_at_call 53; refine (szF32_yes _ R.B.length _ _ G2.out (by omega) (by omega)).mono ?_; rintro e w1 ⟨rfl, rfl⟩
  go_wp2_with fail
  go_at_call 53; refine (szF32_yes _ R.G.length _ _ G3.out (by omega) (by omega)).mono ?_; rintro e w1 ⟨rfl, rfl⟩
  go_wp2_with fail
  go_ret
  exact ⟨ret_int (by omega), below_alloc _ _⟩
theorem szRows_no (v : Value) (R : Rw) (m : Int) (w : World) (hv : RV w v R) (hm : m < (R.size : Int)) (h0 : 0 ≤ m) (hb : m ≤ 1048576) (l1 : R.N.length ≤ maxLen) (l2 : R.B.length ≤ maxLen) (l3 : R.G.length ≤ maxLen) :
    Calls Tryd.prog 19 #[v, .int .i64 m] w fun e w' => e = .returned (.int .i64 (-1)) ∧ Below w.heap.size w w' := by
  obtain ⟨s1, s2, s3, rfl, g1, g2, g3⟩ := hv
  have G1 := Lib.hid g1.long
  have G2 := Lib.hid g2.long
  have G3 := Lib.hid g3.long
  clear g1 g2 g3
  have hS : (R.size : Int) = R.N.length + R.B.length + R.G.length := by unfold Rw.size; omega
  rw [hS] at hm
  clear hS
  by_cases c1 : m < R.N.length
  · go_enter Tryd.func19, Tryd.ntmps19
    go_wp2_with fail
    go_at_call 53; refine (szF32_no _ R.N.length _ _ G1.out (by omega) (by omega) (by omega) l1).mono ?_; rintro e w1 ⟨rfl, rfl⟩
    go_wp2_with fail
    go_ret
    exact ⟨rfl, below_alloc _ _⟩
  by_cases c2 : m - R.N.length < R.B.length
  · go_enter Tryd.func19, Tryd.ntmps19
    go_wp2_with fail
    go_at_call 53; refine (szF32_yes _ R.N.length _ _ G1.out (by omega) (by omega)).mono ?_; rintro e w1 ⟨rfl, rfl⟩
    go_wp2_with fail
    go_at_call 53; refine (szF32_no _ R.B.length _ _ G2.out (by omega) (by omega) (by omega) l2).mono ?_; rintro e w1 ⟨rfl, rfl⟩
    go_wp2_with fail
    go_ret
    exact ⟨rfl, below_alloc _ _⟩
  · go_enter Tryd.func19, Tryd.ntmps19
    go_wp2_with fail
    go_at_call 53; refine (szF32_yes _ R.N.length _ _ G1.out (by omega) (by omega)).mono ?_; rintro e w1 ⟨rfl, rfl⟩
    go_wp2_with fail
    go_at_call 53; refine (szF32_yes _ R.B.length _ _ G2.out (by omega) (by omega)).mono ?_; rintro e w1 ⟨rfl, rfl⟩
    go_wp2_with fail
    go_at_call 53; refine (szF32_no _ R.G.length _ _ G3.out (by omega) (by omega) (by omega) l3).mono ?_; rintro e w1 ⟨rfl, rfl⟩
    go_wp2_with fail
    go_ret
    exact ⟨rfl, below_alloc _ _⟩

theorem eqRows_any (v u : Value) (R : Rw) (w : World) (hn : R.size ≤ 1048576) (hv : RV w v R) (hu : RV w u R) :
    Calls Tryd.prog 23 #[v, u] w fun e w' => e = .returned (.bool true) ∧ Below w.heap.size w w' := by
  have HB0 := Lib.hid (fun A B => (below_alloc w A).alloc (by simp) B)
  obtain ⟨s1, s2, s3, rfl, g1, g2, g3⟩ := hv
  obtain ⟨t1, t2, t3, rfl, k1, k2, k3⟩ := hu
  have hn1 : R.N.length ≤ 1048576 := by unfold Rw.size at hn; omega
  have hn2 : R.B.length ≤ 1048576 := by unfold Rw.size at hn; omega
  have hn3 : R.G.length ≤ 1048576 := by unfold Rw.size at hn; omega
  have G1 := Lib.hid g1
  have G2 := Lib.hid g2
  have G3 := Lib.hid g3
  have K1 := Lib.hid k1
  have K2 := Lib.hid k2
  have K3 := Lib.hid k3
  clear g1 g2 g3 k1 k2 k3 hn
  go_enter Tryd.func23, Tryd.ntmps23
  go_wp2_with fail
  go_at_call 18; refine (eqF32_any _ _ R.N _ hn1 (G1.out.below (HB0.out _ _) (Nat.le_refl _)) (K1.out.below (HB0.out _ _) (Nat.le_refl _))).mono ?_; rintro e w1 ⟨rfl, n1, rfl⟩
  go_wp2_with fail
  go_at_call 18; refine (eqF32_any _ _ R.B _ hn2 (G2.out.below (below_drewN (HB0.out _ _) _) (Nat.le_refl _)) (K2.out.below (below_drewN (HB0.out _ _) _) (Nat.le_refl _))).mono ?_; rintro e w1 ⟨rfl, n2, rfl⟩
  go_wp2_with fail
  go_at_call 18; refine (eqF32_any _ _ R.G _ hn3 (G3.out.below (below_drewN (HB0.out _ _) _) (Nat.le_refl _)) (K3.out.below (below_drewN (HB0.out _ _) _) (Nat.le_refl _))).mono ?_; rintro e w1 ⟨rfl, n3, rfl⟩
  go_wp2_with fail
  go_ret
  exact ⟨rfl, below_drewN (HB0.out _ _) _⟩
end Go.Proofs.YtcnllohpkgmkpaaDoor
