/- Rounding down of singles from 0 to a million: what it is, plainly. -/
import Derived.Test.YtmkbjkjgemipcaaNum
import Derived.Test.YtmkbjkjgemipcaaVr
namespace Go.Proofs.Ytmkbjkjgemipcaa
open Go.RowKit Go.ChangeShapes Go.WideShapes Ieee

/-- A million; at most. -/
def leB32 (x y : Nat) : Bool := FloatKind.f32.format.order x y == some Ordering.lt || FloatKind.f32.format.order x y == some Ordering.eq
/-- From 0 to a million. -/
def rdB (x : Nat) : Bool := geB x 0 && leB32 x 1232348160
def truncF (x : Nat) : Int := (floatToIntVal .f32 x .i64).getD 0
theorem fin_ofR {x : Nat} (h : fin32 x = true) : Fl.Fin Ieee.single x := by
  unfold fin32 at h
  unfold Fl.Fin
  rw [Fl.single_inf]
  exact of_decide_eq_true h
theorem fin_toR {x : Nat} (h : Fl.Fin Ieee.single x) : fin32 x = true := by
  unfold Fl.Fin at h
  rw [Fl.single_inf] at h
  unfold fin32
  exact decide_eq_true h
theorem rd_fin {x : Nat} (h : rdB x = true) : fin32 x = true := by
  rcases Fl.read_cases Fl.single_ok x with hf | hf | hf
  · exact fin_toR hf
  · exfalso
    unfold rdB geB leB32 at h
    change ((Ieee.single.order x 0 == some Ordering.gt || Ieee.single.order x 0 == some Ordering.eq) && (Ieee.single.order x 1232348160 == some Ordering.lt || Ieee.single.order x 1232348160 == some Ordering.eq)) = true at h
    unfold Ieee.Format.order at h
    rw [hf] at h
    cases hs : Fl.sg Ieee.single x <;> rw [hs] at h <;> revert h <;> decide
  · exfalso
    have h1 := (Fl.ord_nan hf 0).1
    unfold rdB geB at h
    change ((Ieee.single.order x 0 == some Ordering.gt || Ieee.single.order x 0 == some Ordering.eq) && _) = true at h
    rw [h1] at h
    simp at h
theorem mil_fin : Fl.Fin Ieee.single 1232348160 := by unfold Fl.Fin; decide
theorem zero_finR : Fl.Fin Ieee.single 0 := by unfold Fl.Fin; decide
theorem zero_svR : Fl.sv Ieee.single 0 = 0 := by
  unfold Fl.sv
  rw [show Fl.sg Ieee.single 0 = false by decide, show Fl.rg Ieee.single 0 = 0 by decide, Fl.rv_zero]; rfl
theorem mil_sv : Fl.sv Ieee.single 1232348160 = Fl.qv 1000000 0 := by
  unfold Fl.sv
  rw [show Fl.sg Ieee.single 1232348160 = false by decide, show Fl.rg Ieee.single 1232348160 = 145 * Ieee.single.binade + 16000000 by rw [Fl.single_B]; decide]
  rw [Fl.rv_of Ieee.single (by rw [Fl.single_B]; decide) (Or.inr (by rw [Fl.single_B]; decide)), Fl.single_lp]
  simp only [Bool.false_eq_true, if_false]
  apply Rat.le_antisymm
  · rw [Fl.qv_le]; decide
  · rw [Fl.qv_le]; decide
/-- Of a finite single: the tests by value. -/
theorem lt0_sv {x : Nat} (h : fin32 x = true) : ltB x 0 = true ↔ Fl.sv Ieee.single x < 0 := by
  have := (Fl.order_fin (fin_ofR h) zero_finR).1
  rw [zero_svR] at this
  unfold ltB
  rw [beq_iff_eq]
  exact this
theorem gtC_sv {x : Nat} (h : fin32 x = true) : gtB x 1232348160 = true ↔ Fl.sv Ieee.single 1232348160 < Fl.sv Ieee.single x := by
  have := (Fl.order_fin (fin_ofR h) mil_fin).2.2
  unfold gtB
  rw [beq_iff_eq]
  exact this
theorem ord_some {x y : Nat} (hx : fin32 x = true) (hy : fin32 y = true) : ∃ o, FloatKind.f32.format.order x y = some o := by
  have h1 := Fl.order_fin (fin_ofR hx) (fin_ofR hy)
  change ∃ o, Ieee.single.order x y = some o
  by_cases h : Fl.sv Ieee.single x < Fl.sv Ieee.single y
  · exact ⟨_, h1.1.2 h⟩
  · by_cases h2 : Fl.sv Ieee.single x = Fl.sv Ieee.single y
    · exact ⟨_, h1.2.1.2 h2⟩
    · exact ⟨_, h1.2.2.2 (by grind)⟩
theorem rd_is {x : Nat} (h : fin32 x = true) : rdB x = (!ltB x 0 && !gtB x 1232348160) := by
  obtain ⟨o, ho⟩ := ord_some h (fin_toR zero_finR)
  obtain ⟨p, hp⟩ := ord_some h (fin_toR mil_fin)
  unfold rdB geB leB32 ltB gtB
  rw [ho, hp]
  cases o <;> cases p <;> rfl

theorem cutzR (s : Bool) (n d : Nat) : Toward.zero.cut s n d = n / 2 ^ d := by
  unfold Toward.cut
  simp only [Nat.one_shiftLeft, Bool.toNat_false, Nat.add_zero]
  by_cases h : d ≤ n.log2 + 2
  · rw [Nat.min_eq_left h]
  · rw [Nat.min_eq_right (by omega)]
    have hn : n < 2 ^ (n.log2 + 1) := Nat.lt_log2_self
    have h1 : 2 ^ (n.log2 + 1) ≤ 2 ^ (n.log2 + 2) := Nat.pow_le_pow_right (by omega) (by omega)
    have h2 : 2 ^ (n.log2 + 2) ≤ 2 ^ d := Nat.pow_le_pow_right (by omega) (by omega)
    rw [Nat.div_eq_of_lt (by omega), Nat.div_eq_of_lt (by omega)]
theorem trunc_some {x : Nat} (h : rdB x = true) : floatToIntVal .f32 x .i64 = some (truncF x) := by
  have hf := rd_fin h
  rw [rd_is hf] at h
  simp only [Bool.and_eq_true, Bool.not_eq_true'] at h
  have h0 : 0 ≤ Fl.sv Ieee.single x := by
    have := mt (lt0_sv hf).2 (by rw [h.1]; simp)
    exact Rat.not_lt.1 this
  have hC : Fl.sv Ieee.single x ≤ Fl.qv 1000000 0 := by
    have := mt (gtC_sv hf).2 (by rw [h.2]; simp)
    rw [mil_sv] at this
    exact Rat.not_lt.1 this
  have hb : Fl.rv Ieee.single (Fl.rg Ieee.single x) ≤ Fl.qv 1000000 0 := by
    have hn := Fl.rv_nonneg Ieee.single (Fl.rg Ieee.single x)
    have hq := Fl.qv_nonneg 1000000 0
    unfold Fl.sv at h0 hC
    cases hs : Fl.sg Ieee.single x with
    | true =>
      rw [hs] at h0
      simp only [if_true] at h0
      grind
    | false =>
      rw [hs] at hC
      simpa using hC
  have hr := Fl.read_fin (f := Ieee.single) (b := x) (fin_ofR hf)
  obtain ⟨m, hm⟩ : ∃ m, m = Fl.rk Ieee.single (Fl.rg Ieee.single x) := ⟨_, rfl⟩
  obtain ⟨e, he⟩ : ∃ e : Int, e = Ieee.single.leastPlace + (Fl.rq Ieee.single (Fl.rg Ieee.single x) : Nat) := ⟨_, rfl⟩
  have hv : Fl.rv Ieee.single (Fl.rg Ieee.single x) = Fl.qv m e := by unfold Fl.rv; rw [hm, he]
  rw [← hm, ← he] at hr
  rw [hv] at hb
  obtain ⟨M, hM⟩ : ∃ M, M = (m <<< e.toNat) / 2 ^ (-e).toNat := ⟨_, rfl⟩
  have i1 : Fl.qv M 0 ≤ Fl.qv m e := by
    rw [Fl.qv_le, hM, Nat.shiftLeft_eq, show (0 - e).toNat = (-e).toNat by omega, show (e - 0).toNat = e.toNat by omega]
    exact Nat.div_mul_le_self _ _
  have hM6 : M ≤ 1000000 := Fl.qv_le_same.1 (Rat.le_trans i1 hb)
  have ht : (FloatKind.f32.decode x).toInt .zero = some (if Fl.sg Ieee.single x then -(M : Int) else (M : Int)) := by
    show (Ieee.single.read x).toInt .zero = _
    rw [hr]
    simp only [Datum.toInt, Datum.integral, cutzR, signed, Nat.shiftLeft_zero]
    rw [← hM]
  have hval : floatToIntVal .f32 x .i64 = some (if Fl.sg Ieee.single x then -(M : Int) else (M : Int)) := by
    unfold floatToIntVal
    rw [ht]
    have h1 : IntKind.i64.min = -9223372036854775808 := by decide
    have h2 : IntKind.i64.max = 9223372036854775807 := by decide
    simp only [h1, h2]
    rw [if_pos (by split <;> omega)]
  unfold truncF
  rw [hval]
  rfl

/-- The greater of two; the greatest of the first. -/
def max2F (x y : Nat) : Nat := match FloatKind.f32.format.order x y with
  | some .lt => y
  | some .gt => x
  | some .eq => if (FloatKind.f32.decode x).neg then y else x
  | none => x
def mxF (Z : List Nat) : Nat → Nat
  | 0 => Z.getD 0 0
  | k + 1 => max2F (mxF Z k) (Z.getD (k + 1) 0)
theorem max2_fin {x y : Nat} (hx : fin32 x = true) (hy : fin32 y = true) : fin32 (max2F x y) = true := by
  unfold max2F
  split
  · exact hy
  · exact hx
  · split
    · exact hy
    · exact hx
  · exact hx
theorem max2_gt {x y : Nat} (hx : fin32 x = true) (hy : fin32 y = true) : gtB (max2F x y) 1232348160 = (gtB x 1232348160 || gtB y 1232348160) := by
  have h1 := Fl.order_fin (fin_ofR hx) (fin_ofR hy)
  have a := gtC_sv hx
  have b := gtC_sv hy
  generalize Fl.sv Ieee.single 1232348160 = c at a b
  obtain ⟨o, ho⟩ := ord_some hx hy
  have ho' : Ieee.single.order x y = some o := ho
  unfold max2F
  rw [ho]
  rw [ho'] at h1
  cases o with
  | lt =>
    have h := h1.1.1 rfl
    show gtB y 1232348160 = _
    cases hh : gtB x 1232348160 with
    | false => simp
    | true =>
      have := a.1 hh
      rw [b.2 (by grind)]; rfl
  | gt =>
    have h := h1.2.2.1 rfl
    show gtB x 1232348160 = _
    cases hh : gtB y 1232348160 with
    | false => simp
    | true =>
      have := b.1 hh
      rw [a.2 (by grind)]; rfl
  | eq =>
    have h := h1.2.1.1 rfl
    rw [h] at a
    have e : gtB x 1232348160 = gtB y 1232348160 := by
      rw [Bool.eq_iff_iff, a, b]
    show gtB (if _ then y else x) 1232348160 = _
    split
    · rw [e, Bool.or_self]
    · rw [e, Bool.or_self]
theorem mx_facts {Z : List Nat} (h : ∀ i, i < Z.length → fin32 (Z.getD i 0) = true) : ∀ k, k < Z.length → fin32 (mxF Z k) = true ∧ (gtB (mxF Z k) 1232348160 = false ↔ ∀ i, i ≤ k → gtB (Z.getD i 0) 1232348160 = false)
  | 0, hk => ⟨h 0 hk, fun g i hi => by obtain rfl : i = 0 := (by omega); exact g, fun g => g 0 (Nat.le_refl _)⟩
  | k + 1, hk => by
    have ih := mx_facts h k (by omega)
    have hy := h (k + 1) hk
    refine ⟨max2_fin ih.1 hy, ?_⟩
    show gtB (max2F (mxF Z k) (Z.getD (k + 1) 0)) 1232348160 = false ↔ _
    rw [max2_gt ih.1 hy, Bool.or_eq_false_iff, ih.2]
    constructor
    · rintro ⟨a, b⟩ i hi
      by_cases e : i = k + 1
      · subst e; exact b
      · exact a i (by omega)
    · exact fun a => ⟨fun i hi => a i (by omega), a _ (Nat.le_refl _)⟩

/-- A plan rounded down. -/
def allRd (Z : List Nat) : Bool := Z.all rdB
def roundB (R : Rw) (X : List Nat) : Bool := okR R && (decide ((X.length : Int) = R.vars) && allRd X)
def rdT (X : List Nat) (k : Nat) : List Int := (X.take k).map truncF
def roundL (R : Rw) (X : List Nat) : List Int := bif roundB R X then rdT X X.length else []
theorem rdT_len {X : List Nat} {k : Nat} (h : k ≤ X.length) : (rdT X k).length = k := by unfold rdT; simp; omega
theorem rdT_up {X : List Nat} {k : Nat} (h : k < X.length) : rdT X (k + 1) = rdT X k ++ [truncF (X.getD k 0)] := by
  unfold rdT
  rw [List.take_succ_eq_append_getElem h, List.map_append]
  simp [List.getD, h]
theorem roundL_len (R : Rw) (X : List Nat) : (roundL R X).length ≤ 1048576 := by
  unfold roundL
  cases h : roundB R X with
  | false => simp
  | true =>
    unfold roundB at h
    simp only [Bool.and_eq_true, decide_eq_true_eq] at h
    have := ((okR_iff R).1 h.1).v2
    rw [cond_true, rdT_len (Nat.le_refl _)]
    omega
theorem fin_atR {Z : List Nat} (h : finAll Z = true) {i : Nat} (hi : i < Z.length) : fin32 (Z.getD i 0) = true := by
  unfold finAll at h
  rw [List.all_eq_true] at h
  rw [getD_at hi]
  exact h _ (List.getElem_mem hi)
theorem rd_at {Z : List Nat} (h : allRd Z = true) {i : Nat} (hi : i < Z.length) : rdB (Z.getD i 0) = true := by
  unfold allRd at h
  rw [List.all_eq_true] at h
  rw [getD_at hi]
  exact h _ (List.getElem_mem hi)
theorem allRd_fin {Z : List Nat} (h : allRd Z = true) : finAll Z = true := by
  unfold finAll
  exact all_true fun i hi => rd_fin (rd_at h hi)
/-- The program's tests. -/
theorem allRd_is {Z : List Nat} (h : finAll Z = true) (h1 : 1 ≤ Z.length) : allRd Z = (noLess 0 Z && !gtB (mxF Z (Z.length - 1)) 1232348160) := by
  have hm := (mx_facts (fun i hi => fin_atR h hi) (Z.length - 1) (by omega)).2
  rw [Bool.eq_iff_iff, Bool.and_eq_true, Bool.not_eq_true', hm]
  unfold allRd noLess
  simp only [List.all_eq_true]
  constructor
  · intro a
    refine ⟨fun x hx => ?_, fun i hi => ?_⟩
    · have f : fin32 x = true := rd_fin (a x hx)
      have := a x hx
      rw [rd_is f] at this
      simp only [Bool.and_eq_true] at this
      exact this.1
    · have hi2 : i < Z.length := by omega
      have q := a (Z[i]) (List.getElem_mem hi2)
      rw [rd_is (rd_fin q)] at q
      simp only [Bool.and_eq_true, Bool.not_eq_true'] at q
      rw [getD_at hi2]
      exact q.2
  · rintro ⟨a, b⟩ x hx
    obtain ⟨i, hi, rfl⟩ := List.getElem_of_mem hx
    have f := fin_atR h hi
    rw [getD_at hi] at f
    have q := b i (by omega)
    rw [getD_at hi] at q
    rw [rd_is f, q]
    have := a _ hx
    rw [this]
    rfl
end Go.Proofs.Ytmkbjkjgemipcaa
