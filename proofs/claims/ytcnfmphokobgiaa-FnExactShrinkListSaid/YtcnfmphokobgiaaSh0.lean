/- Shrinking of finite singles: what it is, plainly. -/
import Derived.Test.YtcnfmphokobgiaaNum
import Derived.Test.YtcnfmphokobgiaaNegF
namespace Go.Proofs.Ytcnfmphokobgiaa
open Go.RowKit Go.ChangeShapes Go.WideShapes

theorem fin_of {x : Nat} (h : fin32 x = true) : Fl.Fin Ieee.single x := by
  unfold fin32 at h
  unfold Fl.Fin
  rw [Fl.single_inf]
  exact of_decide_eq_true h
theorem add_some {x y : Nat} (hx : fin32 x = true) (hy : fin32 y = true) : ∃ r, floatBits .add .f32 x y = some r := by
  have h1 := Fl.read_fin (f := Ieee.single) (fin_of hx)
  have h2 := Fl.read_fin (f := Ieee.single) (fin_of hy)
  have h : (Ieee.Format.add Ieee.single x y).isSome = true := by
    unfold Ieee.Format.add
    rw [h1, h2]
    rfl
  exact Option.isSome_iff_exists.1 h
theorem sub_some {x y : Nat} (hx : fin32 x = true) (hy : fin32 y = true) : ∃ r, floatBits .sub .f32 x y = some r := by
  have h1 := Fl.read_fin (f := Ieee.single) (fin_of hx)
  have h2 := Fl.read_fin (f := Ieee.single) (fin_of hy)
  have h : (Ieee.Format.sub Ieee.single x y).isSome = true := by
    unfold Ieee.Format.sub
    rw [h1, h2]
    rfl
  exact Option.isSome_iff_exists.1 h
def addF (x y : Nat) : Nat := (floatBits .add .f32 x y).getD 0
def subF (x y : Nat) : Nat := (floatBits .sub .f32 x y).getD 0
theorem run_addF {P : Program} {x y : Nat} (hx : fin32 x = true) (hy : fin32 y = true) (t : TypeId) (W : World) : (binOp .add t (.float .f32 x) (.float .f32 y)).run P W = .ok (.float .f32 (addF x y)) W := by
  obtain ⟨r, hr⟩ := add_some hx hy
  have e := Fl.run_arith (P := P) W .add t .f32 x y (Or.inl rfl)
  rw [show addF x y = r by unfold addF; rw [hr]; rfl]
  rw [show Fl.ares W .add .f32 x y = r by unfold Fl.ares; rw [hr], show Fl.adr .add .f32 x y = 0 by unfold Fl.adr; rw [hr]] at e
  exact e
theorem run_subF {P : Program} {x y : Nat} (hx : fin32 x = true) (hy : fin32 y = true) (t : TypeId) (W : World) : (binOp .sub t (.float .f32 x) (.float .f32 y)).run P W = .ok (.float .f32 (subF x y)) W := by
  obtain ⟨r, hr⟩ := sub_some hx hy
  have e := Fl.run_arith (P := P) W .sub t .f32 x y (Or.inr (Or.inl rfl))
  rw [show subF x y = r by unfold subF; rw [hr]; rfl]
  rw [show Fl.ares W .sub .f32 x y = r by unfold Fl.ares; rw [hr], show Fl.adr .sub .f32 x y = 0 by unfold Fl.adr; rw [hr]] at e
  exact e

/-! ### the opposite's value -/
theorem neg_sg32 (x : Nat) : Fl.sg Ieee.single (negF x) = !Fl.sg Ieee.single x := by
  have e : negF x = x ^^^ 2 ^ 31 := rfl
  rw [e]
  show ((x ^^^ 2 ^ 31) / 2 ^ 31 % 2 == 1) = !(x / 2 ^ 31 % 2 == 1)
  have h : ∀ y : Nat, (y / 2 ^ 31 % 2 == 1) = y.testBit 31 := fun y => by
    rw [Nat.testBit_eq_decide_div_mod_eq]; rfl
  rw [h, h, Nat.testBit_xor, Nat.testBit_two_pow_self]
  simp
theorem neg_sv32 (x : Nat) : Fl.sv Ieee.single (negF x) = -Fl.sv Ieee.single x := by
  unfold Fl.sv
  rw [neg_sg32, neg_rg32]
  cases Fl.sg Ieee.single x <;> simp

/-- What a single becomes: as the model looks, and as the program looks. -/
def shS (b x : Nat) : Nat := bif ltB x (negF b) then addF x b else (bif gtB x b then subF x b else 0)
def shI (b x : Nat) : Nat := bif gtB x b then subF x b else (bif ltB x (negF b) then addF x b else 0)
theorem least_sv {b : Nat} (h : leastB b = true) : 0 ≤ Fl.sv Ieee.single b := by
  unfold leastB at h
  simp only [Bool.and_eq_true] at h
  have hz : fin32 0 = true := by decide
  have ho := Fl.order_fin (fin_of h.1) (fin_of hz)
  have h0 : Fl.sv Ieee.single 0 = 0 := by
    have e : Fl.sg Ieee.single 0 = false := by decide
    have g : Fl.rg Ieee.single 0 = 0 := by decide
    unfold Fl.sv
    rw [e, g, Fl.rv_zero]
    rfl
  have h2 := h.2
  unfold geB at h2
  simp only [Bool.or_eq_true, beq_iff_eq] at h2
  rcases h2 with h2 | h2
  · have := ho.2.2.1 h2
    rw [h0] at this
    exact Rat.le_of_lt this
  · have := ho.2.1.1 h2
    rw [h0] at this
    rw [this]
    exact Rat.le_refl
theorem sh_is {b x : Nat} (hb : leastB b = true) (hx : fin32 x = true) : shS b x = shI b x := by
  have hf : fin32 b = true := by unfold leastB at hb; simp only [Bool.and_eq_true] at hb; exact hb.1
  have h0 := least_sv hb
  cases h1 : gtB x b with
  | false => unfold shS shI; rw [h1]; rfl
  | true =>
    have h2 : ltB x (negF b) = false := by
      cases h3 : ltB x (negF b) with
      | false => rfl
      | true =>
        exfalso
        unfold gtB at h1
        unfold ltB at h3
        simp only [beq_iff_eq] at h1 h3
        have a := (Fl.order_fin (fin_of hx) (fin_of hf)).2.2.1 h1
        have c := (Fl.order_fin (fin_of hx) (fin_of (fin_neg hf))).1.1 h3
        rw [neg_sv32] at c
        grind
    unfold shS shI
    rw [h1, h2]
    rfl
/-- The whole list. -/
def okSh (Z : List Nat) (b : Nat) : Bool := (decide (1 ≤ Z.length) && (decide (Z.length ≤ 64) && finAll Z)) && leastB b
def shL (Z : List Nat) (b : Nat) : List Nat := bif okSh Z b then Z.map (shI b) else []
theorem shL_len (Z : List Nat) (b : Nat) : (shL Z b).length ≤ 1048576 := by
  unfold shL
  cases h : okSh Z b with
  | false => simp
  | true =>
    unfold okSh at h
    simp only [Bool.and_eq_true, decide_eq_true_eq] at h
    simp only [cond_true, List.length_map]
    omega
theorem fin_at {Z : List Nat} (h : finAll Z = true) {i : Nat} (hi : i < Z.length) : fin32 (Z.getD i 0) = true := by
  unfold finAll at h
  rw [List.all_eq_true] at h
  have : Z.getD i 0 = Z[i] := by simp [List.getD, hi]
  rw [this]
  exact h _ (List.getElem_mem hi)
/-- The first k, shrunk. -/
def shT (f : Nat → Nat) (Z : List Nat) (k : Nat) : List Nat := (Z.take k).map f
theorem shT_zero (f : Nat → Nat) (Z : List Nat) : shT f Z 0 = [] := rfl
theorem shT_up {f : Nat → Nat} {Z : List Nat} {k : Nat} (h : k < Z.length) : shT f Z (k + 1) = shT f Z k ++ [f (Z.getD k 0)] := by
  unfold shT
  rw [List.take_add_one, List.map_append]
  simp [List.getD, h]
theorem shT_len {f : Nat → Nat} {Z : List Nat} {k : Nat} (h : k ≤ Z.length) : (shT f Z k).length = k := by unfold shT; simp; omega
theorem shT_all (f : Nat → Nat) (Z : List Nat) : shT f Z Z.length = Z.map f := by unfold shT; rw [List.take_length]
end Go.Proofs.Ytcnfmphokobgiaa
