/- Covers one by one (plain). -/
import Derived.Test.YtolbkepbcoipcaaDoorSz
import Derived.Test.YtolbkepbcoipcaaDoorPop
namespace Go.Proofs.YtolbkepbcoipcaaDoor

/-- All of n, a bit each. -/
def allS (n : Nat) : Nat := 2 ^ n - 1
/-- The i-th set. -/
def setN (L : List Int) (i : Nat) : Nat := (L.getD i 0).toNat
/-- The one of the first k + 1 sets that holds most of what is left. -/
def bestS (L : List Int) (left : Nat) : Nat → Nat
  | 0 => 0
  | k + 1 => if pop (setN L (bestS L left k) &&& left) < pop (setN L (k + 1) &&& left) then k + 1 else bestS L left k
theorem bestS_le (L : List Int) (left : Nat) : ∀ k, bestS L left k ≤ k
  | 0 => Nat.le_refl _
  | k + 1 => by
    have := bestS_le L left k
    unfold bestS
    split <;> omega
/-- What is taken, with so much fuel; none where a set would hold nothing. -/
def grd (L : List Int) : Nat → Nat → Option (List Int)
  | 0, _ => some []
  | f + 1, left =>
    if left = 0 then some []
    else if setN L (bestS L left (L.length - 1)) &&& left = 0 then none
    else (grd L f (left ^^^ (left &&& setN L (bestS L left (L.length - 1))))).map (((bestS L left (L.length - 1) : Nat) : Int) :: ·)
theorem grd_done (L : List Int) (f : Nat) : grd L f 0 = some [] := by cases f <;> simp [grd]
theorem grd_no {L : List Int} {f left : Nat} (h0 : left ≠ 0) (h : setN L (bestS L left (L.length - 1)) &&& left = 0) : grd L (f + 1) left = none := by
  unfold grd; rw [if_neg h0, if_pos h]
theorem grd_yes {L : List Int} {f left : Nat} (h0 : left ≠ 0) (h : ¬ setN L (bestS L left (L.length - 1)) &&& left = 0) :
    grd L (f + 1) left = (grd L f (left ^^^ (left &&& setN L (bestS L left (L.length - 1))))).map (((bestS L left (L.length - 1) : Nat) : Int) :: ·) := by
  rw [grd, if_neg h0, if_neg h]
theorem grd_len (L : List Int) : ∀ f left Z, grd L f left = some Z → Z.length ≤ f
  | 0, _, Z, h => by simp [grd] at h; subst h; simp
  | f + 1, left, Z, h => by
    unfold grd at h
    split at h
    · simp at h; subst h; simp
    · split at h
      · cases h
      · cases hg : grd L f (left ^^^ (left &&& setN L (bestS L left (L.length - 1)))) with
        | none => rw [hg] at h; cases h
        | some Y =>
          rw [hg] at h
          simp at h
          subst h
          have := grd_len L f _ Y hg
          simp; omega
/-- x is part of y. -/
def Part (x y : Nat) : Prop := x &&& y = x
theorem part_all {x n : Nat} (h : x < 2 ^ n) : Part x (allS n) := by
  unfold Part allS
  exact Nat.and_two_pow_sub_one_of_lt_two_pow h
theorem Part.bit {x y : Nat} (h : Part x y) (i : Nat) : x.testBit i = true → y.testBit i = true := by
  intro hx
  have : (x &&& y).testBit i = x.testBit i := by rw [h]
  rw [Nat.testBit_and, hx, Bool.true_and] at this
  exact this
theorem xor_self_iff {a l : Nat} : a ^^^ l = a ↔ l = 0 := by
  constructor
  · intro h
    apply Nat.eq_of_testBit_eq
    intro i
    have : (a ^^^ l).testBit i = a.testBit i := by rw [h]
    rw [Nat.testBit_xor] at this
    rw [Nat.zero_testBit]
    cases hl : l.testBit i <;> cases ha : a.testBit i <;> simp_all
  · rintro rfl; exact Nat.xor_zero a
/-- What is left is less. -/
theorem left_lt {l y : Nat} (h : y &&& l ≠ 0) : l ^^^ (l &&& y) < l := by
  have h1 : l ^^^ (l &&& y) = l &&& (l ^^^ y) := by
    apply Nat.eq_of_testBit_eq
    intro i
    simp only [Nat.testBit_and, Nat.testBit_xor]
    cases l.testBit i <;> cases y.testBit i <;> rfl
  have h2 : l ^^^ (l &&& y) ≤ l := by rw [h1]; exact Nat.and_le_left
  have h3 : l ^^^ (l &&& y) ≠ l := fun e => h (by rw [Nat.and_comm]; exact xor_self_iff.1 e)
  omega
theorem left_part {l y a : Nat} (h : Part l a) : Part (l ^^^ (l &&& y)) a := by
  unfold Part
  apply Nat.eq_of_testBit_eq
  intro i
  have hb := h.bit i
  simp only [Nat.testBit_and, Nat.testBit_xor]
  cases hl : l.testBit i
  · simp
  · rw [hb hl]; simp
/-- What is held, and what a set adds to it. -/
theorem held_or {a l y : Nat} (hl : Part l a) (hy : Part y a) : (a ^^^ l) ||| y = a ^^^ (l ^^^ (l &&& y)) := by
  apply Nat.eq_of_testBit_eq
  intro i
  have h1 := hl.bit i
  have h2 := hy.bit i
  simp only [Nat.testBit_and, Nat.testBit_xor, Nat.testBit_or]
  cases hli : l.testBit i <;> cases hyi : y.testBit i <;> cases hai : a.testBit i <;> simp_all
theorem held_not {a l y : Nat} (hy : Part y a) : y ^^^ (y &&& (a ^^^ l)) = y &&& l := by
  apply Nat.eq_of_testBit_eq
  intro i
  have h2 := hy.bit i
  simp only [Nat.testBit_and, Nat.testBit_xor]
  cases hli : l.testBit i <;> cases hyi : y.testBit i <;> cases hai : a.testBit i <;> simp_all
theorem held_all {a l : Nat} : a ^^^ l = a ↔ l = 0 := xor_self_iff
theorem popN_zero : ∀ k x, x < 2 ^ k → (popN k x = 0 ↔ x = 0)
  | 0, x, h => by simp at h; subst h; simp [popN]
  | k + 1, x, h => by
    have ih := popN_zero k (x / 2) (by rw [Nat.pow_succ] at h; omega)
    unfold popN
    omega
theorem pop_zero {x : Nat} (h : x < 65536) : pop x = 0 ↔ x = 0 := popN_zero 16 x h
theorem popN_le : ∀ k x, popN k x ≤ k
  | 0, _ => Nat.le_refl _
  | k + 1, x => by have := popN_le k (x / 2); unfold popN; omega
theorem pop_le (x : Nat) : pop x ≤ 16 := popN_le 16 x
/-- The program's way to the best one: -1 and 0 where none of the first k holds anything. -/
def bestI (L : List Int) (left : Nat) : Nat → Int
  | 0 => -1
  | k + 1 => if pop (setN L (bestS L left k) &&& left) = 0 then -1 else (bestS L left k : Int)
def mostI (L : List Int) (left : Nat) : Nat → Int
  | 0 => 0
  | k + 1 => (pop (setN L (bestS L left k) &&& left) : Int)
theorem mostI_up {L : List Int} {left k : Nat} (h : mostI L left k < (pop (setN L k &&& left) : Int)) : bestI L left (k + 1) = (k : Int) ∧ mostI L left (k + 1) = (pop (setN L k &&& left) : Int) := by
  cases k with
  | zero =>
    have h' : (0 : Int) < (pop (setN L 0 &&& left) : Int) := h
    refine ⟨?_, rfl⟩
    show (if pop (setN L 0 &&& left) = 0 then (-1 : Int) else ((0 : Nat) : Int)) = _
    rw [if_neg (by omega)]
  | succ k =>
    simp only [mostI] at h
    have e : bestS L left (k + 1) = k + 1 := by rw [bestS, if_pos (by omega)]
    simp only [mostI, bestI]
    rw [e, if_neg (by omega)]
    exact ⟨rfl, rfl⟩
theorem mostI_no {L : List Int} {left k : Nat} (h : ¬ mostI L left k < (pop (setN L k &&& left) : Int)) : bestI L left (k + 1) = bestI L left k ∧ mostI L left (k + 1) = mostI L left k := by
  cases k with
  | zero =>
    have h' : ¬ (0 : Int) < (pop (setN L 0 &&& left) : Int) := h
    refine ⟨?_, ?_⟩
    · show (if pop (setN L 0 &&& left) = 0 then (-1 : Int) else ((0 : Nat) : Int)) = -1
      rw [if_pos (by omega)]
    · show (pop (setN L 0 &&& left) : Int) = 0
      omega
  | succ k =>
    simp only [mostI] at h
    have e : bestS L left (k + 1) = bestS L left k := by rw [bestS, if_neg (by omega)]
    simp only [mostI, bestI]
    rw [e]
    exact ⟨rfl, rfl⟩
theorem mostI_in (L : List Int) (left k : Nat) : 0 ≤ mostI L left k ∧ mostI L left k ≤ 16 := by
  cases k with
  | zero => simp [mostI]
  | succ k => have := pop_le (setN L (bestS L left k) &&& left); simp only [mostI]; omega
/-- The answer. -/
def grdO (n : Int) (L : List Int) : Option (List Int) := if setsB n L then grd L (allS n.toNat) (allS n.toNat) else none
def covL (n : Int) (L : List Int) : List Int := (grdO n L).getD []
def covB (n : Int) (L : List Int) : Bool := (grdO n L).isSome
theorem allS_lt {n : Nat} (h : n ≤ 16) : allS n < 65536 := by
  have : 2 ^ n ≤ 2 ^ 16 := Nat.pow_le_pow_right (by omega) h
  have h2 : 0 < 2 ^ n := Nat.pow_pos (by omega)
  unfold allS; omega
theorem covL_len {n : Int} {L : List Int} : (covL n L).length ≤ 1048576 := by
  unfold covL grdO
  by_cases h : setsB n L = true
  · rw [if_pos h]
    cases hg : grd L (allS n.toNat) (allS n.toNat) with
    | none => simp
    | some Z =>
      have h1 := grd_len L _ _ Z hg
      have h2 : n ≤ 16 := by
        unfold setsB at h
        simp only [Bool.and_eq_true] at h
        exact (inB_ok h.1).2
      have h3 := allS_lt (n := n.toNat) (by omega)
      simp; omega
  · rw [if_neg h]; simp
structure SetsOk (n : Nat) (L : List Int) : Prop where
  n1 : 1 ≤ n
  n2 : n ≤ 16
  l1 : 1 ≤ L.length
  l2 : L.length ≤ 16
  s : ∀ i, i < L.length → L.getD i 0 = (setN L i : Int) ∧ setN L i < 2 ^ n
theorem setsB_ok {n : Int} {L : List Int} (h : setsB n L = true) : ∃ m : Nat, n = (m : Int) ∧ SetsOk m L := by
  unfold setsB fewB at h
  simp only [Bool.and_eq_true, decide_eq_true_eq] at h
  obtain ⟨h1, ⟨h2, h3⟩, h4⟩ := h
  obtain ⟨h5, h6⟩ := inB_ok h1
  refine ⟨n.toNat, by omega, by omega, by omega, by omega, by omega, fun i hi => ?_⟩
  have := allIn_at h4 hi
  have hp : ((2 ^ n.toNat : Nat) : Int) = (2 : Int) ^ n.toNat := by simp
  unfold setN
  constructor <;> omega
theorem set_lt {n : Nat} {L : List Int} (h : SetsOk n L) {i : Nat} (hi : i < L.length) : setN L i < 65536 := by
  have h1 := (h.s i hi).2
  have : 2 ^ n ≤ 2 ^ 16 := Nat.pow_le_pow_right (by omega) h.n2
  omega
theorem and_lt {x y : Nat} (h : x < 65536) : x &&& y < 65536 := Nat.lt_of_le_of_lt Nat.and_le_left h
end Go.Proofs.YtolbkepbcoipcaaDoor
