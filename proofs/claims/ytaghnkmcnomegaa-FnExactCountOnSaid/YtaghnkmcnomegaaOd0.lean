/- Odd and even rows (plain). -/
import Derived.Test.YtaghnkmcnomegaaMd0
import Derived.Test.YtaghnkmcnomegaaPop
import Derived.Test.YtaghnkmcnomegaaAnyP
namespace Go.Proofs.Ytaghnkmcnomegaa

/-- A row: letters in ascending order. -/
structure AlOk (n : Int) (c : List Int) : Prop where
  n1 : 1 ≤ n
  n2 : n ≤ 10
  a : ∀ i, i < c.length → 1 ≤ c.getD i 0 ∧ c.getD i 0 ≤ n
theorem alB_ok {n : Int} {c : List Int} (h : alB n c = true) : AlOk n c := by
  unfold alB at h
  rw [Bool.and_eq_true] at h
  have hn := inB_ok h.2
  refine ⟨hn.1, hn.2, fun i hi => ?_⟩
  have := rngAt h.1 hi
  unfold asc1 at this
  rw [Bool.and_eq_true] at this
  exact inB_ok this.1
theorem AlOk.ltr {n : Int} {c : List Int} (h : AlOk n c) {i : Nat} (hi : i < c.length) : 1 ≤ ltr (c.getD i 0) ∧ ltr (c.getD i 0) ≤ n := by
  have := h.a i hi
  unfold Proofs.Ytaghnkmcnomegaa.ltr
  rw [if_neg (by omega)]
  exact this
/-- The digits of the first k letters. -/
def maskK (L : Nat) (c : List Int) : Nat → Nat
  | 0 => 0
  | k + 1 => maskK L c k ||| 2 ^ (L - (c.getD k 0).toNat)
theorem mask_plain {n : Int} {c : List Int} (L : Nat) (h : AlOk n c) : ∀ k, k ≤ c.length → plainK L c k = maskK L c k
  | 0, _ => rfl
  | k + 1, hk => by
    have ih := mask_plain L h k (by omega)
    have h1 := h.a k (by omega)
    unfold plainK maskK
    rw [if_pos (by omega), ih]
    have : Proofs.Ytaghnkmcnomegaa.ltr (c.getD k 0) = c.getD k 0 := by unfold Proofs.Ytaghnkmcnomegaa.ltr; rw [if_neg (by omega)]
    rw [this]
theorem mask_lt {n : Int} {c : List Int} (h : AlOk n c) : ∀ k, k ≤ c.length → maskK n.toNat c k < 2 ^ n.toNat
  | 0, _ => Nat.two_pow_pos _
  | k + 1, hk => by
    have h1 := h.a k (by omega)
    exact Nat.or_lt_two_pow (mask_lt h k (by omega)) (Nat.pow_lt_pow_right (by omega) (by omega))
def parB (x : Nat) : Bool := decide (pop x % 2 = 1)
def rowM (L : Nat) (c : List Int) : Nat := maskK L c c.length
def fit1 (L : Nat) (R : List (List Int)) (O : List Bool) (n i : Nat) : Bool := parB (n &&& rowM L (R.getD i [])) == O.getD i false
def fitB (L : Nat) (R : List (List Int)) (O : List Bool) (n : Nat) : Bool := (List.range R.length).all (fit1 L R O n)
/-- The first number below k with p. -/
def fstN (p : Nat → Bool) : Nat → Option Nat
  | 0 => none
  | k + 1 => match fstN p k with
    | some x => some x
    | none => if p k then some k else none
theorem fstN_hit {p : Nat → Bool} {k : Nat} (h0 : fstN p k = none) (hp : p k = true) : ∀ n, k < n → fstN p n = some k := by
  intro n hn
  induction n with
  | zero => omega
  | succ n ih =>
    by_cases e : k = n
    · subst e
      show (match fstN p k with | some x => some x | none => if p k then some k else none) = some k
      rw [h0]
      simp only []
      rw [if_pos hp]
    · show (match fstN p n with | some x => some x | none => if p n then some n else none) = some k
      rw [ih (by omega)]
theorem fstN_miss {p : Nat → Bool} {k : Nat} (h0 : fstN p k = none) (hp : p k = false) : fstN p (k + 1) = none := by
  show (match fstN p k with | some x => some x | none => if p k then some k else none) = none
  rw [h0]
  simp only []
  rw [if_neg (by rw [hp]; simp)]
def rowP (n : Int) (c : List Int) : Bool := !alB n c
def odB (n : Int) (R : List (List Int)) (O : List Bool) : Bool := inB n 1 10 && (decide (R.length ≤ 48) && (decide (O.length = R.length) && !anyP (rowP n) R))
structure OdOk (n : Int) (R : List (List Int)) (O : List Bool) : Prop where
  n1 : 1 ≤ n
  n2 : n ≤ 10
  few : R.length ≤ 48
  len : O.length = R.length
  row : ∀ i, i < R.length → AlOk n (R.getD i [])
theorem odB_ok {n : Int} {R : List (List Int)} {O : List Bool} (h1 : inB n 1 10 = true) (h2 : R.length ≤ 48) (h3 : O.length = R.length) (h4 : anyP (rowP n) R = false) : OdOk n R O := by
  have hn := inB_ok h1
  refine ⟨hn.1, hn.2, h2, h3, fun i hi => alB_ok ?_⟩
  have := anyP_not h4 hi
  unfold rowP at this
  simpa using this
theorem odB_1 {n : Int} {R : List (List Int)} {O : List Bool} (h : inB n 1 10 = false) : odB n R O = false := by unfold odB; rw [h, Bool.false_and]
theorem odB_2 {n : Int} {R : List (List Int)} {O : List Bool} (h : ¬ R.length ≤ 48) : odB n R O = false := by unfold odB; rw [decide_eq_false h, Bool.false_and, Bool.and_false]
theorem odB_3 {n : Int} {R : List (List Int)} {O : List Bool} (h : ¬ O.length = R.length) : odB n R O = false := by unfold odB; rw [decide_eq_false h, Bool.false_and, Bool.and_false, Bool.and_false]
theorem odB_4 {n : Int} {R : List (List Int)} {O : List Bool} (h : anyP (rowP n) R = true) : odB n R O = false := by unfold odB; rw [h]; simp
theorem odB_y {n : Int} {R : List (List Int)} {O : List Bool} (h1 : inB n 1 10 = true) (h2 : R.length ≤ 48) (h3 : O.length = R.length) (h4 : anyP (rowP n) R = false) : odB n R O = true := by unfold odB; rw [h1, decide_eq_true h2, decide_eq_true h3, h4]; rfl
def odF (n : Int) (R : List (List Int)) (O : List Bool) : Option Nat := if odB n R O then fstN (fitB n.toNat R O) (2 ^ n.toNat) else none
theorem odF_no {n : Int} {R : List (List Int)} {O : List Bool} (h : odB n R O = false) : odF n R O = none := by unfold odF; rw [h]; rfl
theorem odF_yes {n : Int} {R : List (List Int)} {O : List Bool} (h : odB n R O = true) : odF n R O = fstN (fitB n.toNat R O) (2 ^ n.toNat) := by unfold odF; rw [h]; rfl
theorem fit_no {L : Nat} {R : List (List Int)} {O : List Bool} {n i : Nat} (hi : i < R.length) (h : fit1 L R O n i = false) : fitB L R O n = false := rngNot hi h
theorem fit_yes {L : Nat} {R : List (List Int)} {O : List Bool} {n : Nat} (h : ∀ i, i < R.length → fit1 L R O n i = true) : fitB L R O n = true := rngAll h
end Go.Proofs.Ytaghnkmcnomegaa
