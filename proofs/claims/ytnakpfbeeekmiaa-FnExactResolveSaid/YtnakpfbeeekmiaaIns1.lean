/- Orders by keys (plain). -/
import Derived.Test.YtnakpfbeeekmiaaIns0
namespace Go.Proofs.Ytnakpfbeeekmiaa

/-- By keys, the least one first. -/
def ltK (K : Nat → Int) (x y : Nat) : Bool := decide (K x < K y)
/-- What cmp.Compare tells. -/
def cmpI (a b : Int) : Int := if a < b then -1 else if b < a then 1 else 0
theorem cmpI_neg (a b : Int) : decide (cmpI a b < 0) = decide (a < b) := by
  unfold cmpI
  by_cases h : a < b
  · simp [h]
  · by_cases h2 : b < a <;> simp [h, h2]
theorem swN_take (Y : List Nat) (j k : Nat) :
    (((intsN (Y.take k)).map (Value.int .i64)).set j (.int .i64 ((Y.getD (j - 1) 0 : Nat) : Int))).set (j - 1) (.int .i64 ((Y.getD j 0 : Nat) : Int)) = (intsN ((swN Y j).take k)).map (Value.int .i64) := by
  unfold swN intsN
  rw [List.take_set, List.take_set, List.map_set, List.map_set, List.map_set, List.map_set]
theorem ordN_congr {lt lt' : Nat → Nat → Bool} {n : Nat} (h : ∀ x y, x < n → y < n → lt x y = lt' x y) : ordN lt n = ordN lt' n := by
  have ins : ∀ j (Y : List Nat), j < Y.length → (∀ i, i < Y.length → Y.getD i 0 < n) → insI lt j Y = insI lt' j Y := by
    intro j
    induction j with
    | zero => intro Y _ _; rfl
    | succ j ih =>
      intro Y hj hY
      unfold insI
      rw [h _ _ (hY (j + 1) hj) (hY j (by omega))]
      split
      · refine ih _ (by rw [swN_len]; omega) fun i hi => ?_
        rw [swN_len] at hi
        rw [swN_at (by omega) hj]
        split
        · exact hY _ hj
        · split
          · exact hY _ (by omega)
          · exact hY _ hi
      · rfl
  have all : ∀ i, i ≤ n → insS lt n i = insS lt' n i := by
    intro i
    induction i with
    | zero => intro _; rfl
    | succ i ih =>
      intro hi
      show insI lt i (insS lt n i) = insI lt' i (insS lt' n i)
      rw [← ih (by omega)]
      exact ins i _ (by rw [insS_len]; omega) fun k hk => insS_lt lt (by omega) (by rw [insS_len] at hk; exact hk)
  exact all n (Nat.le_refl n)
end Go.Proofs.Ytnakpfbeeekmiaa
