/- Tests on lists of singles: finite, at least, less. -/
import Derived.Test.YtajekehidofkiaaFin
import Derived.Test.YtajekehidofkiaaF2
import Derived.RegionTactic
import Derived.ChangeAlike
namespace Go.Proofs.Ytajekehidofkiaa
open Go.RowKit Go.ChangeShapes Go.WideShapes

/-- x < y; x >= y; x > y, as Go tells it. -/
def ltB (x y : Nat) : Bool := FloatKind.f32.format.order x y == some Ordering.lt
def geB (x y : Nat) : Bool := FloatKind.f32.format.order x y == some Ordering.gt || FloatKind.f32.format.order x y == some Ordering.eq
def gtB (x y : Nat) : Bool := FloatKind.f32.format.order x y == some Ordering.gt
/-- Finite, and at least 0. -/
def leastB (x : Nat) : Bool := fin32 x && geB x 0
def finAll (Z : List Nat) : Bool := Z.all fin32
def leastAll (Z : List Nat) : Bool := Z.all leastB
/-- None is less. -/
def noLess (l : Nat) (Z : List Nat) : Bool := Z.all fun x => !ltB x l

theorem all_true {p : Nat → Bool} {Z : List Nat} (h : ∀ i, i < Z.length → p (Z.getD i 0) = true) : Z.all p = true := by
  rw [List.all_eq_true]
  intro x hx
  obtain ⟨i, hi, rfl⟩ := List.getElem_of_mem hx
  have := h i hi
  rwa [getD_at hi] at this
theorem all_false {p : Nat → Bool} {Z : List Nat} {i : Nat} (hi : i < Z.length) (h : p (Z.getD i 0) = false) : Z.all p = false := by
  rw [getD_at hi] at h
  rw [Bool.eq_false_iff]
  intro hc
  have := List.all_eq_true.1 hc _ (List.getElem_mem hi)
  rw [h] at this; cases this

/-- A call that only reads and draws, and answers so. -/
def Tells (b : Bool) (w : World) (e : Ending) (w' : World) : Prop := e = .returned (.bool b) ∧ ∃ n, w' = w.drewN n
theorem Tells.below {b : Bool} {w w' : World} {e : Ending} (h : Tells b w e w') : e = .returned (.bool b) ∧ Below w.heap.size w w' := by
  obtain ⟨h1, n, rfl⟩ := h
  exact ⟨h1, below_drewN (Below.refl _ _) n⟩
theorem tells {b c : Bool} {w : World} (n : Nat) (h : b = c) : Tells c w (.returned (.bool b)) (w.drewN n) := ⟨by rw [h], n, rfl⟩
theorem tells2 {b c : Bool} {w : World} (n m : Nat) (h : b = c) : Tells c w (.returned (.bool b)) ((w.drewN n).drewN m) := ⟨by rw [h], _, World.drewN_drewN _ _ _⟩
/-- A quiet call in a region behind a region. -/
theorem quiet_add {P : Program} {f : FuncId} {args : Array Value} {w : World} {a n : Nat} {v : Value}
    (h : Calls P f args (w.drewN (a + n)) fun e w' => e = .returned v ∧ ∃ m, w' = (w.drewN (a + n)).drewN m) :
    Calls P f args (w.drewN (a + n)) fun e w'' => e = .returned v ∧ ∃ m, w'' = w.drewN (a + m) :=
  h.mono fun _ _ ⟨he, m, hm⟩ => ⟨he, n + m, by rw [hm, World.drewN_drewN, Nat.add_assoc]⟩
end Go.Proofs.Ytajekehidofkiaa
