/- The first number that is greater than all before: plain. -/
import Derived.Test.YtgiijkbgbpohoaaSz
namespace Go.Proofs.Ytgiijkbgbpohoaa

/-- Whether the number i is greater than the first p. -/
def grB (L : List Int) (p i : Nat) : Bool := (List.range p).all fun k => decide (L.getD k 0 < L.getD i 0)
theorem grB_up (L : List Int) (p i : Nat) : grB L (p + 1) i = (grB L p i && decide (L.getD p 0 < L.getD i 0)) := by unfold grB; rw [List.range_succ, List.all_append]; simp
def pkF (L : List Int) (lk : Nat) : Nat → Nat → Nat
  | 0, _ => L.length - 1
  | g + 1, i => if grB L lk i then i else pkF L lk g (i + 1)
def pk64 (n : Nat) : Bool := decide (1 ≤ (n : Int)) && decide ((n : Int) ≤ 64)
def pkB (L : List Int) (l : Int) : Bool := pk64 L.length && inB l 0 ((L.length : Int) - 1)
def pkI (L : List Int) (l : Int) : Int := if pkB L l then (pkF L l.toNat (L.length - l.toNat) l.toNat : Nat) else 0
theorem pkB_ok {L : List Int} {l : Int} (h : pkB L l = true) : 1 ≤ L.length ∧ L.length ≤ 64 ∧ l = (l.toNat : Int) ∧ l.toNat < L.length := by
  unfold pkB pk64 inB at h
  simp only [Bool.and_eq_true, decide_eq_true_eq] at h
  omega
theorem pkI_no {L : List Int} {l : Int} (h : pkB L l = false) : pkI L l = 0 := by unfold pkI; rw [h]; rfl
theorem pkI_yes {L : List Int} {l : Int} (h : pkB L l = true) : pkI L l = (pkF L l.toNat (L.length - l.toNat) l.toNat : Nat) := by unfold pkI; rw [if_pos h]
theorem pkF_yes {L : List Int} {lk g i : Nat} (h : grB L lk i = true) : pkF L lk (g + 1) i = i := by unfold pkF; rw [if_pos h]
theorem pkF_no {L : List Int} {lk g i : Nat} (h : grB L lk i = false) : pkF L lk (g + 1) i = pkF L lk g (i + 1) := by
  show (if grB L lk i then i else pkF L lk g (i + 1)) = _
  rw [h]; rfl
end Go.Proofs.Ytgiijkbgbpohoaa
