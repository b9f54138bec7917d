/- Trees: what a valid one is (plain). -/
import Derived.Test.YtmkbjkjgemipcaaSz
namespace Go.Proofs.Ytmkbjkjgemipcaa

/-- Whether the parent of an index is such. -/
def parB (P : List Int) (i : Nat) : Bool := if i = 0 then decide (P.getD 0 0 = -1) else inB (P.getD i 0) 0 ((i : Int) - 1)
def parsB (P : List Int) : Bool := (List.range P.length).all (parB P)
def treeLB (P V : List Int) : Bool := (decide (1 ≤ (P.length : Int)) && decide ((P.length : Int) ≤ 64)) && decide ((V.length : Int) = (P.length : Int))
def treeB (P V : List Int) : Bool := parsB P && (treeLB P V && allIn V (-1000000) 1000000)
structure TreeOk (P V : List Int) : Prop where
  l1 : 1 ≤ P.length
  l2 : P.length ≤ 64
  lv : V.length = P.length
  p0 : P.getD 0 0 = -1
  p : ∀ i, 0 < i → i < P.length → 0 ≤ P.getD i 0 ∧ P.getD i 0 < i
  v : ∀ i, i < P.length → -1000000 ≤ V.getD i 0 ∧ V.getD i 0 ≤ 1000000
theorem treeB_ok {P V : List Int} (h : treeB P V = true) : TreeOk P V := by
  unfold treeB treeLB at h
  simp only [Bool.and_eq_true, decide_eq_true_eq] at h
  obtain ⟨hp, ⟨⟨h1, h2⟩, h3⟩, h4⟩ := h
  have n1 : 1 ≤ P.length := by omega
  refine ⟨n1, by omega, by omega, ?_, fun i h0 hi => ?_, fun i hi => allIn_at h4 (by omega)⟩
  · have := rngAt hp (show 0 < P.length by omega)
    simpa [parB] using this
  · have := rngAt hp hi
    unfold parB at this
    rw [if_neg (by omega)] at this
    have := inB_ok this
    omega
theorem parsB_no {P : List Int} {i : Nat} (hi : i < P.length) (h : parB P i = false) : parsB P = false := rngNot hi h
theorem treeB_par {P V : List Int} {i : Nat} (hi : i < P.length) (h : parB P i = false) : treeB P V = false := by unfold treeB; rw [parsB_no hi h]; rfl
theorem treeB_val {P V : List Int} {i : Nat} (hi : i < V.length) (h : inB (V.getD i 0) (-1000000) 1000000 = false) : treeB P V = false := by unfold treeB; rw [allIn_no hi h]; simp
theorem treeB_len {P V : List Int} (h : treeLB P V = false) : treeB P V = false := by unfold treeB; rw [h]; simp
theorem treeB_yes {P V : List Int} (h : treeLB P V = true) (hp : ∀ i, i < P.length → parB P i = true) (hv : ∀ i, i < V.length → inB (V.getD i 0) (-1000000) 1000000 = true) : treeB P V = true := by
  unfold treeB; rw [h, show parsB P = true from rngAll hp, show allIn V (-1000000) 1000000 = true from rngAll hv]; rfl
end Go.Proofs.Ytmkbjkjgemipcaa
