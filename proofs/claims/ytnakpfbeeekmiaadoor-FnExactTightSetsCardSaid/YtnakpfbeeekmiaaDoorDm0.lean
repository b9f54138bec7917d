/- Domains: what they are (plain). -/
import Derived.Test.YtnakpfbeeekmiaaDoorAnyP
namespace Go.Proofs.YtnakpfbeeekmiaaDoor

/-- Whether a number is greater than the one before. -/
def ascB (d : List Int) (i : Nat) : Bool := decide (i = 0) || decide (d.getD (i - 1) 0 < d.getD i 0)
def domLB (d : List Int) : Bool := decide (1 ≤ (d.length : Int)) && decide ((d.length : Int) ≤ 8)
def domB (d : List Int) : Bool := (List.range d.length).all (ascB d) && (domLB d && allIn d 0 31)
def domsLB (C : List (List Int)) : Bool := decide (1 ≤ (C.length : Int)) && decide ((C.length : Int) ≤ 6)
def notDom (d : List Int) : Bool := !domB d
def domsB (C : List (List Int)) : Bool := domsLB C && !anyP notDom C
structure DomOk (d : List Int) : Prop where
  l1 : 1 ≤ d.length
  l2 : d.length ≤ 8
  asc : ∀ i, 0 < i → i < d.length → d.getD (i - 1) 0 < d.getD i 0
  v : ∀ i, i < d.length → 0 ≤ d.getD i 0 ∧ d.getD i 0 ≤ 31
theorem domB_ok {d : List Int} (h : domB d = true) : DomOk d := by
  unfold domB domLB at h
  simp only [Bool.and_eq_true, decide_eq_true_eq] at h
  refine ⟨by omega, by omega, fun i h0 hi => ?_, fun i hi => allIn_at h.2.2 hi⟩
  have := rngAt h.1 hi
  unfold ascB at this
  simp only [Bool.or_eq_true, decide_eq_true_eq] at this
  omega
theorem domB_asc {d : List Int} {i : Nat} (hi : i < d.length) (h : ascB d i = false) : domB d = false := by unfold domB; rw [rngNot hi h]; rfl
theorem domB_val {d : List Int} {i : Nat} (hi : i < d.length) (h : inB (d.getD i 0) 0 31 = false) : domB d = false := by unfold domB; rw [allIn_no hi h]; simp
theorem domB_len {d : List Int} (h : domLB d = false) : domB d = false := by unfold domB; rw [h]; simp
theorem domB_yes {d : List Int} (h : domLB d = true) (ha : ∀ i, i < d.length → ascB d i = true) (hv : ∀ i, i < d.length → inB (d.getD i 0) 0 31 = true) : domB d = true := by
  unfold domB; rw [h, rngAll ha, show allIn d 0 31 = true from rngAll hv]; rfl
theorem domB_rest {d : List Int} (ha : ∀ i, i < d.length → ascB d i = true) : domB d = (domLB d && allIn d 0 31) := by
  unfold domB; rw [rngAll ha, Bool.true_and]
theorem domsB_len {C : List (List Int)} (h : domsLB C = false) : domsB C = false := by unfold domsB; rw [h]; rfl
theorem domsB_no {C : List (List Int)} {k : Nat} (hk : k < C.length) (h : domB (C.getD k []) = false) : domsB C = false := by
  unfold domsB; rw [anyP_yes (p := notDom) hk (by unfold notDom; rw [h]; rfl)]; simp
theorem domsB_yes {C : List (List Int)} (hl : domsLB C = true) (h : ∀ k, k < C.length → domB (C.getD k []) = true) : domsB C = true := by
  unfold domsB; rw [hl, anyP_no (p := notDom) (fun k hk => by unfold notDom; rw [h k hk]; rfl)]; rfl
structure DomsOk (C : List (List Int)) : Prop where
  l1 : 1 ≤ C.length
  l2 : C.length ≤ 6
  d : ∀ k, k < C.length → DomOk (C.getD k [])
theorem domsB_ok {C : List (List Int)} (h : domsB C = true) : DomsOk C := by
  unfold domsB domsLB at h
  simp only [Bool.and_eq_true, decide_eq_true_eq, Bool.not_eq_true'] at h
  refine ⟨by omega, by omega, fun k hk => domB_ok ?_⟩
  have := anyP_not h.2 hk
  unfold notDom at this
  simpa using this
end Go.Proofs.YtnakpfbeeekmiaaDoor
