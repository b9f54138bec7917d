/- Valid nets, flows of them: what they are (plain). -/
import Derived.Test.YtkpdjbpfnepgaaaNt
namespace Go.Proofs.Ytkpdjbpfnepgaaa

def okA (n : Int) (a : Ac) : Bool := (decide (0 ≤ a.f) && decide (a.f ≤ n - 1)) && ((decide (0 ≤ a.t) && decide (a.t ≤ n - 1)) && (!(a.f == a.t) && ((decide (0 ≤ a.r) && decide (a.r ≤ 1000000)) && (decide (-1000 ≤ a.c) && decide (a.c ≤ 1000)))))
structure OkA (n : Int) (a : Ac) : Prop where
  f0 : 0 ≤ a.f
  f1 : a.f ≤ n - 1
  t0 : 0 ≤ a.t
  t1 : a.t ≤ n - 1
  ne : a.f ≠ a.t
  r0 : 0 ≤ a.r
  r1 : a.r ≤ 1000000
  c0 : -1000 ≤ a.c
  c1 : a.c ≤ 1000
theorem okA_ok {n : Int} {a : Ac} (h : okA n a = true) : OkA n a := by
  unfold okA at h
  simp only [Bool.and_eq_true, decide_eq_true_eq, Bool.not_eq_true', beq_eq_false_iff_ne] at h
  exact ⟨h.1.1, h.1.2, h.2.1.1, h.2.1.2, h.2.2.1, h.2.2.2.1.1, h.2.2.2.1.2, h.2.2.2.2.1, h.2.2.2.2.2⟩
def arcsB (N : Nt) : Bool := (List.range N.arcs.length).all fun i => okA N.nodes (N.arcs.getD i zA)
def okN (N : Nt) : Bool := (decide (2 ≤ N.nodes) && decide (N.nodes ≤ 16)) && (decide ((N.arcs.length : Int) ≤ 48) && arcsB N)
structure OkN (N : Nt) : Prop where
  n1 : 2 ≤ N.nodes
  n2 : N.nodes ≤ 16
  l : N.arcs.length ≤ 48
  a : ∀ i, i < N.arcs.length → OkA N.nodes (N.arcs.getD i zA)
theorem rangeAll {p : Nat → Bool} {n : Nat} (h : ∀ i, i < n → p i = true) : (List.range n).all p = true := by
  rw [List.all_eq_true]
  intro x hx
  exact h x (List.mem_range.1 hx)
theorem rangeNot {p : Nat → Bool} {n i : Nat} (hi : i < n) (h : p i = false) : (List.range n).all p = false := by
  rw [Bool.eq_false_iff]
  intro hc
  have := List.all_eq_true.1 hc i (List.mem_range.2 hi)
  rw [h] at this; cases this
theorem rangeAt {p : Nat → Bool} {n i : Nat} (hc : (List.range n).all p = true) (hi : i < n) : p i = true := List.all_eq_true.1 hc i (List.mem_range.2 hi)
theorem okN_ok {N : Nt} (h : okN N = true) : OkN N := by
  unfold okN at h
  simp only [Bool.and_eq_true, decide_eq_true_eq] at h
  exact ⟨h.1.1, h.1.2, by omega, fun i hi => okA_ok (rangeAt h.2.2 hi)⟩
/-- A flow of a valid net. -/
def fitsB (N : Nt) (F : List Int) : Bool := (List.range N.arcs.length).all fun i => decide (0 ≤ F.getD i 0) && decide (F.getD i 0 ≤ (N.arcs.getD i zA).r)
def flowB (N : Nt) (F : List Int) : Bool := okN N && (decide ((F.length : Int) = (N.arcs.length : Int)) && fitsB N F)
structure FlowOk (N : Nt) (F : List Int) : Prop where
  n : OkN N
  l : F.length = N.arcs.length
  a : ∀ i, i < N.arcs.length → 0 ≤ F.getD i 0 ∧ F.getD i 0 ≤ (N.arcs.getD i zA).r
theorem FlowOk.m {N : Nt} {F : List Int} (h : FlowOk N F) {i : Nat} (hi : i < N.arcs.length) : 0 ≤ F.getD i 0 ∧ F.getD i 0 ≤ 1000000 := by
  have := h.a i hi
  have := (h.n.a i hi).r1
  omega
theorem flowB_ok {N : Nt} {F : List Int} (h : flowB N F = true) : FlowOk N F := by
  unfold flowB at h
  simp only [Bool.and_eq_true, decide_eq_true_eq] at h
  refine ⟨okN_ok h.1, by omega, fun i hi => ?_⟩
  have := rangeAt h.2.2 hi
  simpa using this
/-- What goes out of a node over the first k arcs, less what comes in. -/
def outT (N : Nt) (F : List Int) (x : Int) : Nat → Int
  | 0 => 0
  | k + 1 => outT N F x k + (if (N.arcs.getD k zA).f = x then F.getD k 0 else 0) - (if (N.arcs.getD k zA).t = x then F.getD k 0 else 0)
theorem outT_in {N : Nt} {F : List Int} (h : FlowOk N F) (x : Int) : ∀ k, k ≤ N.arcs.length → -(1000000 * (k : Int)) ≤ outT N F x k ∧ outT N F x k ≤ 1000000 * (k : Int)
  | 0, _ => by simp [outT]
  | k + 1, hk => by
    have ih := outT_in h x k (by omega)
    have hm := h.m (i := k) (by omega)
    have hne := (h.n.a k (by omega)).ne
    unfold outT
    by_cases h1 : (N.arcs.getD k zA).f = x
    · have h2 : ¬ (N.arcs.getD k zA).t = x := fun h2 => hne (h1.trans h2.symm)
      rw [if_pos h1, if_neg h2]; omega
    · by_cases h2 : (N.arcs.getD k zA).t = x
      · rw [if_neg h1, if_pos h2]; omega
      · rw [if_neg h1, if_neg h2]; omega
theorem outT_f {N : Nt} {F : List Int} (h : FlowOk N F) {x : Int} {k : Nat} (hk : k < N.arcs.length) (e : ((N.arcs.getD k zA).f == x) = true) : outT N F x (k + 1) = outT N F x k + F.getD k 0 := by
  have h1 : (N.arcs.getD k zA).f = x := by simpa using e
  have hne := (h.n.a k hk).ne
  have h2 : ¬ (N.arcs.getD k zA).t = x := fun h2 => hne (h1.trans h2.symm)
  conv => lhs; unfold outT
  rw [if_pos h1, if_neg h2]; omega
theorem outT_ft {N : Nt} {F : List Int} (h : FlowOk N F) {x : Int} {k : Nat} (hk : k < N.arcs.length) (e : ((N.arcs.getD k zA).f == x) = true) : ((N.arcs.getD k zA).t == x) = false := by
  have h1 : (N.arcs.getD k zA).f = x := by simpa using e
  have hne := (h.n.a k hk).ne
  simp only [beq_eq_false_iff_ne]
  exact fun h2 => hne (h1.trans h2.symm)
theorem outT_t {N : Nt} {F : List Int} {x : Int} {k : Nat} (e1 : ((N.arcs.getD k zA).f == x) = false) (e : ((N.arcs.getD k zA).t == x) = true) : outT N F x (k + 1) = outT N F x k - F.getD k 0 := by
  have h1 : ¬ (N.arcs.getD k zA).f = x := by simpa using e1
  have h2 : (N.arcs.getD k zA).t = x := by simpa using e
  conv => lhs; unfold outT
  rw [if_neg h1, if_pos h2]; omega
theorem outT_n {N : Nt} {F : List Int} {x : Int} {k : Nat} (e1 : ((N.arcs.getD k zA).f == x) = false) (e : ((N.arcs.getD k zA).t == x) = false) : outT N F x (k + 1) = outT N F x k := by
  have h1 : ¬ (N.arcs.getD k zA).f = x := by simpa using e1
  have h2 : ¬ (N.arcs.getD k zA).t = x := by simpa using e
  conv => lhs; unfold outT
  rw [if_neg h1, if_neg h2]; omega
def outF (N : Nt) (F : List Int) (x : Int) : Int := outT N F x N.arcs.length
def costT (N : Nt) (F : List Int) : Nat → Int
  | 0 => 0
  | k + 1 => costT N F k + F.getD k 0 * (N.arcs.getD k zA).c
theorem prod_in {f c : Int} (f0 : 0 ≤ f) (f1 : f ≤ 1000000) (c0 : -1000 ≤ c) (c1 : c ≤ 1000) : -1000000000 ≤ f * c ∧ f * c ≤ 1000000000 := by
  have h1 : f * (-1000) ≤ f * c := Int.mul_le_mul_of_nonneg_left c0 f0
  have h2 : f * c ≤ f * 1000 := Int.mul_le_mul_of_nonneg_left c1 f0
  omega
theorem costT_in {N : Nt} {F : List Int} (h : FlowOk N F) : ∀ k, k ≤ N.arcs.length → -(1000000000 * (k : Int)) ≤ costT N F k ∧ costT N F k ≤ 1000000000 * (k : Int)
  | 0, _ => by simp [costT]
  | k + 1, hk => by
    have ih := costT_in h k (by omega)
    have hm := h.m (i := k) (by omega)
    have hc := h.n.a k (by omega)
    have h1 := hc.c0
    have h2 := hc.c1
    have h3 := prod_in hm.1 hm.2 h1 h2
    unfold costT
    omega
def inS (S : List Int) (x : Int) : Bool := (List.range S.length).any fun i => S.getD i 0 == x
def setB (n : Int) (S : List Int) : Bool := (List.range S.length).all fun i => (decide (0 ≤ S.getD i 0) && decide (S.getD i 0 ≤ n - 1)) && !(decide (0 < i) && decide (S.getD i 0 ≤ S.getD (i - 1) 0))
def roomT (N : Nt) (S : List Int) : Nat → Int
  | 0 => 0
  | k + 1 => roomT N S k + (if (inS S (N.arcs.getD k zA).f && !inS S (N.arcs.getD k zA).t) = true then (N.arcs.getD k zA).r else 0)
theorem roomT_in {N : Nt} {S : List Int} (h : OkN N) : ∀ k, k ≤ N.arcs.length → 0 ≤ roomT N S k ∧ roomT N S k ≤ 1000000 * (k : Int)
  | 0, _ => by simp [roomT]
  | k + 1, hk => by
    have ih := roomT_in (S := S) h k (by omega)
    have hm := h.a k (by omega)
    have h1 := hm.r0
    have h2 := hm.r1
    unfold roomT
    split <;> omega
end Go.Proofs.Ytkpdjbpfnepgaaa
