/- What IsProof needs: FmH Sz Cl0 InS HasI Own Grw Rst ClP Lit ClS Fnd Vf Va0 Pop. -/
import Derived.Test.YtnakpfbeeekmiaaIsProofA
import Derived.RowKit
import Derived.Outline
import Derived.Laws.AppendOwn
import Derived.Deep.LoopGhost
import Derived.WalkSpells
import Derived.Deep.QuietTactic
import Derived.BigQuiet
/- Forms: what their marks hold. -/
namespace Go.Proofs.Ytnakpfbeeekmiaa
open Go.RowKit Go.ChangeShapes Go.WideShapes

theorem heldForm_any (v : Value) (k : Int) (N : Fm) (w : World) (hv : FmV w v (marksFm k N)) (hn : szL N.cs ≤ 1048576) (hk0 : 0 ≤ k) (hk1 : k ≤ 549755813888) :
    Calls Try.prog 36 #[v, .int .i64 k] w (fun e w' => e = .returned (.int .i64 (k + (totAt N.cs N.cs.length : Nat))) ∧ Below w.heap.size w w') := by
  obtain ⟨s1, rfl, g1⟩ := hv
  have G1 := Lib.hid (fun o => g1.below (below_alloc w o) (Nat.le_refl _))
  have ht : totAt N.cs N.cs.length ≤ 1048576 := by unfold szL at hn; omega
  have hB := Lib.hid (below_alloc w)
  clear g1
  go_enter Try.func36, Try.ntmps36
  go_wp2_with fail
  go_at_call 31; refine (heldSS_any _ k N.cs _ (G1.out _) hn hk0 hk1).mono ?_; rintro e w1 ⟨rfl, b⟩
  have B1 := Lib.hid ((hB.out _).trans (b.mono (by simp)))
  clear b
  go_wp2_with fail
  go_ret
  exact ⟨rfl, B1.out⟩
end Go.Proofs.Ytnakpfbeeekmiaa
/- Sizes, sets of numbers, gains: what they are (plain). -/
namespace Go.Proofs.Ytnakpfbeeekmiaa

theorem rngAll {p : Nat → Bool} {n : Nat} (h : ∀ i, i < n → p i = true) : (List.range n).all p = true := by
  rw [List.all_eq_true]
  intro x hx
  exact h x (List.mem_range.1 hx)
theorem rngNot {p : Nat → Bool} {n i : Nat} (hi : i < n) (h : p i = false) : (List.range n).all p = false := by
  rw [Bool.eq_false_iff]
  intro hc
  have := List.all_eq_true.1 hc i (List.mem_range.2 hi)
  rw [h] at this; cases this
theorem rngAt {p : Nat → Bool} {n i : Nat} (hc : (List.range n).all p = true) (hi : i < n) : p i = true := List.all_eq_true.1 hc i (List.mem_range.2 hi)
def inB (n lo hi : Int) : Bool := decide (lo ≤ n) && decide (n ≤ hi)
theorem inB_ok {n lo hi : Int} (h : inB n lo hi = true) : lo ≤ n ∧ n ≤ hi := by unfold inB at h; simpa using h
def allIn (L : List Int) (lo hi : Int) : Bool := (List.range L.length).all fun i => inB (L.getD i 0) lo hi
theorem allIn_at {L : List Int} {lo hi : Int} (h : allIn L lo hi = true) {i : Nat} (hi' : i < L.length) : lo ≤ L.getD i 0 ∧ L.getD i 0 ≤ hi := inB_ok (rngAt h hi')
theorem allIn_no {L : List Int} {lo hi : Int} {i : Nat} (hi' : i < L.length) (h : inB (L.getD i 0) lo hi = false) : allIn L lo hi = false := rngNot hi' h
def fewB (n : Nat) : Bool := decide (1 ≤ (n : Int)) && decide ((n : Int) ≤ 16)
def sizesB (L : List Int) : Bool := allIn L 1 1000 && fewB L.length
structure SizesOk (L : List Int) : Prop where
  a : ∀ i, i < L.length → 1 ≤ L.getD i 0 ∧ L.getD i 0 ≤ 1000
  l1 : 1 ≤ L.length
  l2 : L.length ≤ 16
theorem sizesB_ok {L : List Int} (h : sizesB L = true) : SizesOk L := by
  unfold sizesB fewB at h
  simp only [Bool.and_eq_true, decide_eq_true_eq] at h
  exact ⟨fun i hi => allIn_at h.1 hi, by omega, by omega⟩
def setsB (n : Int) (L : List Int) : Bool := inB n 1 16 && (fewB L.length && allIn L 0 (2 ^ n.toNat - 1))
def canB (S G : List Int) (r : Int) : Bool := sizesB S && (decide ((G.length : Int) = (S.length : Int)) && (inB r 0 1000 && allIn G 0 1000))
structure CanOk (S G : List Int) (r : Int) : Prop where
  s : SizesOk S
  l : G.length = S.length
  r0 : 0 ≤ r
  r1 : r ≤ 1000
  g : ∀ i, i < G.length → 0 ≤ G.getD i 0 ∧ G.getD i 0 ≤ 1000
theorem canB_ok {S G : List Int} {r : Int} (h : canB S G r = true) : CanOk S G r := by
  unfold canB at h
  simp only [Bool.and_eq_true, decide_eq_true_eq] at h
  have hr := inB_ok h.2.2.1
  exact ⟨sizesB_ok h.1, by omega, hr.1, hr.2, fun i hi => allIn_at h.2.2.2 hi⟩
/-- The best gain of the first i things in room r. -/
def bestG (S G : List Int) : Nat → Nat → Int
  | 0, _ => 0
  | i + 1, r => if (S.getD i 0).toNat ≤ r then max (bestG S G i r) (bestG S G i (r - (S.getD i 0).toNat) + G.getD i 0) else bestG S G i r
theorem bestG_in {S G : List Int} (h : ∀ i, i < S.length → 0 ≤ G.getD i 0 ∧ G.getD i 0 ≤ 1000) : ∀ i, i ≤ S.length → ∀ r, 0 ≤ bestG S G i r ∧ bestG S G i r ≤ 1000 * (i : Int)
  | 0, _, r => by simp [bestG]
  | i + 1, hi, r => by
    have ih := bestG_in h i (by omega) r
    have ih2 := bestG_in h i (by omega) (r - (S.getD i 0).toNat)
    have hg := h i (by omega)
    unfold bestG
    split <;> omega
/-- How many sets of the first i things fill r. -/
def fillW (S : List Int) : Nat → Nat → Int
  | 0, r => if r = 0 then 1 else 0
  | i + 1, r => if (S.getD i 0).toNat ≤ r then fillW S i r + fillW S i (r - (S.getD i 0).toNat) else fillW S i r
theorem fillW_in {S : List Int} : ∀ i r, 0 ≤ fillW S i r ∧ fillW S i r ≤ 2 ^ i
  | 0, r => by unfold fillW; split <;> simp
  | i + 1, r => by
    have ih := fillW_in (S := S) i r
    have ih2 := fillW_in (S := S) i (r - (S.getD i 0).toNat)
    have e : (2 : Int) ^ (i + 1) = 2 ^ i + 2 ^ i := by rw [Int.pow_succ]; omega
    unfold fillW
    rw [e]
    split <;> omega
theorem two_le {i : Nat} (h : i ≤ 16) : (2 : Int) ^ i ≤ 65536 := by
  have h1 : 2 ^ i ≤ 2 ^ 16 := Nat.pow_le_pow_right (by omega) h
  have h2 : ((2 ^ i : Nat) : Int) ≤ ((2 ^ 16 : Nat) : Int) := by omega
  simpa using h2
end Go.Proofs.Ytnakpfbeeekmiaa
/- Literals, letters, clauses (plain). -/
namespace Go.Proofs.Ytnakpfbeeekmiaa

def min64 : Int := -9223372036854775808
/-- The letter of a literal; lw: as 64-bit integers tell it. -/
def ltr (x : Int) : Int := if x < 0 then -x else x
def lw (x : Int) : Int := if x = -9223372036854775808 then x else ltr x
theorem lw_min : lw (-9223372036854775808) = -9223372036854775808 := by decide
theorem lw_ltr {x : Int} (h : x ≠ -9223372036854775808) : lw x = ltr x := if_neg h
theorem ltr_pos (x : Int) : 0 ≤ ltr x := by unfold ltr; split <;> omega
theorem lw_in {x n : Int} (h : inB (lw x) 1 n = true) : x ≠ -9223372036854775808 ∧ lw x = ltr x ∧ 1 ≤ ltr x ∧ ltr x ≤ n := by
  have h1 : x ≠ -9223372036854775808 := by
    intro e
    subst e
    rw [lw_min] at h
    have := inB_ok h
    omega
  have := inB_ok h
  rw [lw_ltr h1] at this
  exact ⟨h1, lw_ltr h1, this.1, this.2⟩
def lets (c : List Int) : List Int := c.map lw
theorem lets_len (c : List Int) : (lets c).length = c.length := by simp [lets]
theorem lets_at {c : List Int} {i : Nat} (h : i < c.length) : (lets c).getD i 0 = lw (c.getD i 0) := by simp [lets, List.getD, h]
def asc1 (n : Int) (L : List Int) (i : Nat) : Bool := inB (L.getD i 0) 1 n && (decide (i = 0) || decide (L.getD (i - 1) 0 < L.getD i 0))
/-- Letters in ascending order. -/
def alB (n : Int) (L : List Int) : Bool := (List.range L.length).all (asc1 n L) && inB n 1 10
/-- A clause. -/
def clB (n : Int) (c : List Int) : Bool := alB n (lets c)
def seenA (c : List Int) (k : Nat) (a : Int) : Bool := (List.range k).any fun j => ltr (c.getD j 0) == a
def lit1 (n : Int) (c : List Int) (i : Nat) : Bool := inB (c.getD i 0) (-n) n && (!(c.getD i 0 == 0) && !seenA c i (ltr (c.getD i 0)))
/-- Literals of different letters. -/
def litsB (n : Int) (c : List Int) : Bool := (List.range c.length).all (lit1 n c)
def ord1 (c : List Int) (i : Nat) : Bool := decide (i = 0) || !decide (ltr (c.getD i 0) < ltr (c.getD (i - 1) 0))
def spcl (n : Int) (c : List Int) : Bool := inB n 1 10 && (litsB n c && (List.range c.length).all (ord1 c))
theorem seenA_yes {c : List Int} {k j : Nat} {a : Int} (h : j < k) (e : ltr (c.getD j 0) = a) : seenA c k a = true := by
  unfold seenA
  rw [List.any_eq_true]
  exact ⟨j, List.mem_range.2 h, beq_iff_eq.2 e⟩
theorem seenA_no {c : List Int} {k : Nat} {a : Int} (h : seenA c k a = false) {j : Nat} (hj : j < k) : ltr (c.getD j 0) ≠ a := by
  intro e
  rw [seenA_yes hj e] at h
  cases h
theorem seenA_none {c : List Int} {k : Nat} {a : Int} (h : ∀ j, j < k → ltr (c.getD j 0) ≠ a) : seenA c k a = false := by
  rw [Bool.eq_false_iff]
  intro hc
  unfold seenA at hc
  rw [List.any_eq_true] at hc
  obtain ⟨j, hj, e⟩ := hc
  exact h j (List.mem_range.1 hj) (by simpa using e)
theorem seenA_succ (c : List Int) (k : Nat) (a : Int) : seenA c (k + 1) a = (seenA c k a || (ltr (c.getD k 0) == a)) := by
  unfold seenA
  rw [List.range_succ, List.any_append]
  simp
/-- What a clause is. -/
structure ClOk (n : Int) (c : List Int) : Prop where
  n1 : 1 ≤ n
  n2 : n ≤ 10
  a : ∀ i, i < c.length → 1 ≤ ltr (c.getD i 0) ∧ ltr (c.getD i 0) ≤ n
  up : ∀ i j, i < j → j < c.length → ltr (c.getD i 0) < ltr (c.getD j 0)
theorem clB_ok {n : Int} {c : List Int} (h : clB n c = true) : ClOk n c := by
  unfold clB alB at h
  rw [Bool.and_eq_true] at h
  obtain ⟨h1, h2⟩ := h
  rw [lets_len] at h1
  have hn := inB_ok h2
  have hs : ∀ i, i < c.length → asc1 n (lets c) i = true := fun i hi => rngAt h1 hi
  have ha : ∀ i, i < c.length → lw (c.getD i 0) = ltr (c.getD i 0) ∧ 1 ≤ ltr (c.getD i 0) ∧ ltr (c.getD i 0) ≤ n := fun i hi => by
    have := hs i hi
    unfold asc1 at this
    rw [Bool.and_eq_true, lets_at hi] at this
    exact (lw_in this.1).2
  have hup : ∀ i, i + 1 < c.length → ltr (c.getD i 0) < ltr (c.getD (i + 1) 0) := fun i hi => by
    have := hs (i + 1) hi
    unfold asc1 at this
    rw [Bool.and_eq_true, lets_at hi, Nat.add_sub_cancel, lets_at (by omega)] at this
    have h2 := this.2
    rw [(ha i (by omega)).1, (ha (i + 1) hi).1] at h2
    simpa using h2
  refine ⟨hn.1, hn.2, fun i hi => (ha i hi).2, ?_⟩
  intro i j hij
  induction j with
  | zero => omega
  | succ j ih =>
    intro hj
    have h1 := hup j hj
    by_cases e : i = j
    · subst e; exact h1
    · have := ih (by omega) (by omega); omega
theorem clB_of {n : Int} {c : List Int} (h : ClOk n c) : clB n c = true := by
  have ha : ∀ i, i < c.length → lw (c.getD i 0) = ltr (c.getD i 0) := fun i hi => by
    refine lw_ltr fun e => ?_
    have := (h.a i hi).2
    rw [e] at this
    have h3 := h.n2
    unfold ltr at this
    omega
  unfold clB alB
  rw [Bool.and_eq_true, lets_len]
  refine ⟨rngAll fun i hi => ?_, by unfold inB; simp [h.n1, h.n2]⟩
  unfold asc1
  rw [Bool.and_eq_true, lets_at hi, ha i hi]
  refine ⟨by unfold inB; rw [decide_eq_true (h.a i hi).1, decide_eq_true (h.a i hi).2]; rfl, ?_⟩
  by_cases e : i = 0
  · simp [e]
  · rw [lets_at (by omega), ha (i - 1) (by omega)]
    have := h.up (i - 1) i (by omega) hi
    rw [decide_eq_true this, Bool.or_true]
theorem litsB_of {n : Int} {c : List Int} (h : ClOk n c) : litsB n c = true := by
  refine rngAll fun i hi => ?_
  unfold lit1
  have h1 := h.a i hi
  have h0 : c.getD i 0 ≠ 0 := by intro e; rw [e] at h1; unfold ltr at h1; omega
  have h2 : inB (c.getD i 0) (-n) n = true := by
    unfold inB
    have : -n ≤ c.getD i 0 ∧ c.getD i 0 ≤ n := by
      unfold ltr at h1
      split at h1 <;> omega
    rw [decide_eq_true this.1, decide_eq_true this.2]; rfl
  rw [h2, seenA_none fun j hj => by have := h.up j i hj hi; omega]
  simpa using h0
theorem spcl_eq (n : Int) (c : List Int) : spcl n c = clB n c := by
  rw [Bool.eq_iff_iff]
  constructor
  · intro h
    unfold spcl at h
    rw [Bool.and_eq_true, Bool.and_eq_true] at h
    obtain ⟨h1, h2, h3⟩ := h
    have hn := inB_ok h1
    have hl : ∀ i, i < c.length → lit1 n c i = true := fun i hi => rngAt h2 hi
    have ho : ∀ i, i < c.length → ord1 c i = true := fun i hi => rngAt h3 hi
    have hup : ∀ i, i + 1 < c.length → ltr (c.getD i 0) < ltr (c.getD (i + 1) 0) := fun i hi => by
      have k1 := hl (i + 1) hi
      have k2 := ho (i + 1) hi
      unfold lit1 at k1
      unfold ord1 at k2
      simp only [Bool.and_eq_true, Bool.not_eq_true'] at k1
      have k3 := seenA_no k1.2.2 (Nat.lt_succ_self i)
      rw [Nat.add_sub_cancel] at k2
      simp at k2
      simp only [List.getD] at k3 ⊢
      omega
    refine clB_of ⟨hn.1, hn.2, fun i hi => ?_, ?_⟩
    · have k1 := hl i hi
      unfold lit1 at k1
      simp only [Bool.and_eq_true, Bool.not_eq_true', beq_eq_false_iff_ne] at k1
      have k2 := inB_ok k1.1
      unfold ltr
      have := k1.2.1
      split <;> omega
    · intro i j hij
      induction j with
      | zero => omega
      | succ j ih =>
        intro hj
        have h1 := hup j hj
        by_cases e : i = j
        · subst e; exact h1
        · have := ih (by omega) (by omega); omega
  · intro h
    have h := clB_ok h
    unfold spcl
    rw [Bool.and_eq_true, Bool.and_eq_true]
    refine ⟨by unfold inB; simp [h.n1, h.n2], litsB_of h, rngAll fun i hi => ?_⟩
    unfold ord1
    by_cases e : i = 0
    · simp [e]
    · have := h.up (i - 1) i (by omega) hi
      simp only [Bool.or_eq_true, Bool.not_eq_true', decide_eq_false_iff_not]
      right; omega
theorem ClOk.len {n : Int} {c : List Int} (h : ClOk n c) : c.length ≤ n.toNat := by
  have : ∀ i, i < c.length → (i : Int) + 1 ≤ ltr (c.getD i 0) := by
    intro i
    induction i with
    | zero => intro hi; have := h.a 0 hi; omega
    | succ i ih => intro hi; have h1 := h.up i (i + 1) (Nat.lt_succ_self _) hi; have := ih (by omega); omega
  by_cases h0 : c.length = 0
  · omega
  · have h1 := this (c.length - 1) (by omega)
    have h2 := h.a (c.length - 1) (by omega)
    omega
end Go.Proofs.Ytnakpfbeeekmiaa
/- An integer in a list (plain). -/
namespace Go.Proofs.Ytnakpfbeeekmiaa

def inS (S : List Int) (x : Int) : Bool := (List.range S.length).any fun i => S.getD i 0 == x
end Go.Proofs.Ytnakpfbeeekmiaa
/- Is an integer in a list? Both sides. -/
namespace Go.Proofs.Ytnakpfbeeekmiaa
open Go.RowKit Go.ChangeShapes Go.WideShapes

theorem any_yes {S : List Int} {x : Int} {k : Nat} (hk : k < S.length) (h : (S.getD k 0 == x) = true) : inS S x = true := by
  unfold inS
  rw [List.any_eq_true]
  exact ⟨k, List.mem_range.2 hk, h⟩
theorem any_no {S : List Int} {x : Int} (h : ∀ k, k < S.length → (S.getD k 0 == x) = false) : inS S x = false := by
  unfold inS
  rw [Bool.eq_false_iff]
  intro hc
  obtain ⟨k, hk, h1⟩ := List.any_eq_true.1 hc
  rw [h k (List.mem_range.1 hk)] at h1; cases h1

theorem l00Has_any (v : Value) (S : List Int) (x : Int) (w : World) (hv : IL w v S) (hn : S.length ≤ 1048576) :
    Calls Try.prog 69 #[v, .int .i64 x] w fun e w' => e = .returned (.bool (inS S x)) ∧ w = w' := by
  rcases hv with ⟨rfl, ao, cap, rfl⟩ | ⟨b, off, cap, rfl, hpos, hbl, hcell⟩
  · go_enter Try.func69, Try.ntmps69
    go_wp2
    refine wp_loop_rounds 1 ?_
    rw [rounds_succ]
    go_wp2
    go_ret
    exact ⟨rfl, rfl⟩
  · have HC := Lib.hid hcell
    clear hcell
    go_enter Try.func69, Try.ntmps69
    go_wp2
    go_loop [5] (fun i => ∃ k : Nat, k ≤ S.length ∧ i = .int .i64 k ∧ ∀ j, j < k → (S.getD j 0 == x) = false) (fun i => S.length - (intOf i).toNat)
    case atStart => exact ⟨0, Nat.zero_le _, rfl, fun j hj => by omega⟩
    case round =>
      obtain ⟨k, hk, rfl, hall⟩ := hrel
      have HL := Lib.hid hall
      clear hall
      by_cases hlt : k < S.length
      · have c1 := HC.out k hlt
        obtain ⟨y, hy⟩ : ∃ y, y = S.getD k 0 := ⟨_, rfl⟩
        rw [← hy] at c1
        have HY := Lib.hid hy
        clear hy
        cases ht : (y == x) with
        | true =>
          have T := Lib.hid ht
          go_wp2_with fail
          go_ret
          exact ⟨ret_bool (any_yes hlt (by rw [← HY.out]; exact T.out)).symm, rfl⟩
        | false =>
          have T := Lib.hid ht
          go_wp2_with fail
          go_round
          case rel => exact ⟨k + 1, by omega, by go_num, fun j hj => by
            by_cases e : j = k
            · subst e; rw [← HY.out]; exact T.out
            · exact HL.out j (by omega)⟩
          case measure => simp [intOf]; omega
      · obtain rfl : k = S.length := by omega
        go_wp2_with fail
        go_ret
        exact ⟨ret_bool (any_no HL.out).symm, rfl⟩
/-- The index at which a list holds a number first, -1 if it does not. -/
def IndexOf (S : List Int) (x : Int) (w : World) (e : Ending) (w' : World) : Prop := ∃ n : Int, e = .returned (.int .i64 n) ∧ decide (n ≥ 0) = inS S x ∧ w = w'
theorem index_any (v : Value) (S : List Int) (x : Int) (w : World) (hv : IL w v S) (hn : S.length ≤ 1048576) :
    Calls Try.prog 90 #[v, .int .i64 x] w (IndexOf S x w) := by
  rcases hv with ⟨rfl, ao, cap, rfl⟩ | ⟨b, off, cap, rfl, hpos, hbl, hcell⟩
  · go_enter Try.func90, Try.ntmps90
    go_wp2
    refine wp_loop_rounds 1 ?_
    rw [rounds_succ]
    go_wp2
    go_ret
    exact ⟨_, rfl, by show decide ((-1 : Int) ≥ 0) = false; decide, rfl⟩
  · have HC := Lib.hid hcell
    clear hcell
    go_enter Try.func90, Try.ntmps90
    go_wp2
    go_loop [8] (fun i => ∃ k : Nat, k ≤ S.length ∧ i = .int .i64 k ∧ ∀ j, j < k → (S.getD j 0 == x) = false) (fun i => S.length - (intOf i).toNat)
    case atStart => exact ⟨0, Nat.zero_le _, rfl, fun j hj => by omega⟩
    case round =>
      obtain ⟨k, hk, rfl, hall⟩ := hrel
      have HL := Lib.hid hall
      clear hall
      by_cases hlt : k < S.length
      · have c1 := HC.out k hlt
        obtain ⟨y, hy⟩ : ∃ y, y = S.getD k 0 := ⟨_, rfl⟩
        rw [← hy] at c1
        have HY := Lib.hid hy
        clear hy
        cases ht : (x == y) with
        | true =>
          have T := Lib.hid (show (y == x) = true by rw [BEq.comm]; exact ht)
          go_wp2_with fail
          go_ret
          exact ⟨_, rfl, by rw [any_yes hlt (by rw [← HY.out]; exact T.out)]; simp, rfl⟩
        | false =>
          have T := Lib.hid (show (y == x) = false by rw [BEq.comm]; exact ht)
          go_wp2_with fail
          go_round
          case rel => exact ⟨k + 1, by omega, by go_num, fun j hj => by
            by_cases e : j = k
            · subst e; rw [← HY.out]; exact T.out
            · exact HL.out j (by omega)⟩
          case measure => simp [intOf]; omega
      · obtain rfl : k = S.length := by omega
        go_wp2_with fail
        go_ret
        exact ⟨_, rfl, by rw [any_no HL.out]; decide, rfl⟩
theorem contains_any (v : Value) (S : List Int) (x : Int) (w : World) (hv : IL w v S) (hn : S.length ≤ 1048576) :
    Calls Try.prog 71 #[v, .int .i64 x] w fun e w' => e = .returned (.bool (inS S x)) ∧ w = w' := by
  have HV := Lib.hid hv
  obtain ⟨ao, cap, rfl⟩ := hv.long
  clear hv
  go_enter Try.func71, Try.ntmps71
  go_wp2_with fail
  go_at_call 90; refine (index_any _ S x _ HV.out hn).mono ?_; rintro e w' ⟨n, rfl, hd, rfl⟩
  have HD := Lib.hid hd
  clear hd
  go_wp2_with fail
  go_ret
  exact ⟨ret_bool HD.out, rfl⟩
end Go.Proofs.Ytnakpfbeeekmiaa
/- Lists that grow by append, of the call's own. -/
namespace Go.Proofs.Ytnakpfbeeekmiaa
open Go.RowKit Go.ChangeShapes Go.WideShapes

section
variable {α : Type} {mk : α → Value} {d : α}
/-- v is nil and Z empty, or v is a row, in a block from B on, that begins with Z and may be appended to. -/
def Grows (mk : α → Value) (E : TypeId) (B : Nat) (v : Value) (Z : List α) (w : World) : Prop := w.ownsRow B E 1 v Z.length (Z.map mk)
theorem Grows.drewN {E B : Nat} {v : Value} {Z : List α} {w : World} (h : Grows mk E B v Z w) (n : Nat) : Grows mk E B v Z (w.drewN n) := h
theorem Grows.alloc {E B : Nat} {v : Value} {Z : List α} {w : World} (h : Grows mk E B v Z w) (o : Obj) : (w.alloc o).ownsRow B E 1 v Z.length (Z.map mk) := World.ownsRow.alloc h o
theorem Grows.nil (mk : α → Value) (E B : Nat) (w : World) : Grows mk E B (.slice none 0 0) [] w := World.ownsRow_nil w B E 1
theorem Grows.empty (mk : α → Value) (E B : Nat) (w : World) (h : B ≤ w.heap.size) : Grows mk E B (.slice (some ⟨w.heap.size, 0, none⟩) 0 0) [] (w.alloc (.cells #[] E)) := World.ownsRow_made w #[] 0 h (Nat.zero_le _) rfl
theorem Grows.more {E B m : Nat} {v : Value} {Z news : List α} {w : World} (hm : news.length = m) (h : w.ownsRow B E 1 v (Z.length + m) (Z.map mk ++ news.map mk)) : Grows mk E B v (Z ++ news) w := by
  unfold Grows
  rw [List.length_append, List.map_append, hm]
  exact h
theorem Grows.si {E B : Nat} {v : Value} {Z : List α} {w : World} (h : Grows mk E B v Z w) : SI mk d B w.heap.size w v Z := by
  have h0 := h
  refine ⟨Nat.le_refl _, ?_⟩
  rcases h.2 with ⟨hv, hn⟩ | ⟨g, cap, cur, rfl, hb, hg, hn, hc, hs, ht⟩
  · exact Or.inl ⟨List.eq_nil_of_length_eq_zero hn, none, 0, by rw [hv]⟩
  · by_cases hz : Z.length = 0
    · have : Z = [] := List.eq_nil_of_length_eq_zero hz
      subst this
      exact Or.inl ⟨rfl, _, _, rfl⟩
    · refine Or.inr ⟨g, 0, cap - Z.length, by rw [Nat.add_sub_cancel' hn], by omega, hb, (Array.getElem?_eq_some_iff.1 hg).1, fun i => ?_, fun i hi => ?_⟩
      · simp [World.frozen?, hg]
      · rw [Nat.zero_add]
        simp only [World.cell?, hg]
        have h1 : (cur.toList.take (Z.length * 1))[i]? = (Z.map mk)[i]? := by rw [ht]
        rw [List.getElem?_take, if_pos (by omega)] at h1
        simp only [Option.isSome_none, Bool.false_eq_true, if_false]
        rw [← Array.getElem?_toList, h1]
        simp [List.getD, hi]
theorem Grows.block {E B : Nat} {v : Value} {Z : List α} {w : World} (h : Grows mk E B v Z w) : ∀ k, v.ownBlock = some k → B ≤ k := fun k hk => (World.ownsRow.lt h k hk).1
theorem one_new {w : World} {o : Value} {T : TypeId} : ∀ j u, [o][j]? = some u → (w.alloc (.cells #[o] T)).cell? ((⟨w.heap.size, 0, none⟩ : Addr).add j) = some u := by
  intro j u hu
  cases j with
  | zero =>
    simp at hu
    subst hu
    exact World.cell?_alloc_new _ _ _ _
  | succ j => simp at hu
end
end Go.Proofs.Ytnakpfbeeekmiaa
/- Lists that grow, kept over calls. -/
namespace Go.Proofs.Ytnakpfbeeekmiaa
open Go.RowKit Go.ChangeShapes Go.WideShapes

theorem Grows.below {α : Type} {mk : α → Value} {E B C : Nat} {v : Value} {Z : List α} {w w' : World} (h : Grows mk E B v Z w) (hb : Below C w w') (hC : w.heap.size ≤ C) : Grows mk E B v Z w' := by
  obtain ⟨h1, h2⟩ := h
  refine ⟨h1, ?_⟩
  rcases h2 with h2 | ⟨g, cap, cur, e, hB, hg, hr⟩
  · exact Or.inl h2
  · refine Or.inr ⟨g, cap, cur, e, hB, (hb.block g ?_).trans hg, hr⟩
    have := (Array.getElem?_eq_some_iff.1 hg).1
    omega
/-- A literal of one element that may be appended to. -/
theorem Grows.one {α : Type} (mk : α → Value) (E B : Nat) (w : World) (x : α) (h : B ≤ w.heap.size) : Grows mk E B (.slice (some ⟨w.heap.size, 0, none⟩) 1 1) [x] (w.alloc (.cells #[mk x] E)) :=
  ⟨by simp, Or.inr ⟨w.heap.size, 1, #[mk x], rfl, h, heap_alloc_new w _, Nat.le_refl _, by decide, rfl, by simp⟩⟩
end Go.Proofs.Ytnakpfbeeekmiaa
/- The literals of a clause whose opposites are not known: the program. -/
namespace Go.Proofs.Ytnakpfbeeekmiaa
open Go.RowKit Go.ChangeShapes Go.WideShapes

def rst (K c : List Int) : List Int := c.filter fun x => !inS K (-x)
theorem rst_len (K c : List Int) : (rst K c).length ≤ c.length := List.length_filter_le _ _
theorem rst_yes {K c : List Int} {k : Nat} (h : k < c.length) (hy : inS K (-(c.getD k 0)) = false) : rst K (c.take (k + 1)) = rst K (c.take k) ++ [c.getD k 0] := by
  have e : c.take (k + 1) = c.take k ++ [c.getD k 0] := by
    rw [List.take_succ_eq_append_getElem h]; simp [List.getD, h]
  unfold rst
  rw [e, List.filter_append]; simp only [List.filter_cons, hy]; rfl
theorem rst_no {K c : List Int} {k : Nat} (h : k < c.length) (hy : inS K (-(c.getD k 0)) = true) : rst K (c.take (k + 1)) = rst K (c.take k) := by
  have e : c.take (k + 1) = c.take k ++ [c.getD k 0] := by
    rw [List.take_succ_eq_append_getElem h]; simp [List.getD, h]
  unfold rst
  rw [e, List.filter_append]; simp only [List.filter_cons, hy]; simp
/-- A new list that may be appended to. -/
def GrownI (Z : List Int) (w : World) (e : Ending) (w' : World) : Prop := ∃ v, e = .returned v ∧ Grows (Value.int .i64) 2 w.heap.size v Z w' ∧ Below w.heap.size w w'
set_option maxHeartbeats 2000000 in
theorem restOf_any (v u : Value) (c K : List Int) (w : World) (hv : IL w v c) (hu : IL w u K) (hc : c.length ≤ 64) (hK : K.length ≤ 1048576) (hr : ∀ i, i < c.length → -1000 ≤ c.getD i 0 ∧ c.getD i 0 ≤ 1000) :
    Calls Try.prog 73 #[v, u] w (GrownI (rst K c) w) := by
  obtain ⟨i0, hi, hz0, hz1, hz2⟩ := info_parts Try.infoI
  have HU : Hid (∀ W, Below w.heap.size w W → IL W u K) := Lib.hid fun W h => hu.below h (Nat.le_refl _)
  have HR := Lib.hid hr
  obtain ⟨ku, kc, rfl⟩ := hu.long
  have HC : Hid (∀ W, Below w.heap.size w W → ∀ k, k < c.length → ∃ b off cap, v = .slice (some ⟨b, off, none⟩) c.length (c.length + cap) ∧ W.cell? ⟨b, off + k, none⟩ = some (.int .i64 (c.getD k 0))) := Lib.hid fun W h k hk => by
    rcases hv with ⟨hz, -⟩ | ⟨b, off, cap, e, hpos, hbl, hcell⟩
    · rw [hz] at hk; simp at hk
    · exact ⟨b, off, cap, e, by rw [h.cell (p := ⟨b, off + k, none⟩) hbl]; exact hcell k hk⟩
  obtain ⟨ao, cp, e0⟩ := hv.long
  subst e0
  clear hv hu hr
  go_enter Try.func73, Try.ntmps73
  go_wp2_with fail
  go_loopg [5, 10] c.length (fun gk s i wr => ∃ k : Nat, k ≤ c.length ∧ gk + k = c.length ∧ i = .int .i64 k ∧ Grows (Value.int .i64) 2 w.heap.size s (rst K (c.take k)) wr ∧ Below w.heap.size w wr)
  case atStart => exact ⟨0, Nat.zero_le _, by omega, rfl, Grows.nil _ _ _ _, Below.refl _ _⟩
  case round =>
    obtain ⟨k, hk, hgk, rfl, hG, hB⟩ := hrel
    have HG := Lib.hid hG
    have HB := Lib.hid hB
    clear hG hB
    by_cases hlt : k < c.length
    · obtain ⟨b, off, cap, e, cx⟩ := HC.out _ HB.out k hlt
      injection e with e1 _ e3
      subst e1
      obtain ⟨x1, x2⟩ := HR.out k hlt
      have RY := Lib.hid (@rst_yes K c k hlt)
      have RN := Lib.hid (@rst_no K c k hlt)
      have hl := rst_len K (c.take k)
      have htl : (c.take k).length = k := by simp; omega
      rw [htl] at hl
      generalize rst K (c.take k) = T at HG RY RN hl
      generalize c.getD k 0 = x at cx x1 x2 RY RN
      have wx : IntKind.i64.wrap (-x) = -x := IntWalk.i64_in _ (by omega)
      have HI := Lib.hid (HU.out _ HB.out)
      clear e3 htl
      cases hs : inS K (-x) with
      | true =>
        have HS := Lib.hid hs
        have HN := Lib.hid (RN.out hs)
        clear hs RY RN
        go_wp2_with fail
        go_at_call 71; refine (contains_any _ K (-x) _ HI.out hK).mono ?_; rintro e w4 ⟨rfl, rfl⟩
        rw [HS.out]
        go_wp2_with fail
        go_roundg (gk - 1)
        case measure => omega
        case rel => exact ⟨k + 1, by omega, by omega, by go_num, by rw [HN.out]; exact HG.out, HB.out⟩
      | false =>
        have HS := Lib.hid hs
        have HN := Lib.hid (RY.out hs)
        clear hs RY RN
        go_wp2_with fail
        go_at_call 71; refine (contains_any _ K (-x) _ HI.out hK).mono ?_; rintro e w4 ⟨rfl, rfl⟩
        rw [HS.out]
        go_wp2_with (at_builtin; (refine wpList_append_own _ rfl _ _ 25 rfl w.heap.size 2 i0 (.int .i64 0) 1 8 Try.underlying25 hi hz0 hz1 hz2 rfl (by decide) _ _ _ rfl (Grows.alloc HG.out _) ⟨wr.heap.size, 0, none⟩ 1 1 [.int .i64 x] rfl rfl one_new (by intro u hu; simp at hu; subst hu; rfl) (by unfold maxLen; omega) (by omega) (by have := HB.out.size; simp; omega) ?_); intro v' w8 hown hgrow _; (have G8 : Hid (Grows (Value.int .i64) 2 w.heap.size v' (T ++ [x]) w8) := Lib.hid (Grows.more rfl hown)); (have B8 : Hid (Below w.heap.size w w8) := Lib.hid ((HB.out.alloc HB.out.size _).grown hgrow (by have := HB.out.size; simp; omega) (fun q hq => (World.ownsRow.lt HG.out q hq).1))); clear hown hgrow)
        go_roundg (gk - 1)
        case measure => omega
        case rel => exact ⟨k + 1, by omega, by omega, by go_num, by rw [HN.out]; exact G8.out, B8.out⟩
    · obtain rfl : k = c.length := by omega
      have HG2 : Hid (Grows (Value.int .i64) 2 w.heap.size u5 (rst K c) wr) := Lib.hid (by have h := HG.out; rwa [List.take_length] at h)
      go_wp2_with fail
      refine bodyPost_ret (results_tmp rfl _ _ _) rfl ?_
      exact ⟨_, rfl, HG2.out, HB.out⟩
end Go.Proofs.Ytnakpfbeeekmiaa
/- Letters and clauses: the program's side. -/
namespace Go.Proofs.Ytnakpfbeeekmiaa
open Go.RowKit Go.ChangeShapes Go.WideShapes

theorem drewM {w wr : World} (h : ∃ n, wr = w.drewN n) (m : Nat) : ∃ n, wr.drewN m = w.drewN n := by
  obtain ⟨n, rfl⟩ := h
  exact ⟨n + m, World.drewN_drewN _ _ _⟩
theorem Tells.from {b : Bool} {w wr : World} {m : Nat} (h : ∀ m, ∃ n, wr.drewN m = w.drewN n) {c : Bool} (e : c = b) : Tells c w (.returned (.bool b)) (wr.drewN m) := by
  obtain ⟨n, hn⟩ := h m
  exact ⟨by rw [e], n, hn⟩
theorem letterOf_is (x : Int) (w : World) (h1 : -9223372036854775808 ≤ x) (h2 : x ≤ 9223372036854775807) :
    Calls Try.prog 120 #[.int .i64 x] w (fun e w' => e = .returned (.int .i64 (lw x)) ∧ w = w') := by
  by_cases h0 : x = -9223372036854775808
  · have hw : IntKind.i64.wrap (-x) = x := by rw [IntKind.wrap_i64]; omega
    have hl : lw x = x := by unfold lw; rw [if_pos h0]
    rw [hl]
    clear h0 hl h1 h2
    go_enter Try.func120, Try.ntmps120
    go_wp2
    go_ret
    exact ⟨rfl, rfl⟩
  · rw [lw_ltr h0]
    have hw : IntKind.i64.wrap (-x) = -x := by rw [IntKind.wrap_i64]; omega
    by_cases h3 : x < 0
    · have hl : ltr x = -x := by unfold ltr; rw [if_pos h3]
      have hm : ¬ (-x ≤ x) := by omega
      have hm2 : x ≤ -x := by omega
      have hmm : max x (-x) = -x := by omega
      rw [hl]
      go_enter Try.func120, Try.ntmps120
      go_wp2
      go_ret
      exact ⟨rfl, rfl⟩
    · have hl : ltr x = x := by unfold ltr; rw [if_neg h3]
      rw [hl]
      have hm : -x ≤ x := by omega
      have hmm : max x (-x) = x := by omega
      go_enter Try.func120, Try.ntmps120
      go_wp2
      go_ret
      exact ⟨rfl, rfl⟩
def letsK (c : List Int) (k : Nat) : List Int := (lets c).take k
theorem lets_take (c : List Int) (k : Nat) (h : k < c.length) : letsK c (k + 1) = letsK c k ++ [lw (c.getD k 0)] := by
  unfold letsK
  rw [List.take_add_one, ← lets_at h]
  have : k < (lets c).length := by rw [lets_len]; exact h
  simp [List.getD, this]
set_option maxRecDepth 100000 in
set_option maxHeartbeats 4000000 in
theorem lettersOf_any (v : Value) (c : List Int) (w : World) (hv : IL w v c) (hn : c.length ≤ 1048576) (hx : ∀ i, -9223372036854775808 ≤ c.getD i 0 ∧ c.getD i 0 ≤ 9223372036854775807) :
    Calls Try.prog 101 #[v] w (Made (Value.int .i64) (0 : Int) (lets c) w) := by
  obtain ⟨i0, hi, hz0, hz1, hz2⟩ := info_parts Try.infoI
  rcases hv with ⟨rfl, ao, cap, rfl⟩ | ⟨b, off, cap, rfl, hpos, hbl, hcell⟩
  · go_enter Try.func101, Try.ntmps101
    go_wp2_with fail
    refine wp_loop_rounds 1 ?_
    rw [rounds_succ]
    go_wp2
    refine bodyPost_ret (results_tmp rfl _ _ _) rfl ?_
    exact ⟨_, rfl, SI.nil _ (Nat.le_refl _) _ _, Below.refl _ _⟩
  have HC := Lib.hid hcell
  have HX := Lib.hid hx
  clear hcell hx
  go_enter Try.func101, Try.ntmps101
  go_wp2_with fail
  go_loopg [3, 8] c.length (fun gk v i wr => ∃ k : Nat, k ≤ c.length ∧ gk + k = c.length ∧ i = .int .i64 k ∧ Below w.heap.size w wr ∧ Grows (Value.int .i64) 2 w.heap.size v (letsK c k) wr)
  case atStart => exact ⟨0, Nat.zero_le _, by omega, rfl, Below.refl _ _, Grows.nil _ _ _ _⟩
  case round =>
    obtain ⟨k, hk, hgk, rfl, hB, hG⟩ := hrel
    have HB := Lib.hid hB
    have HG := Lib.hid hG
    by_cases hlt : k < c.length
    · have HML : Hid ((letsK c k).length = k) := Lib.hid (by unfold letsK; rw [List.length_take, lets_len]; omega)
      have c0 : wr.cell? ⟨b, off + k, none⟩ = some (.int .i64 (c.getD k 0)) := by rw [hB.cell (p := ⟨b, off + k, none⟩) hbl]; exact HC.out k hlt
      have HUP := Lib.hid (lets_take c k hlt)
      have hr := HX.out k
      generalize c.getD k 0 = x at c0 HUP hr
      have HR := Lib.hid hr
      clear hB hG hr
      go_wp2_with fail
      go_at_call 120; refine (letterOf_is x _ HR.out.1 HR.out.2).mono ?_; rintro e w' ⟨rfl, rfl⟩
      go_wp2_with (at_builtin; refine wpList_append_own _ rfl _ _ 25 rfl w.heap.size 2 i0 (.int .i64 0) 1 8 Try.underlying25 hi hz0 hz1 hz2 rfl (by decide) _ _ _ rfl (Grows.alloc HG.out _) ⟨wr.heap.size, 0, none⟩ 1 1 [.int .i64 (lw x)] rfl rfl ?c1 ?c2 ?c3 ?c4 ?c5 ?_)
      case c1 => exact one_new
      case c2 => intro u hu; simp at hu; subst hu; rfl
      case c3 => rw [HML.out]; unfold maxLen; omega
      case c4 => rw [HML.out]; omega
      case c5 => have := HB.out.size; simp; omega
      intro v' w' hown hgrow _
      have HN2 : Hid (Below w.heap.size w w' ∧ Grows (Value.int .i64) 2 w.heap.size v' (letsK c (k + 1)) w') := Lib.hid ⟨(HB.out.alloc HB.out.size _).grown hgrow (by have := HB.out.size; simp; omega) (fun g hg => HG.out.block g hg), by rw [HUP.out]; exact Grows.more (news := [lw x]) rfl hown⟩
      clear hown hgrow c0
      go_wp2_with fail
      go_roundg (gk - 1)
      case measure => omega
      case rel => exact ⟨k + 1, by omega, by omega, by go_num, HN2.out.1, HN2.out.2⟩
    · obtain rfl : k = c.length := by omega
      have HE : Hid (letsK c c.length = lets c) := Lib.hid (List.take_of_length_le (by rw [lets_len]; omega))
      clear hB hG
      go_wp2_with fail
      refine bodyPost_ret (results_tmp rfl _ _ _) rfl ?_
      exact ⟨_, rfl, by have h := HG.out; rw [HE.out] at h; exact h.si, HB.out⟩
theorem alB_step {n : Int} {L : List Int} {k : Nat} (hk : k < L.length) (h : asc1 n L k = false) : alB n L = false := by
  unfold alB
  rw [rngNot hk h, Bool.false_and]
theorem alB_end {n : Int} {L : List Int} (h : ∀ j, j < L.length → asc1 n L j = true) : alB n L = inB n 1 10 := by
  unfold alB
  rw [rngAll h, Bool.true_and]
set_option maxHeartbeats 4000000 in
theorem areLetters_any (n : Int) (v : Value) (L : List Int) (w : World) (hv : IL w v L) (hn : L.length ≤ 1048576) :
    Calls Try.prog 111 #[.int .i64 n, v] w (Tells (alB n L) w) := by
  rcases hv with ⟨rfl, ao, cap, rfl⟩ | ⟨b, off, cap, rfl, hpos, hbl, hcell⟩
  · obtain ⟨t, ht⟩ : ∃ t, t = alB n [] := ⟨_, rfl⟩
    have H0 := Lib.hid (show (decide (1 ≤ n) && decide (n ≤ 10)) = t by rw [ht]; rfl)
    rw [← ht]
    clear ht
    go_enter Try.func111, Try.ntmps111
    go_wp2_with fail
    refine wp_loop_rounds 1 ?_
    rw [rounds_succ]
    go_wp2_with fail
    go_at_call 56; refine (isFrom_is t n 1 10 _ H0.out).mono ?_; rintro e w' ⟨rfl, m, rfl⟩
    go_wp2_with fail
    go_ret
    exact tells _ rfl
  have HC := Lib.hid hcell
  clear hcell
  go_enter Try.func111, Try.ntmps111
  go_wp2_with fail
  go_loopg [9] L.length (fun gk i wr => ∃ k : Nat, k ≤ L.length ∧ gk + k = L.length ∧ i = .int .i64 k ∧ (∀ j, j < k → asc1 n L j = true) ∧ ∃ m, wr = w.drewN m)
  case atStart => exact ⟨0, Nat.zero_le _, by omega, rfl, fun j hj => by omega, 0, rfl⟩
  case round =>
    obtain ⟨k, hk, hgk, rfl, hall, hwr⟩ := hrel
    have HL := Lib.hid hall
    have HW := Lib.hid (drewM hwr)
    clear hall
    by_cases hlt : k < L.length
    · have c0 : wr.cell? ⟨b, off + k, none⟩ = some (.int .i64 (L.getD k 0)) := by obtain ⟨n, rfl⟩ := hwr; exact HC.out k hlt
      by_cases hk0 : k = 0
      · subst hk0
        obtain ⟨t, ht⟩ : ∃ t, t = inB (L.getD 0 0) 1 n := ⟨_, rfl⟩
        have HA : Hid (asc1 n L 0 = t) := Lib.hid (by unfold asc1; rw [ht]; simp)
        generalize L.getD 0 0 = x at c0 ht
        have HT := Lib.hid (show (decide (1 ≤ x) && decide (x ≤ n)) = t from ht.symm)
        clear hwr ht
        rw [Nat.add_zero] at c0
        cases t with
        | false =>
          go_wp2_with fail
          go_at_call 56; refine (isFrom_is false x 1 n _ HT.out).mono ?_; rintro e w' ⟨rfl, m, rfl⟩
          go_wp2_with fail
          go_ret
          exact Tells.from HW.out (alB_step hlt HA.out)
        | true =>
          go_wp2_with fail
          go_at_call 56; refine (isFrom_is true x 1 n _ HT.out).mono ?_; rintro e w' ⟨rfl, m, rfl⟩
          go_wp2_with fail
          go_roundg (gk - 1)
          case measure => omega
          case rel => exact ⟨1, by omega, by omega, by go_num, fun j hj => by obtain rfl : j = 0 := by omega
                                                                              exact HA.out, HW.out m⟩
      · have d0 : wr.cell? ⟨b, off + (k - 1), none⟩ = some (.int .i64 (L.getD (k - 1) 0)) := by obtain ⟨n, rfl⟩ := hwr; exact HC.out (k - 1) (by omega)
        have hgt : decide (0 < k) = true := by simp; omega
        have hgt2 : decide ((0 : Int) < (k : Int)) = true := by simp; omega
        have hsub : ((k : Int) - 1).toNat = k - 1 := by omega
        have hsl : (k : Int) - 1 < (L.length : Int) := by omega
        have hsz : (0 : Int) ≤ (k : Int) - 1 := by omega
        obtain ⟨t, ht⟩ : ∃ t, t = inB (L.getD k 0) 1 n := ⟨_, rfl⟩
        obtain ⟨q, hq⟩ : ∃ q, q = decide (L.getD (k - 1) 0 < L.getD k 0) := ⟨_, rfl⟩
        have HA : Hid (asc1 n L k = (t && q)) := Lib.hid (by unfold asc1; rw [ht, hq, decide_eq_false hk0, Bool.false_or])
        generalize L.getD k 0 = x at c0 ht hq
        generalize L.getD (k - 1) 0 = y at d0 hq
        have HT := Lib.hid (show (decide (1 ≤ x) && decide (x ≤ n)) = t from ht.symm)
        clear hwr ht
        cases t with
        | false =>
          go_wp2_with fail
          go_at_call 56; refine (isFrom_is false x 1 n _ HT.out).mono ?_; rintro e w' ⟨rfl, m, rfl⟩
          go_wp2_with fail
          go_ret
          exact Tells.from HW.out (alB_step hlt HA.out)
        | true =>
          by_cases hyx : y < x
          · have hge : ¬ x ≤ y := by omega
            rw [decide_eq_true hyx] at hq
            subst hq
            go_wp2_with fail
            go_at_call 56; refine (isFrom_is true x 1 n _ HT.out).mono ?_; rintro e w' ⟨rfl, m, rfl⟩
            go_wp2_with fail
            go_roundg (gk - 1)
            case measure => omega
            case rel => exact ⟨k + 1, by omega, by omega, by go_num, fun j hj => by
              by_cases e : j = k
              · subst e; exact HA.out
              · exact HL.out j (by omega), HW.out m⟩
          · have hge : x ≤ y := by omega
            rw [decide_eq_false hyx] at hq
            subst hq
            go_wp2_with fail
            go_at_call 56; refine (isFrom_is true x 1 n _ HT.out).mono ?_; rintro e w' ⟨rfl, m, rfl⟩
            go_wp2_with fail
            go_ret
            exact Tells.from HW.out (alB_step hlt HA.out)
    · obtain rfl : k = L.length := by omega
      obtain ⟨t, ht⟩ : ∃ t, t = alB n L := ⟨_, rfl⟩
      have H0 := Lib.hid (show (decide (1 ≤ n) && decide (n ≤ 10)) = t by rw [ht, alB_end HL.out]; rfl)
      have HTT := Lib.hid ht.symm
      clear ht hwr
      go_wp2_with fail
      go_at_call 56; refine (isFrom_is t n 1 10 _ H0.out).mono ?_; rintro e w' ⟨rfl, m, rfl⟩
      go_wp2_with fail
      go_ret
      exact Tells.from HW.out HTT.out
theorem implClause_any (n : Int) (v : Value) (c : List Int) (w : World) (hv : IL w v c) (hn : c.length ≤ 1048576) (hx : ∀ i, -9223372036854775808 ≤ c.getD i 0 ∧ c.getD i 0 ≤ 9223372036854775807) :
    Calls Try.prog 85 #[.int .i64 n, v] w (Says (clB n c) w) := by
  have HV := Lib.hid hv
  obtain ⟨ao, cap, rfl⟩ := hv.long
  clear hv
  go_enter Try.func85, Try.ntmps85
  go_wp2_with fail
  go_at_call 101; refine (lettersOf_any _ c _ HV.out hn hx).mono ?_; rintro e w1 ⟨v1, rfl, i1, b1⟩
  have I1 := Lib.hid (II.il i1)
  have B1 := Lib.hid b1
  obtain ⟨x1, y1, rfl⟩ := II.len' i1
  clear i1 b1
  go_wp2_with fail
  go_at_call 111; refine (areLetters_any n _ (lets c) _ I1.out (by rw [lets_len]; exact hn)).mono ?_; rintro e w2 ⟨rfl, m, rfl⟩
  go_wp2_with fail
  go_ret
  exact says rfl (below_drewN B1.out _)
end Go.Proofs.Ytnakpfbeeekmiaa
/- Literals of different letters (plain). -/
namespace Go.Proofs.Ytnakpfbeeekmiaa
open Go.RowKit Go.ChangeShapes Go.WideShapes

/-- What literals of different letters are. -/
structure LitsOk (n : Int) (Z : List Int) : Prop where
  rng : ∀ x ∈ Z, 1 ≤ ltr x ∧ ltr x ≤ n
  nd : (Z.map ltr).Nodup
theorem litsB_ok {n : Int} {Z : List Int} (h : litsB n Z = true) : LitsOk n Z := by
  have each : ∀ i, i < Z.length → lit1 n Z i = true := fun i hi => rngAt h hi
  refine ⟨fun x hx => ?_, ?_⟩
  · obtain ⟨i, hi, rfl⟩ := List.getElem_of_mem hx
    have h1 := each i hi
    have e : Z.getD i 0 = Z[i] := by simp [List.getD, hi]
    unfold lit1 at h1
    rw [e] at h1
    simp only [Bool.and_eq_true, Bool.not_eq_true', beq_eq_false_iff_ne] at h1
    have h2 := inB_ok h1.1
    have h3 := h1.2.1
    unfold ltr
    split <;> omega
  · rw [List.nodup_iff_pairwise_ne, List.pairwise_iff_getElem]
    intro i j hi hj hij
    rw [List.length_map] at hi hj
    have h1 := each j hj
    unfold lit1 at h1
    simp only [Bool.and_eq_true, Bool.not_eq_true'] at h1
    have h2 := seenA_no h1.2.2 hij
    rw [show Z.getD i 0 = Z[i] by simp [List.getD, hi], show Z.getD j 0 = Z[j] by simp [List.getD, hj]] at h2
    simpa using h2
theorem litsB_mk {n : Int} {Z : List Int} (h : LitsOk n Z) : litsB n Z = true := by
  refine rngAll fun i hi => ?_
  have hm : Z.getD i 0 ∈ Z := by rw [show Z.getD i 0 = Z[i] by simp [List.getD, hi]]; exact List.getElem_mem _
  have h1 := h.rng _ hm
  unfold lit1
  have h0 : Z.getD i 0 ≠ 0 := by intro e; rw [e] at h1; unfold ltr at h1; omega
  have h2 : inB (Z.getD i 0) (-n) n = true := by
    have : -n ≤ Z.getD i 0 ∧ Z.getD i 0 ≤ n := by
      unfold ltr at h1
      split at h1 <;> omega
    unfold inB
    rw [decide_eq_true this.1, decide_eq_true this.2]; rfl
  have h3 : seenA Z i (ltr (Z.getD i 0)) = false := seenA_none fun j hj e => by
    have nd := h.nd
    rw [List.nodup_iff_pairwise_ne, List.pairwise_iff_getElem] at nd
    have := nd j i (by rw [List.length_map]; omega) (by rw [List.length_map]; exact hi) hj
    rw [show Z.getD j 0 = Z[j] by simp [List.getD, (show j < Z.length by omega)], show Z.getD i 0 = Z[i] by simp [List.getD, hi]] at e
    simp at this
    exact this e
  rw [h2, h3]
  simp only [Bool.not_false, Bool.and_true, Bool.true_and, Bool.not_eq_true', beq_eq_false_iff_ne]
  exact h0
theorem LitsOk.perm {n : Int} {Z Y : List Int} (h : LitsOk n Z) (p : Y.Perm Z) : LitsOk n Y := ⟨fun x hx => h.rng x (p.mem_iff.1 hx), (p.map ltr).nodup_iff.2 h.nd⟩
end Go.Proofs.Ytnakpfbeeekmiaa
/- Letters and clauses: the model's side. -/
namespace Go.Proofs.Ytnakpfbeeekmiaa
open Go.RowKit Go.ChangeShapes Go.WideShapes

theorem Try.infoB : (Try.prog.info? 4).map (fun i => (i.zero, i.size, i.bytes)) = some (some (.bool false), 1, 1) := by kernel_rfl
theorem Arr.made_b {w : World} {n B e : Nat} (h : w.ownsRow B e 1 (.slice (some ⟨B, 0, none⟩) n n) n (madeCells (Value.bool false).cells (n * 1)).toList) : Arr Value.bool false w B 0 (List.replicate n false) := by
  refine ⟨fun i hi => ?_, h.frozenAt⟩
  rw [List.length_replicate] at hi
  rw [Nat.zero_add, h.cellAt i (by omega)]
  rcases made_one (.bool false) n hi with h1 | h1
  · rw [h1]; simp [Value.cells, List.getD, hi]
  · exact absurd rfl h1
/-- A row of the call's own in block B. -/
structure BoolAt (w : World) (B : Nat) (Z : List Bool) (wr : World) : Prop where
  below : Below w.heap.size w wr
  lt : B < wr.heap.size
  ge : w.heap.size ≤ B
  arr : Arr Value.bool false wr B 0 Z
theorem BoolAt.drew {w wr : World} {B : Nat} {Z : List Bool} (h : BoolAt w B Z wr) (n : Nat) : BoolAt w B Z (wr.drewN n) := ⟨below_drewN h.below n, h.lt, h.ge, h.arr.drewN n⟩
theorem BoolAt.set {w wr : World} {B : Nat} {Z : List Bool} (h : BoolAt w B Z wr) {i : Nat} (hi : i < Z.length) (x : Bool) : BoolAt w B (Z.set i x) (wr.setCell ⟨B, i, none⟩ (.bool x)) :=
  ⟨h.below.setCell h.ge _, by simpa using h.lt, h.ge, h.arr.set0 hi x⟩
theorem BoolAt.to {w wr : World} {B : Nat} {Z Y : List Bool} (h : BoolAt w B Z wr) (e : Z = Y) : BoolAt w B Y wr := e ▸ h
theorem BoolAt.cell {w wr : World} {B : Nat} {Z : List Bool} (h : BoolAt w B Z wr) {i : Nat} (hi : i < Z.length) : wr.cell? ⟨B, i, none⟩ = some (.bool (Z.getD i false)) := h.arr.cell0 hi
theorem l05Letter_is (x : Int) (w : World) (h1 : -9223372036854775808 < x) (h2 : x ≤ 9223372036854775807) :
    Calls Try.prog 64 #[.int .i64 x] w (fun e w' => e = .returned (.int .i64 (ltr x)) ∧ w = w') := by
  have hw : IntKind.i64.wrap (-x) = -x := by rw [IntKind.wrap_i64]; omega
  by_cases h3 : x < 0
  · have hl : ltr x = -x := by unfold ltr; rw [if_pos h3]
    rw [hl]
    go_enter Try.func64, Try.ntmps64
    go_wp2
    go_ret
    exact ⟨rfl, rfl⟩
  · have hl : ltr x = x := by unfold ltr; rw [if_neg h3]
    rw [hl]
    go_enter Try.func64, Try.ntmps64
    go_wp2
    go_ret
    exact ⟨rfl, rfl⟩
theorem l05Letter_at (x : Int) (a : Nat) (w : World) (h1 : -9223372036854775808 < x) (h2 : x ≤ 9223372036854775807) (h : ltr x = (a : Int)) :
    Calls Try.prog 64 #[.int .i64 x] w (fun e w' => e = .returned (.int .i64 (a : Int)) ∧ w = w') := by
  rw [← h]
  exact l05Letter_is x w h1 h2
theorem l05Letters_is (n : Int) (t : Bool) (w : World) (h : inB n 1 10 = t) : Calls Try.prog 77 #[.int .i64 n] w (Tells t w) := by
  have H0 := Lib.hid (show (decide (1 ≤ n) && decide (n ≤ 10)) = t from h)
  clear h
  go_enter Try.func77, Try.ntmps77
  go_wp2_with fail
  go_at_call 78; refine (l00In_is t n 1 10 _ H0.out).mono ?_; rintro e w' ⟨rfl, m, rfl⟩
  go_wp2_with fail
  go_ret
  exact tells _ rfl
/-- Which letters the first k literals have. -/
def seenL (c : List Int) (k : Nat) : List Bool := (List.range 11).map fun a => seenA c k (a : Nat)
theorem seenL_len (c : List Int) (k : Nat) : (seenL c k).length = 11 := by simp [seenL]
theorem seenL_at {c : List Int} {k a : Nat} (h : a < 11) : (seenL c k).getD a false = seenA c k (a : Nat) := by simp [seenL, List.getD, h]
theorem seenL_zero (c : List Int) : List.replicate 11 false = seenL c 0 := by
  refine List.ext_getElem (by simp [seenL]) fun i h1 h2 => ?_
  rw [List.getElem_replicate]
  simp [seenL, seenA]
theorem seenL_step {c : List Int} {k a : Nat} (e : ltr (c.getD k 0) = (a : Nat)) : (seenL c k).set a true = seenL c (k + 1) := by
  refine List.ext_getElem (by simp [seenL]) fun i h1 h2 => ?_
  rw [List.getElem_set]
  simp only [seenL, List.getElem_map, List.getElem_range]
  rw [seenA_succ, e]
  by_cases h : a = i
  · subst h; simp
  · rw [if_neg h]
    have : ((a : Nat) : Int) ≠ ((i : Nat) : Int) := by omega
    rw [beq_false_of_ne this, Bool.or_false]
theorem litsB_no {n : Int} {c : List Int} {k : Nat} (hk : k < c.length) (h : lit1 n c k = false) : litsB n c = false := rngNot hk h
theorem litsB_yes {n : Int} {c : List Int} (h : ∀ j, j < c.length → lit1 n c j = true) : litsB n c = true := rngAll h
set_option maxRecDepth 100000 in
set_option maxHeartbeats 4000000 in
theorem l05Lits_any (n : Int) (v : Value) (c : List Int) (w : World) (hv : IL w v c) (hn : c.length ≤ 1048576) (n1 : 1 ≤ n) (n2 : n ≤ 10) :
    Calls Try.prog 48 #[.int .i64 n, v] w (Says (litsB n c) w) := by
  obtain ⟨i0, hi, hz0, hz1, hz2⟩ := info_parts Try.infoB
  have hwn : IntKind.i64.wrap (-n) = -n := by rw [IntKind.wrap_i64]; omega
  rcases hv with ⟨rfl, ao, cap, rfl⟩ | ⟨b, off, cap, rfl, hpos, hbl, hcell⟩
  · go_enter Try.func48, Try.ntmps48
    go_wp2_with (at_make; refine wpList_make_full _ rfl _ _ 76 rfl w.heap.size 4 i0 (.bool false) 1 Try.underlying76 hi hz0 hz1 _ _ _ _ 11 rfl rfl rfl rfl (by rw [hz2]; omega) (by unfold maxLen; omega) (Nat.le_refl _) ?_; intro w1 hown hgrow)
    have HB := Lib.hid ((Below.refl _ _).grown hgrow (Nat.le_refl _) (fun g hg => by cases hg))
    clear hown hgrow
    go_wp2_with fail
    refine wp_loop_rounds 1 ?_
    rw [rounds_succ]
    go_wp2
    go_ret
    exact says rfl HB.out
  have HC := Lib.hid hcell
  clear hcell
  go_enter Try.func48, Try.ntmps48
  go_wp2_with (at_make; refine wpList_make_full _ rfl _ _ 76 rfl w.heap.size 4 i0 (.bool false) 1 Try.underlying76 hi hz0 hz1 _ _ _ _ 11 rfl rfl rfl rfl (by rw [hz2]; omega) (by unfold maxLen; omega) (Nat.le_refl _) ?_; intro w1 hown hgrow)
  have H0 : Hid (BoolAt w w.heap.size (seenL c 0) w1) := Lib.hid ⟨(Below.refl _ _).grown hgrow (Nat.le_refl _) (fun g hg => by cases hg), (hown.lt _ rfl).2, Nat.le_refl _, by rw [← seenL_zero]; exact Arr.made_b hown⟩
  clear hown hgrow
  go_wp2_with fail
  go_loopg [10] c.length (fun gk i wr => ∃ k : Nat, k ≤ c.length ∧ gk + k = c.length ∧ i = .int .i64 k ∧ (∀ j, j < k → lit1 n c j = true) ∧ BoolAt w w.heap.size (seenL c k) wr)
  case atStart => exact ⟨0, Nat.zero_le _, by omega, rfl, fun j hj => by omega, H0.out⟩
  case round =>
    obtain ⟨k, hk, hgk, rfl, hall, hA⟩ := hrel
    have HL := Lib.hid hall
    have HA := Lib.hid hA
    clear hall H0
    by_cases hlt : k < c.length
    · have c0 : wr.cell? ⟨b, off + k, none⟩ = some (.int .i64 (c.getD k 0)) := by rw [hA.below.cell (p := ⟨b, off + k, none⟩) hbl]; exact HC.out k hlt
      obtain ⟨x, hx⟩ : ∃ x, x = c.getD k 0 := ⟨_, rfl⟩
      obtain ⟨t, ht⟩ : ∃ t, t = inB x (-n) n := ⟨_, rfl⟩
      have hl1 : lit1 n c k = (t && (!(x == 0) && !seenA c k (ltr x))) := by unfold lit1; rw [ht, hx]
      have H1 := Lib.hid hl1
      have HX := Lib.hid hx
      have HT := Lib.hid (show (decide (-n ≤ x) && decide (x ≤ n)) = t from ht.symm)
      rw [← hx] at c0
      cases t with
      | false =>
        clear hA hl1 hx ht
        go_wp2_with fail
        go_at_call 78; refine (l00In_is false x (-n) n _ HT.out).mono ?_; rintro e w' ⟨rfl, m, rfl⟩
        go_wp2_with fail
        go_ret
        exact says (litsB_no hlt H1.out).symm (below_drewN HA.out.below _)
      | true =>
        obtain ⟨x1, x2⟩ := inB_ok ht.symm
        by_cases hx0 : x = 0
        · have HN : Hid (lit1 n c k = false) := Lib.hid (by rw [hl1, hx0]; rfl)
          have e0 : (x == 0) = true := by simpa using hx0
          clear hA hl1 hx ht hx0
          go_wp2_with fail
          go_at_call 78; refine (l00In_is true x (-n) n _ HT.out).mono ?_; rintro e w' ⟨rfl, m, rfl⟩
          go_wp2_with fail
          go_ret
          exact says (litsB_no hlt HN.out).symm (below_drewN HA.out.below _)
        · have e0 : (x == 0) = false := by simpa using hx0
          obtain ⟨a, ha⟩ : ∃ a : Nat, ltr x = (a : Int) := ⟨(ltr x).toNat, by have := ltr_pos x; omega⟩
          have ha1 : a < 11 := by unfold ltr at ha; split at ha <;> omega
          have ha2 : (a : Int) < 11 := by omega
          obtain ⟨s, hs⟩ : ∃ s, s = seenA c k (a : Nat) := ⟨_, rfl⟩
          have r0 : wr.cell? ⟨w.heap.size, a, none⟩ = some (.bool s) := by rw [hA.cell (by rw [seenL_len]; exact ha1), seenL_at ha1, hs]
          have HAA := Lib.hid ha
          have HN : Hid (lit1 n c k = !s) := Lib.hid (by rw [hl1, ha, ← hs, e0]; rfl)
          have hz : w.heap.size < wr.heap.size := hA.lt
          have rf : wr.frozen? ⟨w.heap.size, a, none⟩ = false := hA.arr.free a
          have HS : Hid (BoolAt w w.heap.size (seenL c (k + 1)) (wr.setCell ⟨w.heap.size, a, none⟩ (.bool true))) := Lib.hid ((hA.set (i := a) (by rw [seenL_len]; exact ha1) true).to (seenL_step (by rw [← hx]; exact ha)))
          clear hA hl1 hx ht hx0 ha hs
          cases s with
          | true =>
            go_wp2_with fail
            go_at_call 78; refine (l00In_is true x (-n) n _ HT.out).mono ?_; rintro e w' ⟨rfl, m, rfl⟩
            go_wp2_with fail
            go_at_call 64; refine (l05Letter_at x a _ (by omega) (by omega) HAA.out).mono ?_; rintro e w' ⟨rfl, rfl⟩
            go_wp2_with fail
            go_ret
            exact says (litsB_no hlt HN.out).symm (below_drewN HA.out.below _)
          | false =>
            go_wp2_with fail
            go_at_call 78; refine (l00In_is true x (-n) n _ HT.out).mono ?_; rintro e w' ⟨rfl, m, rfl⟩
            go_wp2_with fail
            go_at_call 64; refine (l05Letter_at x a _ (by omega) (by omega) HAA.out).mono ?_; rintro e w' ⟨rfl, rfl⟩
            go_wp2_with fail
            go_at_call 64; refine (l05Letter_at x a _ (by omega) (by omega) HAA.out).mono ?_; rintro e w' ⟨rfl, rfl⟩
            go_wp2_with fail
            go_roundg (gk - 1)
            case measure => omega
            case rel => exact ⟨k + 1, by omega, by omega, by go_num, fun j hj => by
              by_cases e : j = k
              · subst e; exact HN.out
              · exact HL.out j (by omega), HS.out.drew m⟩
    · obtain rfl : k = c.length := by omega
      clear hA
      go_wp2_with fail
      go_ret
      exact says (litsB_yes HL.out).symm HA.out.below
theorem spcl_no1 {n : Int} {c : List Int} (h : inB n 1 10 = false) : clB n c = false := by rw [← spcl_eq, spcl, h, Bool.false_and]
theorem spcl_no2 {n : Int} {c : List Int} (h : litsB n c = false) : clB n c = false := by rw [← spcl_eq, spcl, h, Bool.false_and, Bool.and_false]
theorem spcl_no3 {n : Int} {c : List Int} {k : Nat} (hk : k < c.length) (h : ord1 c k = false) : clB n c = false := by rw [← spcl_eq, spcl, rngNot hk h, Bool.and_false, Bool.and_false]
theorem spcl_yes {n : Int} {c : List Int} (h1 : inB n 1 10 = true) (h2 : litsB n c = true) (h3 : ∀ j, j < c.length → ord1 c j = true) : clB n c = true := by rw [← spcl_eq, spcl, h1, h2, rngAll h3]; rfl
theorem litsB_in {n : Int} {c : List Int} (h : litsB n c = true) {i : Nat} (hi : i < c.length) : -n ≤ c.getD i 0 ∧ c.getD i 0 ≤ n := by
  have := rngAt h hi
  unfold lit1 at this
  rw [Bool.and_eq_true] at this
  exact inB_ok this.1
set_option maxRecDepth 100000 in
set_option maxHeartbeats 4000000 in
theorem l05Clause_any (n : Int) (v : Value) (c : List Int) (w : World) (hv : IL w v c) (hn : c.length ≤ 1048576) :
    Calls Try.prog 54 #[.int .i64 n, v] w (Says (clB n c) w) := by
  have HV := Lib.hid hv
  cases h0 : inB n 1 10 with
  | false =>
    have HN := Lib.hid (spcl_no1 (c := c) h0)
    have H0 := Lib.hid h0
    obtain ⟨ao, cap, rfl⟩ := hv.long
    clear hv h0
    go_enter Try.func54, Try.ntmps54
    go_wp2_with fail
    go_at_call 77; refine (l05Letters_is n false _ H0.out).mono ?_; rintro e w' ⟨rfl, m, rfl⟩
    go_wp2_with fail
    go_ret
    exact says HN.out.symm (below_drewN (Below.refl _ _) _)
  | true =>
    obtain ⟨n1, n2⟩ := inB_ok h0
    have H0 := Lib.hid h0
    clear h0
    cases h1 : litsB n c with
    | false =>
      have HN := Lib.hid (spcl_no2 h1)
      obtain ⟨ao, cap, rfl⟩ := hv.long
      have H1 := Lib.hid h1
      clear hv h1
      go_enter Try.func54, Try.ntmps54
      go_wp2_with fail
      go_at_call 77; refine (l05Letters_is n true _ H0.out).mono ?_; rintro e w' ⟨rfl, m, rfl⟩
      go_wp2_with fail
      go_at_call 48; refine (l05Lits_any n _ c _ (VL.drewN HV.out _) hn n1 n2).mono ?_; rintro e w2 ⟨rfl, b⟩
      rw [H1.out]
      have HB := Lib.hid (Below.undrew b)
      clear b
      go_wp2_with fail
      go_ret
      exact says HN.out.symm HB.out
    | true =>
      have H1 := Lib.hid h1
      rcases hv with ⟨rfl, ao, cap, rfl⟩ | ⟨b, off, cap, rfl, hpos, hbl, hcell⟩
      · have HN := Lib.hid (spcl_yes H0.out h1 (fun j hj => by simp at hj))
        clear h1
        go_enter Try.func54, Try.ntmps54
        go_wp2_with fail
        go_at_call 77; refine (l05Letters_is n true _ H0.out).mono ?_; rintro e w' ⟨rfl, m, rfl⟩
        go_wp2_with fail
        go_at_call 48; refine (l05Lits_any n _ [] _ (VL.drewN HV.out _) hn n1 n2).mono ?_; rintro e w2 ⟨rfl, b⟩
        rw [H1.out]
        have HB := Lib.hid (Below.undrew b)
        clear b
        go_wp2_with fail
        refine wp_loop_rounds 1 ?_
        rw [rounds_succ]
        go_wp2
        go_ret
        exact says HN.out.symm HB.out
      have HC := Lib.hid hcell
      clear h1 hcell
      go_enter Try.func54, Try.ntmps54
      go_wp2_with fail
      go_at_call 77; refine (l05Letters_is n true _ H0.out).mono ?_; rintro e w' ⟨rfl, m, rfl⟩
      go_wp2_with fail
      go_at_call 48; refine (l05Lits_any n _ c _ (VL.drewN HV.out _) hn n1 n2).mono ?_; rintro e w2 ⟨rfl, b⟩
      rw [H1.out]
      have HB := Lib.hid (Below.undrew b)
      clear b
      go_wp2_with fail
      go_loopg [5] c.length (fun gk i wr => ∃ k : Nat, 1 ≤ k ∧ k ≤ c.length ∧ gk + k = c.length + 1 ∧ i = .int .i64 k ∧ (∀ j, j < k → ord1 c j = true) ∧ Below w.heap.size w wr)
      case atStart => exact ⟨1, Nat.le_refl _, hpos, by omega, rfl, fun j hj => by
        have hj1 : j < 1 := hj
        obtain rfl : j = 0 := by omega
        rfl, HB.out⟩
      case round =>
        obtain ⟨k, hk1, hk, hgk, rfl, hall, hwr⟩ := hrel
        have HL := Lib.hid hall
        have HW := Lib.hid hwr
        clear hall HB
        by_cases hlt : k < c.length
        · have c0 : wr.cell? ⟨b, off + k, none⟩ = some (.int .i64 (c.getD k 0)) := by rw [hwr.cell (p := ⟨b, off + k, none⟩) hbl]; exact HC.out k hlt
          have d0 : wr.cell? ⟨b, off + (k - 1), none⟩ = some (.int .i64 (c.getD (k - 1) 0)) := by rw [hwr.cell (p := ⟨b, off + (k - 1), none⟩) hbl]; exact HC.out (k - 1) (by omega)
          obtain ⟨x, hx⟩ : ∃ x, x = c.getD k 0 := ⟨_, rfl⟩
          obtain ⟨y, hy⟩ : ∃ y, y = c.getD (k - 1) 0 := ⟨_, rfl⟩
          have x1 := litsB_in H1.out hlt
          have y1 := litsB_in H1.out (i := k - 1) (by omega)
          rw [← hx] at c0 x1
          rw [← hy] at d0 y1
          have HO : Hid (ord1 c k = !decide (ltr x < ltr y)) := Lib.hid (by unfold ord1; rw [hx, hy, decide_eq_false (by omega : ¬ k = 0), Bool.false_or])
          have hsub : IntKind.i64.wrap ((k : Int) - 1) = (k : Int) - 1 := IntWalk.i64_in _ (by omega)
          have hsub1 : ((k : Int) - 1).toNat = k - 1 := by omega
          have hsub2 : (0 : Int) ≤ (k : Int) - 1 := by omega
          have hsub3 : (k : Int) - 1 < (c.length : Int) := by omega
          clear hwr hx hy
          by_cases hxy : ltr x < ltr y
          · have HN := Lib.hid (spcl_no3 (n := n) hlt (by rw [HO.out, decide_eq_true hxy]; rfl))
            go_wp2_with fail
            go_quiet ((go_at_call 64; first | (with_reducible exact Calls.quiet_of_same ((l05Letter_is x _ (by omega) (by omega)).mono fun _ _ ⟨q1, q2⟩ => ⟨q1, q2.symm⟩)) | (with_reducible exact Calls.quiet_of_same ((l05Letter_is y _ (by omega) (by omega)).mono fun _ _ ⟨q1, q2⟩ => ⟨q1, q2.symm⟩))))
            clear hsub hsub1 hsub2 hsub3
            go_wp2_with fail
            go_ret
            exact says HN.out.symm (below_drewN HW.out _)
          · have HN : Hid (ord1 c k = true) := Lib.hid (by rw [HO.out, decide_eq_false hxy]; rfl)
            go_wp2_with fail
            go_quiet ((go_at_call 64; first | (with_reducible exact Calls.quiet_of_same ((l05Letter_is x _ (by omega) (by omega)).mono fun _ _ ⟨q1, q2⟩ => ⟨q1, q2.symm⟩)) | (with_reducible exact Calls.quiet_of_same ((l05Letter_is y _ (by omega) (by omega)).mono fun _ _ ⟨q1, q2⟩ => ⟨q1, q2.symm⟩))))
            clear hsub hsub1 hsub2 hsub3
            go_wp2_with fail
            go_roundg (gk - 1)
            case measure => omega
            case rel => exact ⟨k + 1, by omega, by omega, by omega, by go_num, fun j hj => by
              by_cases e : j = k
              · subst e; exact HN.out
              · exact HL.out j (by omega), below_drewN HW.out _⟩
        · have HN := Lib.hid (spcl_yes H0.out H1.out (fun j hj => HL.out j (by omega)))
          clear hwr
          go_wp2_with fail
          go_ret
          exact says HN.out.symm HW.out
end Go.Proofs.Ytnakpfbeeekmiaa
/- What a search answers. -/
namespace Go.Proofs.Ytnakpfbeeekmiaa
open Go.RowKit Go.ChangeShapes Go.WideShapes

def FoundP (t : Bool) (w : World) (e : Ending) (w' : World) : Prop := ((t = true ∧ ∃ k : Nat, e = .returned (.int .i64 k)) ∨ (t = false ∧ e = .returned (.int .i64 (-1)))) ∧ Below w.heap.size w w'
end Go.Proofs.Ytnakpfbeeekmiaa
/- Valid forms: both sides. -/
namespace Go.Proofs.Ytnakpfbeeekmiaa
open Go.RowKit Go.ChangeShapes Go.WideShapes

def allCl (n : Int) (C : List (List Int)) : Bool := (List.range C.length).all fun i => clB n (C.getD i [])
def formB (F : Fm) : Bool := inB F.letters 1 10 && (decide (F.cs.length ≤ 48) && allCl F.letters F.cs)
theorem allCl_no {n : Int} {C : List (List Int)} {k : Nat} (hk : k < C.length) (h : clB n (C.getD k []) = false) : allCl n C = false := rngNot hk h
theorem allCl_yes {n : Int} {C : List (List Int)} (h : ∀ k, k < C.length → clB n (C.getD k []) = true) : allCl n C = true := rngAll h
theorem formB_1 {F : Fm} (h : inB F.letters 1 10 = false) : formB F = false := by unfold formB; rw [h, Bool.false_and]
theorem formB_2 {F : Fm} (h : ¬ F.cs.length ≤ 48) : formB F = false := by unfold formB; rw [decide_eq_false h, Bool.false_and, Bool.and_false]
theorem formB_3 {F : Fm} (h1 : inB F.letters 1 10 = true) (h2 : F.cs.length ≤ 48) : formB F = allCl F.letters F.cs := by unfold formB; rw [h1, decide_eq_true h2, Bool.true_and, Bool.true_and]
/-- What a valid form is. -/
structure FormOk (F : Fm) : Prop where
  n1 : 1 ≤ F.letters
  n2 : F.letters ≤ 10
  few : F.cs.length ≤ 48
  cl : ∀ i, i < F.cs.length → ClOk F.letters (F.cs.getD i [])
theorem formB_ok {F : Fm} (h : formB F = true) : FormOk F := by
  unfold formB at h
  simp only [Bool.and_eq_true, decide_eq_true_eq] at h
  have h1 := inB_ok h.1
  exact ⟨h1.1, h1.2, h.2.1, fun i hi => clB_ok (rngAt h.2.2 hi)⟩
/-- Does one of the first k lists fail? -/
theorem areCl1_any (n : Int) (B : Nat) (u : Value) (c : List Int) (w : World) (hu : IL w u c) (hB : w.cell? ⟨B, 0, none⟩ = some (.int .i64 n)) (hn : c.length ≤ 1048576) (hx : ∀ i, -9223372036854775808 ≤ c.getD i 0 ∧ c.getD i 0 ≤ 9223372036854775807) :
    Calls Try.prog 96 #[u, .pointer (some ⟨B, 0, none⟩)] w (Says (!clB n c) w) := by
  have HU := Lib.hid hu
  obtain ⟨ao, cap, rfl⟩ := hu.long
  clear hu
  go_enter Try.func96, Try.ntmps96
  go_wp2_with fail
  go_at_call 85; refine (implClause_any n _ c _ HU.out hn hx).mono ?_; rintro e w1 ⟨rfl, b⟩
  have HB := Lib.hid b
  clear b
  go_wp2_with fail
  go_ret
  exact says rfl HB.out
set_option maxHeartbeats 1000000 in
theorem indexCl_any (n : Int) (B : Nat) (v : Value) (C : List (List Int)) (w : World) (hv : LV w v C) (hB : w.cell? ⟨B, 0, none⟩ = some (.int .i64 n)) (o : OKL C) :
    Calls Try.prog 121 #[v, .func (.func 96) #[] #[.pointer (some ⟨B, 0, none⟩)]] w (FoundP (!allCl n C) w) := by
  have hn := o.len
  have OK := Lib.hid o
  rcases hv with ⟨rfl, ao, cap, rfl⟩ | ⟨b, off, cap, U, rfl, hpos, hbl, hcell⟩
  · clear hB
    go_enter Try.func121, Try.ntmps121
    go_wp2_with fail
    refine wp_loop_rounds 1 ?_
    rw [rounds_succ]
    go_wp2
    go_ret
    exact ⟨Or.inr ⟨rfl, rfl⟩, Below.refl _ _⟩
  have HC := Lib.hid hcell
  have HX := Lib.hid hB
  have hBl := cell_block hB
  clear hcell hB
  go_enter Try.func121, Try.ntmps121
  go_wp2_with fail
  go_loopg [8] C.length (fun gk i wr => ∃ k : Nat, k ≤ C.length ∧ gk + k = C.length ∧ i = .int .i64 k ∧ (∀ j, j < k → clB n (C.getD j []) = true) ∧ Below w.heap.size w wr)
  case atStart => exact ⟨0, Nat.zero_le _, by omega, rfl, fun j hj => by omega, Below.refl _ _⟩
  case round =>
    obtain ⟨k, hk, hgk, rfl, hall, hwr⟩ := hrel
    have HL := Lib.hid hall
    have HW := Lib.hid hwr
    clear hall
    by_cases hlt : k < C.length
    · have c0 : wr.cell? ⟨b, off + k, none⟩ = some (U k) := by rw [hwr.cell (p := ⟨b, off + k, none⟩) hbl]; exact (HC.out k hlt).1
      have HI := Lib.hid ((HC.out k hlt).2.below hwr (Nat.le_refl _))
      have HB : Hid (wr.cell? ⟨B, 0, none⟩ = some (.int .i64 n)) := Lib.hid (by rw [hwr.cell (p := ⟨B, 0, none⟩) hBl]; exact HX.out)
      clear hwr
      generalize U k = u at c0 HI
      cases q : clB n (C.getD k []) with
      | false =>
        have HQ := Lib.hid q
        clear q
        go_wp2_with fail
        go_at_call 96; refine (areCl1_any n B u (C.getD k []) _ HI.out HB.out (OK.out.short k) (OK.out.in k)).mono ?_; rintro e w1 ⟨rfl, b1⟩
        rw [HQ.out]
        have H1 := Lib.hid (HW.out.trans (b1.mono HW.out.size))
        clear b1 c0
        go_wp2_with fail
        go_ret
        exact ⟨Or.inl ⟨by rw [allCl_no hlt HQ.out]; rfl, k, rfl⟩, H1.out⟩
      | true =>
        have HQ := Lib.hid q
        clear q
        go_wp2_with fail
        go_at_call 96; refine (areCl1_any n B u (C.getD k []) _ HI.out HB.out (OK.out.short k) (OK.out.in k)).mono ?_; rintro e w1 ⟨rfl, b1⟩
        rw [HQ.out]
        have H1 := Lib.hid (HW.out.trans (b1.mono HW.out.size))
        clear b1 c0
        go_wp2_with fail
        go_roundg (gk - 1)
        case measure => omega
        case rel => exact ⟨k + 1, by omega, by omega, by go_num, fun j hj => by
          by_cases e : j = k
          · subst e; exact HQ.out
          · exact HL.out j (by omega), H1.out⟩
    · obtain rfl : k = C.length := by omega
      clear hwr
      go_wp2_with fail
      go_ret
      exact ⟨Or.inr ⟨by rw [allCl_yes HL.out]; rfl, rfl⟩, HW.out⟩
theorem containsCl_any (n : Int) (B : Nat) (v : Value) (C : List (List Int)) (w : World) (hv : LV w v C) (hB : w.cell? ⟨B, 0, none⟩ = some (.int .i64 n)) (o : OKL C) :
    Calls Try.prog 95 #[v, .func (.func 96) #[] #[.pointer (some ⟨B, 0, none⟩)]] w (Says (!allCl n C) w) := by
  have HV := Lib.hid hv
  have HB := Lib.hid hB
  obtain ⟨ao, cap, rfl⟩ := hv.long
  clear hv hB
  go_enter Try.func95, Try.ntmps95
  go_wp2_with fail
  go_at_call 121; refine (indexCl_any n B _ C _ HV.out HB.out o).mono ?_; rintro e w1 ⟨⟨ht, k, rfl⟩ | ⟨ht, rfl⟩, b1⟩
  · have HT := Lib.hid ht
    have H1 := Lib.hid b1
    have hk0 : (0 : Int) ≤ (k : Int) := by omega
    clear ht b1
    go_wp2_with fail
    go_ret
    exact says (by rw [HT.out]) H1.out
  · have HT := Lib.hid ht
    have H1 := Lib.hid b1
    clear ht b1
    go_wp2_with fail
    go_ret
    exact says HT.out.symm H1.out
theorem areClauses_any (n : Int) (v : Value) (C : List (List Int)) (w : World) (hv : LV w v C) (o : OKL C) :
    Calls Try.prog 57 #[.int .i64 n, v] w (Says (allCl n C) w) := by
  have HV := Lib.hid (fun o => hv.below (below_alloc w o) (Nat.le_refl _))
  obtain ⟨ao, cap, rfl⟩ := hv.long
  clear hv
  go_enter Try.func57, Try.ntmps57
  go_wp2_with fail
  go_at_call 95; refine (containsCl_any n w.heap.size _ C _ (HV.out _) (World.cell?_alloc_new _ _ _ _) o).mono ?_; rintro e w1 ⟨rfl, b1⟩
  have H1 := Lib.hid ((below_alloc w _).trans (b1.mono (by simp)))
  clear b1
  go_wp2_with fail
  go_ret
  exact says (by simp) H1.out
set_option maxHeartbeats 1000000 in
theorem implForm_any (v : Value) (F : Fm) (w : World) (hv : FmV w v F) (o : OKFm F) :
    Calls Try.prog 50 #[v] w (Says (formB F) w) := by
  obtain ⟨s1, rfl, g1⟩ := hv
  have G1 := Lib.hid (fun o => g1.below (below_alloc w o) (Nat.le_refl _))
  have OK := Lib.hid o.okl
  have hb0 := Lib.hid (fun o m => below_drewN (below_alloc w o) m)
  obtain ⟨ao, cap, rfl⟩ := g1.long
  clear g1
  cases h1 : inB F.letters 1 10 with
  | false =>
    have HN := Lib.hid (formB_1 h1)
    have H1 := Lib.hid (show (decide (1 ≤ F.letters) && decide (F.letters ≤ 10)) = false from h1)
    clear h1
    go_enter Try.func50, Try.ntmps50
    go_wp2_with fail
    go_at_call 56; refine (isFrom_is false F.letters 1 10 _ H1.out).mono ?_; rintro e w' ⟨rfl, m, rfl⟩
    go_wp2_with fail
    go_ret
    exact says HN.out.symm (hb0.out _ _)
  | true =>
    have H1 := Lib.hid (show (decide (1 ≤ F.letters) && decide (F.letters ≤ 10)) = true from h1)
    by_cases h2 : F.cs.length ≤ 48
    · have HN := Lib.hid (formB_3 h1 h2)
      have h2i : (F.cs.length : Int) ≤ 48 := by omega
      clear h1
      go_enter Try.func50, Try.ntmps50
      go_wp2_with fail
      go_at_call 56; refine (isFrom_is true F.letters 1 10 _ H1.out).mono ?_; rintro e w' ⟨rfl, m, rfl⟩
      go_wp2_with fail
      go_at_call 57; refine (areClauses_any F.letters _ F.cs _ ((G1.out _).drewN m) OK.out).mono ?_; rintro e w1 ⟨rfl, b1⟩
      have HB := Lib.hid ((hb0.out _ _).trans (b1.mono (hb0.out _ _).size))
      clear b1
      go_wp2_with fail
      go_ret
      exact says HN.out.symm HB.out
    · have HN := Lib.hid (formB_2 h2)
      have h2i : ¬ (F.cs.length : Int) ≤ 48 := by omega
      clear h1
      go_enter Try.func50, Try.ntmps50
      go_wp2_with fail
      go_at_call 56; refine (isFrom_is true F.letters 1 10 _ H1.out).mono ?_; rintro e w' ⟨rfl, m, rfl⟩
      go_wp2_with fail
      go_ret
      exact says HN.out.symm (hb0.out _ _)
/-- The form that lies in a box. -/
structure FmAt (w : World) (g : Nat) (F : Fm) : Prop where
  box : ∃ s, Box2 w g (.int .i64 F.letters) s ∧ LV w s F.cs
theorem FmAt.keep {w w' : World} {g : Nat} {F : Fm} (h : FmAt w g F) (b : Below w.heap.size w w') : FmAt w' g F := by
  obtain ⟨s, h1, h2⟩ := h.box
  exact ⟨s, h1.keep b h1.lt, h2.below b (Nat.le_refl _)⟩
theorem FmAt.drewN {w : World} {g : Nat} {F : Fm} (h : FmAt w g F) (m : Nat) : FmAt (w.drewN m) g F := h.keep (below_drewN (Below.refl _ _) m)
theorem FmAt.mk' {w : World} {v : Value} {F : Fm} (h : ∃ s1, v = .agg #[.int .i64 F.letters, s1] ∧ LV w s1 F.cs) (T : TypeId) : ∃ s1, v = .agg #[.int .i64 F.letters, s1] ∧ FmAt (w.alloc (.cells #[.int .i64 F.letters, s1] T)) w.heap.size F := by
  obtain ⟨s1, e, h1⟩ := h
  exact ⟨s1, e, s1, Box2.mk' _ _ _ _, h1.below (below_alloc w _) (Nat.le_refl _)⟩
set_option maxRecDepth 100000 in
set_option maxHeartbeats 4000000 in
theorem l05Is_any (g : Nat) (F : Fm) (w : World) (hg : FmAt w g F) (o : OKFm F) :
    Calls Try.prog 47 #[.pointer (some ⟨g, 0, none⟩)] w (Says (formB F) w) := by
  obtain ⟨s, hb, hs⟩ := hg.box
  have OK := Lib.hid o.okl
  have HBX := Lib.hid hb
  have hgl := hb.lt
  cases h1 : inB F.letters 1 10 with
  | false =>
    have HN := Lib.hid (formB_1 h1)
    have H1 := Lib.hid h1
    obtain ⟨c0, c1⟩ := hb
    clear h1 hs hg
    go_enter Try.func47, Try.ntmps47
    go_wp2_with fail
    go_at_call 77; refine (l05Letters_is F.letters false _ H1.out).mono ?_; rintro e w' ⟨rfl, m, rfl⟩
    go_wp2_with fail
    go_ret
    exact says HN.out.symm (below_drewN (Below.refl _ _) _)
  | true =>
    have H1 := Lib.hid h1
    by_cases h2 : F.cs.length ≤ 48
    · have HN := Lib.hid (formB_3 h1 h2)
      have h2i : ¬ (48 : Int) < (F.cs.length : Int) := by omega
      rcases hs with ⟨hz, ao, cap, rfl⟩ | ⟨b, off, cap, U, rfl, hpos, hbl, hcell⟩
      · obtain ⟨c0, c1⟩ := hb
        have HZ : Hid (true = formB F) := Lib.hid (by rw [HN.out, hz]; rfl)
        clear h1 hg hz HN h2 h2i
        go_enter Try.func47, Try.ntmps47
        go_wp2_with fail
        go_at_call 77; refine (l05Letters_is F.letters true _ H1.out).mono ?_; rintro e w' ⟨rfl, m, rfl⟩
        go_wp2_with fail
        refine wp_loop_rounds 1 ?_
        rw [rounds_succ]
        go_wp2
        go_ret
        exact says HZ.out (below_drewN (Below.refl _ _) _)
      have HC := Lib.hid hcell
      obtain ⟨c0, c1⟩ := hb
      clear h1 hg hcell
      go_enter Try.func47, Try.ntmps47
      go_wp2_with fail
      go_at_call 77; refine (l05Letters_is F.letters true _ H1.out).mono ?_; rintro e w' ⟨rfl, m, rfl⟩
      go_wp2_with fail
      go_loopg [23] F.cs.length (fun gk i wr => ∃ k : Nat, k ≤ F.cs.length ∧ gk + k = F.cs.length ∧ i = .int .i64 k ∧ (∀ j, j < k → clB F.letters (F.cs.getD j []) = true) ∧ Below w.heap.size w wr)
      case atStart => exact ⟨0, Nat.zero_le _, by omega, rfl, fun j hj => by omega, below_drewN (Below.refl _ _) _⟩
      case round =>
        obtain ⟨k, hk, hgk, rfl, hall, hwr⟩ := hrel
        have HL := Lib.hid hall
        have HW := Lib.hid hwr
        clear hall c0 c1
        by_cases hlt : k < F.cs.length
        · obtain ⟨c0, c1⟩ := HBX.out.keep hwr hgl
          have d0 : wr.cell? ⟨b, off + k, none⟩ = some (U k) := by rw [hwr.cell (p := ⟨b, off + k, none⟩) hbl]; exact (HC.out k hlt).1
          have HI := Lib.hid ((HC.out k hlt).2.below hwr (Nat.le_refl _))
          generalize U k = u at d0 HI
          have HD := Lib.hid d0
          have HC0 := Lib.hid c0
          have HC1 := Lib.hid c1
          have hgl2 : g < wr.heap.size := cell_block c0
          have hbl2 : b < wr.heap.size := cell_block d0
          clear hwr
          cases q : clB F.letters (F.cs.getD k []) with
          | false =>
            have HQ := Lib.hid q
            clear q
            go_wp2_with fail
            go_region_held3 (fun w' => w'.cell? ⟨g, 0, none⟩ = some (.int .i64 F.letters) ∧ w'.cell? ⟨g, 1, none⟩ = some (.slice (some ⟨b, off, none⟩) F.cs.length (F.cs.length + cap)) ∧ w'.cell? ⟨b, off + k, none⟩ = some u) (first | exact ⟨c0, c1, d0⟩ | exact S2.out) (first
              | (go_at_call 54; refine (l05Clause_any F.letters u (F.cs.getD k []) _ (VL.drewN HI.out _) (OK.out.short k)).mono ?_; rintro e w3 ⟨rfl, b3⟩; have bz := (below_drewN (Below.refl wr.heap.size wr) 1).trans b3; have H3 := Lib.hid (HW.out.trans (bz.mono HW.out.size)); have S2 : Hid (_ ∧ _ ∧ _) := Lib.hid ⟨keep_cell HC0.out bz hgl2, keep_cell HC1.out bz hgl2, keep_cell HD.out bz hbl2⟩; clear b3 bz; rw [HQ.out]))
            all_goals
              go_wp2_with fail
              go_ret
              exact says (by rw [HN.out, allCl_no hlt HQ.out]) H3.out
          | true =>
            have HQ := Lib.hid q
            clear q
            go_wp2_with fail
            go_region_held3 (fun w' => w'.cell? ⟨g, 0, none⟩ = some (.int .i64 F.letters) ∧ w'.cell? ⟨g, 1, none⟩ = some (.slice (some ⟨b, off, none⟩) F.cs.length (F.cs.length + cap)) ∧ w'.cell? ⟨b, off + k, none⟩ = some u) (first | exact ⟨c0, c1, d0⟩ | exact S2.out) (first
              | (go_at_call 54; refine (l05Clause_any F.letters u (F.cs.getD k []) _ (VL.drewN HI.out _) (OK.out.short k)).mono ?_; rintro e w3 ⟨rfl, b3⟩; have bz := (below_drewN (Below.refl wr.heap.size wr) 1).trans b3; have H3 := Lib.hid (HW.out.trans (bz.mono HW.out.size)); have S2 : Hid (_ ∧ _ ∧ _) := Lib.hid ⟨keep_cell HC0.out bz hgl2, keep_cell HC1.out bz hgl2, keep_cell HD.out bz hbl2⟩; clear b3 bz; rw [HQ.out]))
            all_goals
              go_wp2_with fail
              go_roundg (gk - 1)
              case measure => omega
              case rel => exact ⟨k + 1, by omega, by omega, by go_num, fun j hj => by
                by_cases e : j = k
                · subst e; exact HQ.out
                · exact HL.out j (by omega), H3.out⟩
        · have HE : Hid (true = formB F) := Lib.hid (by rw [HN.out, allCl_yes fun j hj => HL.out j (by omega)])
          clear hwr
          go_wp2_with fail
          go_ret
          exact says HE.out HW.out
    · have HN := Lib.hid (formB_2 h2)
      have h2i : (48 : Int) < (F.cs.length : Int) := by omega
      obtain ⟨ao, cap, rfl⟩ := hs.long
      obtain ⟨c0, c1⟩ := hb
      clear h1 hg hs
      go_enter Try.func47, Try.ntmps47
      go_wp2_with fail
      go_at_call 77; refine (l05Letters_is F.letters true _ H1.out).mono ?_; rintro e w' ⟨rfl, m, rfl⟩
      go_wp2_with fail
      go_ret
      exact says HN.out.symm (below_drewN (Below.refl _ _) _)
end Go.Proofs.Ytnakpfbeeekmiaa
/- The letters that a number tells (plain). -/
namespace Go.Proofs.Ytnakpfbeeekmiaa

/-- The letters up to k that are true. -/
def trueK (L n k : Nat) : List Int := ((List.range k).filter fun i => n.testBit (L - (i + 1))).map fun i : Nat => (i : Int) + 1
theorem trueK_yes {L n k : Nat} (h : n.testBit (L - (k + 1)) = true) : trueK L n (k + 1) = trueK L n k ++ [(k : Int) + 1] := by
  unfold trueK
  rw [List.range_succ, List.filter_append, List.map_append]
  simp [h]
theorem trueK_no {L n k : Nat} (h : n.testBit (L - (k + 1)) = false) : trueK L n (k + 1) = trueK L n k := by
  unfold trueK
  rw [List.range_succ, List.filter_append, List.map_append]
  simp [h]
theorem trueK_len (L n : Nat) : ∀ k, (trueK L n k).length ≤ k
  | 0 => by simp [trueK]
  | k + 1 => by
    have ih := trueK_len L n k
    cases h : n.testBit (L - (k + 1)) with
    | true => rw [trueK_yes h, List.length_append]; simp; omega
    | false => rw [trueK_no h]; omega
theorem trueK_mem {L n k : Nat} {x : Int} : x ∈ trueK L n k ↔ ∃ i : Nat, i < k ∧ n.testBit (L - (i + 1)) = true ∧ x = (i : Int) + 1 := by
  unfold trueK
  rw [List.mem_map]
  constructor
  · rintro ⟨i, hi, rfl⟩
    rw [List.mem_filter, List.mem_range] at hi
    exact ⟨i, hi.1, hi.2, rfl⟩
  · rintro ⟨i, h1, h2, rfl⟩
    exact ⟨i, List.mem_filter.2 ⟨List.mem_range.2 h1, h2⟩, rfl⟩
end Go.Proofs.Ytnakpfbeeekmiaa
/- How many binary digits are 1 (plain): the way of masks, for numbers below 65536. -/
namespace Go.Proofs.Ytnakpfbeeekmiaa

def ones1 (x : Nat) : Nat := ((x >>> 1) &&& 6148914691236517205) + (x &&& 6148914691236517205)
def ones2 (x : Nat) : Nat := ((x >>> 2) &&& 3689348814741910323) + (x &&& 3689348814741910323)
def ones3 (x : Nat) : Nat := ((x >>> 4) + x) &&& 1085102592571150095
def ones4 (x : Nat) : Nat := x + (x >>> 8)
def ones5 (x : Nat) : Nat := x + (x >>> 16)
def ones6 (x : Nat) : Nat := x + (x >>> 32)
def onesX (x : Nat) : Nat := ones6 (ones5 (ones4 (ones3 (ones2 (ones1 x))))) &&& 127
def popN : Nat → Nat → Nat
  | 0, _ => 0
  | k + 1, x => x % 2 + popN k (x / 2)
def pop (x : Nat) : Nat := popN 16 x
def chk (a : Nat) : Nat → Bool
  | 0 => true
  | n + 1 => Nat.beq (onesX (a + n)) (pop (a + n)) && (Nat.ble (ones1 (a + n)) 65536 && (Nat.ble (ones2 (ones1 (a + n))) 65536 && (Nat.ble (ones3 (ones2 (ones1 (a + n)))) 65536 && chk a n)))
theorem chk_at {a : Nat} : ∀ {n : Nat}, chk a n = true → ∀ k, k < n → onesX (a + k) = pop (a + k) ∧ ones1 (a + k) ≤ 65536 ∧ ones2 (ones1 (a + k)) ≤ 65536 ∧ ones3 (ones2 (ones1 (a + k))) ≤ 65536
  | 0, _, k, hk => by omega
  | n + 1, h, k, hk => by
    simp only [chk, Bool.and_eq_true] at h
    obtain ⟨h1, h2, h3, h4, h5⟩ := h
    by_cases e : k = n
    · subst e; exact ⟨Nat.eq_of_beq_eq_true h1, Nat.le_of_ble_eq_true h2, Nat.le_of_ble_eq_true h3, Nat.le_of_ble_eq_true h4⟩
    · exact chk_at h5 k (by omega)
theorem chk_0 : chk 0 1024 = true := by decide +kernel
theorem chk_1 : chk 1024 1024 = true := by decide +kernel
theorem chk_2 : chk 2048 1024 = true := by decide +kernel
theorem chk_3 : chk 3072 1024 = true := by decide +kernel
theorem chk_4 : chk 4096 1024 = true := by decide +kernel
theorem chk_5 : chk 5120 1024 = true := by decide +kernel
theorem chk_6 : chk 6144 1024 = true := by decide +kernel
theorem chk_7 : chk 7168 1024 = true := by decide +kernel
theorem chk_8 : chk 8192 1024 = true := by decide +kernel
theorem chk_9 : chk 9216 1024 = true := by decide +kernel
theorem chk_10 : chk 10240 1024 = true := by decide +kernel
theorem chk_11 : chk 11264 1024 = true := by decide +kernel
theorem chk_12 : chk 12288 1024 = true := by decide +kernel
theorem chk_13 : chk 13312 1024 = true := by decide +kernel
theorem chk_14 : chk 14336 1024 = true := by decide +kernel
theorem chk_15 : chk 15360 1024 = true := by decide +kernel
theorem chk_16 : chk 16384 1024 = true := by decide +kernel
theorem chk_17 : chk 17408 1024 = true := by decide +kernel
theorem chk_18 : chk 18432 1024 = true := by decide +kernel
theorem chk_19 : chk 19456 1024 = true := by decide +kernel
theorem chk_20 : chk 20480 1024 = true := by decide +kernel
theorem chk_21 : chk 21504 1024 = true := by decide +kernel
theorem chk_22 : chk 22528 1024 = true := by decide +kernel
theorem chk_23 : chk 23552 1024 = true := by decide +kernel
theorem chk_24 : chk 24576 1024 = true := by decide +kernel
theorem chk_25 : chk 25600 1024 = true := by decide +kernel
theorem chk_26 : chk 26624 1024 = true := by decide +kernel
theorem chk_27 : chk 27648 1024 = true := by decide +kernel
theorem chk_28 : chk 28672 1024 = true := by decide +kernel
theorem chk_29 : chk 29696 1024 = true := by decide +kernel
theorem chk_30 : chk 30720 1024 = true := by decide +kernel
theorem chk_31 : chk 31744 1024 = true := by decide +kernel
theorem chk_32 : chk 32768 1024 = true := by decide +kernel
theorem chk_33 : chk 33792 1024 = true := by decide +kernel
theorem chk_34 : chk 34816 1024 = true := by decide +kernel
theorem chk_35 : chk 35840 1024 = true := by decide +kernel
theorem chk_36 : chk 36864 1024 = true := by decide +kernel
theorem chk_37 : chk 37888 1024 = true := by decide +kernel
theorem chk_38 : chk 38912 1024 = true := by decide +kernel
theorem chk_39 : chk 39936 1024 = true := by decide +kernel
theorem chk_40 : chk 40960 1024 = true := by decide +kernel
theorem chk_41 : chk 41984 1024 = true := by decide +kernel
theorem chk_42 : chk 43008 1024 = true := by decide +kernel
theorem chk_43 : chk 44032 1024 = true := by decide +kernel
theorem chk_44 : chk 45056 1024 = true := by decide +kernel
theorem chk_45 : chk 46080 1024 = true := by decide +kernel
theorem chk_46 : chk 47104 1024 = true := by decide +kernel
theorem chk_47 : chk 48128 1024 = true := by decide +kernel
theorem chk_48 : chk 49152 1024 = true := by decide +kernel
theorem chk_49 : chk 50176 1024 = true := by decide +kernel
theorem chk_50 : chk 51200 1024 = true := by decide +kernel
theorem chk_51 : chk 52224 1024 = true := by decide +kernel
theorem chk_52 : chk 53248 1024 = true := by decide +kernel
theorem chk_53 : chk 54272 1024 = true := by decide +kernel
theorem chk_54 : chk 55296 1024 = true := by decide +kernel
theorem chk_55 : chk 56320 1024 = true := by decide +kernel
theorem chk_56 : chk 57344 1024 = true := by decide +kernel
theorem chk_57 : chk 58368 1024 = true := by decide +kernel
theorem chk_58 : chk 59392 1024 = true := by decide +kernel
theorem chk_59 : chk 60416 1024 = true := by decide +kernel
theorem chk_60 : chk 61440 1024 = true := by decide +kernel
theorem chk_61 : chk 62464 1024 = true := by decide +kernel
theorem chk_62 : chk 63488 1024 = true := by decide +kernel
theorem chk_63 : chk 64512 1024 = true := by decide +kernel
theorem chk_all : ∀ i, i < 64 → chk (1024 * i) 1024 = true
  | 0, _ => chk_0
  | 1, _ => chk_1
  | 2, _ => chk_2
  | 3, _ => chk_3
  | 4, _ => chk_4
  | 5, _ => chk_5
  | 6, _ => chk_6
  | 7, _ => chk_7
  | 8, _ => chk_8
  | 9, _ => chk_9
  | 10, _ => chk_10
  | 11, _ => chk_11
  | 12, _ => chk_12
  | 13, _ => chk_13
  | 14, _ => chk_14
  | 15, _ => chk_15
  | 16, _ => chk_16
  | 17, _ => chk_17
  | 18, _ => chk_18
  | 19, _ => chk_19
  | 20, _ => chk_20
  | 21, _ => chk_21
  | 22, _ => chk_22
  | 23, _ => chk_23
  | 24, _ => chk_24
  | 25, _ => chk_25
  | 26, _ => chk_26
  | 27, _ => chk_27
  | 28, _ => chk_28
  | 29, _ => chk_29
  | 30, _ => chk_30
  | 31, _ => chk_31
  | 32, _ => chk_32
  | 33, _ => chk_33
  | 34, _ => chk_34
  | 35, _ => chk_35
  | 36, _ => chk_36
  | 37, _ => chk_37
  | 38, _ => chk_38
  | 39, _ => chk_39
  | 40, _ => chk_40
  | 41, _ => chk_41
  | 42, _ => chk_42
  | 43, _ => chk_43
  | 44, _ => chk_44
  | 45, _ => chk_45
  | 46, _ => chk_46
  | 47, _ => chk_47
  | 48, _ => chk_48
  | 49, _ => chk_49
  | 50, _ => chk_50
  | 51, _ => chk_51
  | 52, _ => chk_52
  | 53, _ => chk_53
  | 54, _ => chk_54
  | 55, _ => chk_55
  | 56, _ => chk_56
  | 57, _ => chk_57
  | 58, _ => chk_58
  | 59, _ => chk_59
  | 60, _ => chk_60
  | 61, _ => chk_61
  | 62, _ => chk_62
  | 63, _ => chk_63
  | i + 64, h => by omega
theorem ones_ok {x : Nat} (h : x < 65536) : onesX x = pop x ∧ ones1 x ≤ 65536 ∧ ones2 (ones1 x) ≤ 65536 ∧ ones3 (ones2 (ones1 x)) ≤ 65536 := by
  have := chk_at (chk_all (x / 1024) (by omega)) (x % 1024) (by omega)
  rw [show 1024 * (x / 1024) + x % 1024 = x by omega] at this
  exact this
end Go.Proofs.Ytnakpfbeeekmiaa
