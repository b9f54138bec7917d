/- Sizes, sets of numbers, gains: what they are (plain). -/
namespace Go.Proofs.YtfingpllakbpnaaDoor

theorem rngAll {p : Nat → Bool} {n : Nat} (h : ∀ i, i < n → p i = true) : (List.range n).all p = true := by
  rw [List.all_eq_true]
  intro x hx
  exact h x (List.mem_range.1 hx)
theorem rngNot {p : Nat → Bool} {n i : Nat} (hi : i < n) (h : p i = false) : (List.range n).all p = false := by
  rw [Bool.eq_false_iff]
  intro hc
  have := List.all_eq_true.1 hc i (List.mem_range.2 hi)
  rw [h] at this; cases this
theorem rngAt {p : Nat → Bool} {n i : Nat} (hc : (List.range n).all p = true) (hi : i < n) : p i = true := List.all_eq_true.1 hc i (List.mem_range.2 hi)
def inB (n lo hi : Int) : Bool := decide (lo ≤ n) && decide (n ≤ hi)
theorem inB_ok {n lo hi : Int} (h : inB n lo hi = true) : lo ≤ n ∧ n ≤ hi := by unfold inB at h; simpa using h
def allIn (L : List Int) (lo hi : Int) : Bool := (List.range L.length).all fun i => inB (L.getD i 0) lo hi
theorem allIn_at {L : List Int} {lo hi : Int} (h : allIn L lo hi = true) {i : Nat} (hi' : i < L.length) : lo ≤ L.getD i 0 ∧ L.getD i 0 ≤ hi := inB_ok (rngAt h hi')
theorem allIn_no {L : List Int} {lo hi : Int} {i : Nat} (hi' : i < L.length) (h : inB (L.getD i 0) lo hi = false) : allIn L lo hi = false := rngNot hi' h
def fewB (n : Nat) : Bool := decide (1 ≤ (n : Int)) && decide ((n : Int) ≤ 16)
def sizesB (L : List Int) : Bool := allIn L 1 1000 && fewB L.length
structure SizesOk (L : List Int) : Prop where
  a : ∀ i, i < L.length → 1 ≤ L.getD i 0 ∧ L.getD i 0 ≤ 1000
  l1 : 1 ≤ L.length
  l2 : L.length ≤ 16
theorem sizesB_ok {L : List Int} (h : sizesB L = true) : SizesOk L := by
  unfold sizesB fewB at h
  simp only [Bool.and_eq_true, decide_eq_true_eq] at h
  exact ⟨fun i hi => allIn_at h.1 hi, by omega, by omega⟩
def setsB (n : Int) (L : List Int) : Bool := inB n 1 16 && (fewB L.length && allIn L 0 (2 ^ n.toNat - 1))
def canB (S G : List Int) (r : Int) : Bool := sizesB S && (decide ((G.length : Int) = (S.length : Int)) && (inB r 0 1000 && allIn G 0 1000))
structure CanOk (S G : List Int) (r : Int) : Prop where
  s : SizesOk S
  l : G.length = S.length
  r0 : 0 ≤ r
  r1 : r ≤ 1000
  g : ∀ i, i < G.length → 0 ≤ G.getD i 0 ∧ G.getD i 0 ≤ 1000
theorem canB_ok {S G : List Int} {r : Int} (h : canB S G r = true) : CanOk S G r := by
  unfold canB at h
  simp only [Bool.and_eq_true, decide_eq_true_eq] at h
  have hr := inB_ok h.2.2.1
  exact ⟨sizesB_ok h.1, by omega, hr.1, hr.2, fun i hi => allIn_at h.2.2.2 hi⟩
/-- The best gain of the first i things in room r. -/
def bestG (S G : List Int) : Nat → Nat → Int
  | 0, _ => 0
  | i + 1, r => if (S.getD i 0).toNat ≤ r then max (bestG S G i r) (bestG S G i (r - (S.getD i 0).toNat) + G.getD i 0) else bestG S G i r
theorem bestG_in {S G : List Int} (h : ∀ i, i < S.length → 0 ≤ G.getD i 0 ∧ G.getD i 0 ≤ 1000) : ∀ i, i ≤ S.length → ∀ r, 0 ≤ bestG S G i r ∧ bestG S G i r ≤ 1000 * (i : Int)
  | 0, _, r => by simp [bestG]
  | i + 1, hi, r => by
    have ih := bestG_in h i (by omega) r
    have ih2 := bestG_in h i (by omega) (r - (S.getD i 0).toNat)
    have hg := h i (by omega)
    unfold bestG
    split <;> omega
/-- How many sets of the first i things fill r. -/
def fillW (S : List Int) : Nat → Nat → Int
  | 0, r => if r = 0 then 1 else 0
  | i + 1, r => if (S.getD i 0).toNat ≤ r then fillW S i r + fillW S i (r - (S.getD i 0).toNat) else fillW S i r
theorem fillW_in {S : List Int} : ∀ i r, 0 ≤ fillW S i r ∧ fillW S i r ≤ 2 ^ i
  | 0, r => by unfold fillW; split <;> simp
  | i + 1, r => by
    have ih := fillW_in (S := S) i r
    have ih2 := fillW_in (S := S) i (r - (S.getD i 0).toNat)
    have e : (2 : Int) ^ (i + 1) = 2 ^ i + 2 ^ i := by rw [Int.pow_succ]; omega
    unfold fillW
    rw [e]
    split <;> omega
theorem two_le {i : Nat} (h : i ≤ 16) : (2 : Int) ^ i ≤ 65536 := by
  have h1 : 2 ^ i ≤ 2 ^ 16 := Nat.pow_le_pow_right (by omega) h
  have h2 : ((2 ^ i : Nat) : Int) ≤ ((2 ^ 16 : Nat) : Int) := by omega
  simpa using h2
end Go.Proofs.YtfingpllakbpnaaDoor
