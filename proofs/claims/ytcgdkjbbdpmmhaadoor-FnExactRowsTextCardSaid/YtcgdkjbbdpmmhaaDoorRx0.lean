/- The texts of rows: what they are. -/
import Derived.Test.YtcgdkjbbdpmmhaaDoorNxT
import Derived.Test.YtcgdkjbbdpmmhaaDoorVrD
import Derived.Test.YtcgdkjbbdpmmhaaDoorOpen
import Derived.Test.YtcgdkjbbdpmmhaaDoorFmJ
import Derived.Test.YtcgdkjbbdpmmhaaDoorTx0
namespace Go.Proofs.YtcgdkjbbdpmmhaaDoor
open Go.RowKit Go.ChangeShapes Go.WideShapes Go.ChangeAt

/-- The library's tables that a text of rows wants. -/
def RtTab (w : World) : Prop := PowTab w ∧ TabZ w
theorem RtTab.below' {w w' : World} (h : RtTab w) (hb : Below w.heap.size w w') : RtTab w' := ⟨h.1.below' hb, h.2.below hb⟩
theorem rt_of_laid {W : World} (h : laidMetH Tryd.prog laid3 W) : RtTab W := ⟨pow_of_laid h, tabz_of_laid h⟩
def rtP (R : Rw) (k : Nat) : List Nat := if k = 0 then R.N else if k = 1 then R.B else R.G
def rtK (R : Rw) : Nat → List UInt8
  | 0 => Lib.itoa R.vars
  | k + 1 => rtK R k ++ ([59] ++ nxtL (rtP R k))
def rtD (R : Rw) : List UInt8 := if okR R then rtK R 3 else []
theorem few_of {L : List Nat} (h : ∀ x ∈ L, x < 4294967296) : Few32 L := fun i hi => by rw [getD_at hi]; exact h _ (List.getElem_mem hi)
theorem rtP_few {R : Rw} (h : FitR R) (k : Nat) : Few32 (rtP R k) := by
  obtain ⟨-, -, -, h1, h2, h3⟩ := h
  unfold rtP
  split
  · exact few_of h1
  · split
    · exact few_of h2
    · exact few_of h3
theorem rt_n {R : Rw} (o : okR R = true) : R.N.length ≤ 64 ∧ R.B.length ≤ 8 ∧ R.G.length ≤ 8 ∧ 1 ≤ R.vars ∧ R.vars ≤ 8 := by
  have h := (okR_iff R).1 o
  obtain ⟨v1, v2, b1, b2, g, n, -, -, -⟩ := h
  have hb : (R.B.length : Int) ≤ 8 := by omega
  have : R.vars * (R.B.length : Int) ≤ 8 * 8 := Int.le_trans (Int.mul_le_mul_of_nonneg_right v2 (by omega)) (by omega)
  refine ⟨?_, b2, ?_, v1, v2⟩
  · rw [← n] at this; omega
  · omega
theorem rtP_len {R : Rw} (o : okR R = true) (k : Nat) : (rtP R k).length ≤ 64 := by
  obtain ⟨h1, h2, h3, -, -⟩ := rt_n o
  unfold rtP
  split
  · exact h1
  · split <;> omega
theorem nxt_short {R : Rw} (o : okR R = true) (k : Nat) : (nxtL (rtP R k)).length ≤ 1400 := by
  have := nxtL_len (rtP R k)
  have := rtP_len o k
  omega
theorem rtK_len {R : Rw} (o : okR R = true) : ∀ k, (rtK R k).length ≤ 20 + 1401 * k
  | 0 => by
    obtain ⟨-, -, -, h1, h2⟩ := rt_n o
    have := itoa_len (n := R.vars) (by omega)
    show (Lib.itoa R.vars).length ≤ _
    omega
  | k + 1 => by
    have h := rtK_len o k
    have h2 := nxt_short o k
    show (rtK R k ++ ([59] ++ nxtL (rtP R k))).length ≤ _
    rw [List.length_append, List.length_append]
    show _ + (1 + _) ≤ _
    omega
theorem nt_of {R : Rw} (o : okR R = true) (k : Nat) : ntOk (rtP R k) = true ∧ ntD (rtP R k) = nxtL (rtP R k) := by
  have h := rtP_len o k
  have e : ntOk (rtP R k) = true := by unfold ntOk; rw [decide_eq_true_eq]; omega
  exact ⟨e, by unfold ntD; rw [e]; rfl⟩
end Go.Proofs.YtcgdkjbbdpmmhaaDoor
