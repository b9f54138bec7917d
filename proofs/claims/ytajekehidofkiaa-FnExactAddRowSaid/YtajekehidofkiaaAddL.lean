/- A row more: both sides, as the law wants them. -/
import Derived.Test.YtajekehidofkiaaAddR
import Derived.Test.YtajekehidofkiaaAddY
import Derived.Test.YtajekehidofkiaaHeldR
import Derived.Test.YtajekehidofkiaaOpen
namespace Go.Proofs.Ytajekehidofkiaa
open Go.RowKit Go.ChangeShapes Go.WideShapes

theorem RT.wide0 {lo lo' hi : Nat} {w : World} {v : Value} {R : Rw} (h : RT lo hi w v R) (h1 : lo' ≤ lo) : RT lo' hi w v R := by
  obtain ⟨s1, s2, s3, a1, b1, a2, b2, a3, b3, l1, l2, l3, l4, l5, e, g1, g2, g3⟩ := h
  exact ⟨s1, s2, s3, a1, b1, a2, b2, a3, b3, ⟨by omega, l1.2.1, l1.2.2⟩, ⟨by omega, l2.2.1, l2.2.2⟩, ⟨by omega, l3.2.1, l3.2.2⟩, l4, l5, e, g1, g2, g3⟩
theorem RT.split {lo hi : Nat} {w : World} {v : Value} {R : Rw} (h : RT lo hi w v R) : ∃ x1 k1 x2 k2 x3 k3, v = .agg #[.int .i64 R.vars, .slice x1 R.N.length k1, .slice x2 R.B.length k2, .slice x3 R.G.length k3] := by
  obtain ⟨s1, s2, s3, a1, b1, a2, b2, a3, b3, -, -, -, -, -, e, h1, h2, h3⟩ := h
  obtain ⟨x1, k1, rfl⟩ := SI.len h1
  obtain ⟨x2, k2, rfl⟩ := SI.len h2
  obtain ⟨x3, k3, rfl⟩ := SI.len h3
  exact ⟨x1, k1, x2, k2, x3, k3, e⟩
def MadeRT (R : Rw) (w : World) (e : Ending) (w' : World) : Prop := ∃ v, e = .returned v ∧ RT w.heap.size w'.heap.size w' v R ∧ Below w.heap.size w w'
theorem toRowsT_any (v : Value) (R : Rw) (w : World) (hv : RV w v R) (hn : R.size ≤ 1048576) : Calls Try.prog 28 #[v] w (MadeRT R w) :=
  (toRows_any v R w hv hn).mono fun _ _ ⟨v, he, hr, hb⟩ => ⟨v, he, hr.rt, hb⟩
theorem heldRowsT_any (v : Value) (k : Int) (R : Rw) (w : World) (hv : RV w v (marksQ k R)) (hn : R.size ≤ 1048576) (hk0 : 0 ≤ k) (hk1 : k ≤ 2097152) :
    Calls Try.prog 35 #[v, .int .i64 k] w fun e w' => e = .returned (.int .i64 (k + (R.size : Nat))) ∧ Below w.heap.size w w' := heldRows_any v R k w hv hn hk0 hk1
theorem fit_pt {R : Rw} {X : List Nat} (h : okR R = true) : fitB R X = finN R.vars X := by unfold fitB finN; rw [h, Bool.true_and]
theorem addO_size {R : Rw} {X : List Nat} {y : Nat} : (addO R X y).size ≤ 1048576 := by
  unfold addO
  cases h : addB R X y with
  | false => show 0 + 0 + 0 ≤ _; omega
  | true =>
    unfold addB at h
    rw [Bool.and_eq_true] at h
    obtain ⟨v1, v2, b1, b2, g, n, -, -, -⟩ := (okR_iff _).1 h.2
    have hb : ((addR R X y).B.length : Int) ≤ 8 := by omega
    have h1 : (addR R X y).vars * ((addR R X y).B.length : Int) ≤ 8 * 8 := Int.le_trans (Int.mul_le_mul_of_nonneg_right v2 (by omega)) (by omega)
    rw [← n] at h1
    show (addR R X y).N.length + (addR R X y).B.length + (addR R X y).G.length ≤ _
    omega
theorem addO_len (R : Rw) (X : List Nat) (y : Nat) : (addO R X y).size ≤ 1048576 := addO_size
theorem specAddRow_any (v : Value) (R : Rw) (u : Value) (X : List Nat) (y : Nat) (w : World) (hv : RV w v R) (hu : SL w u X) (oR : OKR R) (oX : OKF X) (_oy : y < 4294967296) :
    Calls Try.prog 27 #[v, u, .float .f32 y] w (SaysRB (addO R X y) (addB R X y) w) := by
  cases hf : fitB R X with
  | false =>
    have e : addB R X y = false := by unfold addB; rw [hf]; rfl
    unfold addO
    rw [e]
    exact specAdd_no v R u X y w hv hu oR.size oX.size hf
  | true =>
    have e : addB R X y = okR (addR R X y) := by unfold addB; rw [hf, Bool.true_and]
    unfold addO
    rw [e]
    exact specAdd_yes v R u X y w hv hu oR.size oX.size hf _ rfl
theorem implAddRow_any (v : Value) (R : Rw) (u : Value) (X : List Nat) (y : Nat) (w : World) (hv : RV w v R) (hu : SL w u X) (oR : OKR R) (oX : OKF X) (_oy : y < 4294967296) :
    Calls Try.prog 30 #[v, u, .float .f32 y] w (SaysRB (addO R X y) (addB R X y) w) := by
  cases hf : okR R with
  | false =>
    have e : addB R X y = false := by unfold addB fitB; rw [hf]; rfl
    unfold addO
    rw [e]
    exact implAdd_no1 v R u X y w hv hu oR.size hf
  | true =>
    cases hp : finN R.vars X with
    | false =>
      have e : addB R X y = false := by unfold addB; rw [fit_pt hf, hp]; rfl
      unfold addO
      rw [e]
      exact implAdd_no2 v R u X y w hv hu oR.size oX.size hf hp
    | true =>
      have e : addB R X y = okR (addR R X y) := by unfold addB; rw [fit_pt hf, hp, Bool.true_and]
      unfold addO
      rw [e]
      cases hb : okR (addR R X y) with
      | false => exact implAdd_bad v R u X y w hv hu oR.size oX.size hf hp hb
      | true => exact implAdd_yes v R u X y w hv hu oR.size oX.size hf hp hb
end Go.Proofs.Ytajekehidofkiaa
