/- The texts of rows: both sides, as the law wants them. -/
import Derived.Test.YtcgdkjbbdpmmhaaDoorRxI
import Derived.Test.YtcgdkjbbdpmmhaaDoorRxM
namespace Go.Proofs.YtcgdkjbbdpmmhaaDoor
open Go.RowKit Go.ChangeShapes Go.WideShapes

structure OKR (R : Rw) : Prop where
  size : R.size ≤ 1048576
  fit : FitR R
theorem RD.wide {lo lo' hi : Nat} {w : World} {v : Value} {R : Rw} (h : RD lo hi w v R) (h1 : lo' ≤ lo) : RD lo' hi w v R := by
  obtain ⟨s1, s2, s3, a, b, l1, l2, l3, e, g1, g2, g3⟩ := h
  have hh : hi ≤ w.heap.size := g3.1
  exact ⟨s1, s2, s3, a, b, by omega, l2, l3, e, SI.wide g1 h1 (Nat.le_refl _) (by omega), g2, g3⟩
theorem FI.wide' {lo lo' hi : Nat} {w : World} {v : Value} {Z : List Nat} (h : FI lo hi w v Z) (h1 : lo' ≤ lo) : FI lo' hi w v Z := SI.wide h h1 (Nat.le_refl _) h.1
theorem FI.below' {lo hi : Nat} {w w' : World} {v : Value} {Z : List Nat} (h : FI lo hi w v Z) {B : Nat} (hb : Below B w w') (hB : w.heap.size ≤ B) : FI lo hi w' v Z := SI.below h hb hB
theorem FI.kept' {lo hi lo2 hi2 : Nat} {w w' : World} {v : Value} {Z : List Nat} (h : FI lo hi w v Z) (ht : Turned lo2 hi2 w w') (hs : hi ≤ lo2 ∨ hi2 ≤ lo) : FI lo hi w' v Z := SI.kept h ht hs
theorem RD.split {lo hi : Nat} {w : World} {v : Value} {R : Rw} (h : RD lo hi w v R) : ∃ x1 k1 x2 k2 x3 k3, v = .agg #[.int .i64 R.vars, .slice x1 R.N.length k1, .slice x2 R.B.length k2, .slice x3 R.G.length k3] := by
  obtain ⟨s1, s2, s3, a, b, _, _, _, e, h1, h2, h3⟩ := h
  obtain ⟨x1, k1, rfl⟩ := SI.len h1
  obtain ⟨x2, k2, rfl⟩ := SI.len h2
  obtain ⟨x3, k3, rfl⟩ := SI.len h3
  exact ⟨x1, k1, x2, k2, x3, k3, e⟩
theorem specRowsText_any (v : Value) (R : Rw) (w : World) (hv : RV w v R) (o : OKR R) : Calls Tryd.prog 19 #[v] w (SaysTB (rtD R) (okR R) w) := specRowsText_at v R w hv o.size o.fit
theorem implRowsText_any (v : Value) (R : Rw) (w : World) (hv : RV w v R) (o : OKR R) (hp : RtTab w) : Calls Tryd.prog 21 #[v] w (SaysTB (rtD R) (okR R) w) := implRowsText_at v R w hv o.size o.fit hp
end Go.Proofs.YtcgdkjbbdpmmhaaDoor
