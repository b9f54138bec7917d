/- What the walks of the exact laws need: each helper's contract with an answer and 'the old memory stands'. -/
import Derived.Test.YtajekehidofkiaaVi
import Derived.Test.YtajekehidofkiaaBox
import Derived.Test.YtajekehidofkiaaOpen
import Derived.Deep.RegionWith
import Derived.Deep.DeepCutAuto
namespace Go.Proofs.Ytajekehidofkiaa
open Go.ChangeShapes Go.WideShapes Go.ChangeAt Go.RowKit Go.ChangeMaps

theorem Tells.says {b : Bool} {w w' : World} {e : Ending} (h : Tells b w e w') : Says b w e w' := h.below
theorem quiet_below {w w' : World} (h : ∃ n, w' = w.drewN n) : Below w.heap.size w w' := by
  obtain ⟨n, rfl⟩ := h
  exact below_drewN (Below.refl _ _) n
theorem same_says (a b : Nat) (h : Fl.cls .f64 a = Fl.cls .f64 b) (w : World) : Calls Try.prog 61 #[.float .f64 a, .float .f64 b] w (Says true w) :=
  (same_any a b h w).mono fun _ _ ⟨h1, h2⟩ => ⟨h1, quiet_below h2⟩
theorem eqF32_says (v u : Value) (Z : List Nat) (w : World) (hn : Z.length ≤ 1048576) (h1 : SL w v Z) (h2 : SL w u Z) : Calls Try.prog 32 #[v, u] w (Says true w) :=
  (eqF32_any v u Z w hn h1 h2).mono fun _ _ ⟨h1, h2⟩ => ⟨h1, quiet_below h2⟩
theorem heldF32_says (v : Value) (k : Int) (n : Nat) (w : World) (hv : SL w v (marks k n)) (hn : n ≤ 1048576) (hk0 : 0 ≤ k) (hk1 : k ≤ 4194304) :
    Calls Try.prog 62 #[v, .int .i64 k] w fun e w' => e = .returned (.int .i64 (k + (n : Nat))) ∧ Below w.heap.size w w' :=
  (heldF32_any v k n w hv hn hk0 hk1).mono fun _ _ ⟨h1, h2⟩ => ⟨h1, by rw [← h2]; exact Below.refl _ _⟩

theorem keep_cell' {lo hi : Nat} {w w' : World} {g o : Nat} {v : Value} (h : w.cell? ⟨g, o, none⟩ = some v) (ht : Turned lo hi w w') (hg : g < lo ∨ hi ≤ g) : w'.cell? ⟨g, o, none⟩ = some v := by
  rw [World.cell?_of_block (w := w) (a := ⟨g, o, none⟩) (ht.block g (cell_block h) hg)]; exact h
theorem Box2.kept {lo hi : Nat} {w w' : World} {g : Nat} {a b : Value} (h : Box2 w g a b) (ht : Turned lo hi w w') (hg : g < lo ∨ hi ≤ g) : Box2 w' g a b := ⟨keep_cell' h.c0 ht hg, keep_cell' h.c1 ht hg⟩
theorem Box3.kept {lo hi : Nat} {w w' : World} {g : Nat} {a b c : Value} (h : Box3 w g a b c) (ht : Turned lo hi w w') (hg : g < lo ∨ hi ≤ g) : Box3 w' g a b c := ⟨keep_cell' h.c0 ht hg, keep_cell' h.c1 ht hg, keep_cell' h.c2 ht hg⟩
theorem Box4.kept {lo hi : Nat} {w w' : World} {g : Nat} {a b c d : Value} (h : Box4 w g a b c d) (ht : Turned lo hi w w') (hg : g < lo ∨ hi ≤ g) : Box4 w' g a b c d := ⟨keep_cell' h.c0 ht hg, keep_cell' h.c1 ht hg, keep_cell' h.c2 ht hg, keep_cell' h.c3 ht hg⟩

/-- Rows, and lists, that the laws look at. -/
structure OKR (R : Rw) : Prop where
  size : R.size ≤ 1048576
  fit : FitR R
structure OKF (Z : List Nat) : Prop where
  size : Z.length ≤ 1048576
  fit : FitF Z
theorem RD.wide {lo lo' hi : Nat} {w : World} {v : Value} {R : Rw} (h : RD lo hi w v R) (h1 : lo' ≤ lo) : RD lo' hi w v R := by
  obtain ⟨s1, s2, s3, a, b, l1, l2, l3, e, g1, g2, g3⟩ := h
  have hh : hi ≤ w.heap.size := g3.1
  exact ⟨s1, s2, s3, a, b, by omega, l2, l3, e, SI.wide g1 h1 (Nat.le_refl _) (by omega), g2, g3⟩
theorem FI.wide' {lo lo' hi : Nat} {w : World} {v : Value} {Z : List Nat} (h : FI lo hi w v Z) (h1 : lo' ≤ lo) : FI lo' hi w v Z := SI.wide h h1 (Nat.le_refl _) h.1
theorem FI.below' {lo hi : Nat} {w w' : World} {v : Value} {Z : List Nat} (h : FI lo hi w v Z) {B : Nat} (hb : Below B w w') (hB : w.heap.size ≤ B) : FI lo hi w' v Z := SI.below h hb hB
theorem FI.kept' {lo hi lo2 hi2 : Nat} {w w' : World} {v : Value} {Z : List Nat} (h : FI lo hi w v Z) (ht : Turned lo2 hi2 w w') (hs : hi ≤ lo2 ∨ hi2 ≤ lo) : FI lo hi w' v Z := SI.kept h ht hs
theorem RD.split {lo hi : Nat} {w : World} {v : Value} {R : Rw} (h : RD lo hi w v R) : ∃ x1 k1 x2 k2 x3 k3, v = .agg #[.int .i64 R.vars, .slice x1 R.N.length k1, .slice x2 R.B.length k2, .slice x3 R.G.length k3] := by
  obtain ⟨s1, s2, s3, a, b, _, _, _, e, h1, h2, h3⟩ := h
  obtain ⟨x1, k1, rfl⟩ := SI.len h1
  obtain ⟨x2, k2, rfl⟩ := SI.len h2
  obtain ⟨x3, k3, rfl⟩ := SI.len h3
  exact ⟨x1, k1, x2, k2, x3, k3, e⟩
theorem FI.len' {lo hi : Nat} {w : World} {v : Value} {Z : List Nat} (h : FI lo hi w v Z) : ∃ ao cap, v = .slice ao Z.length cap := SI.len h
end Go.Proofs.Ytajekehidofkiaa
