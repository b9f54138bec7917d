/- What the walks of the exact laws need where lists of singles are all that is looked at: never beside Law or Il. -/
import Derived.Test.YtcnfmphokobgiaaOpF
import Derived.Test.YtcnfmphokobgiaaFinL
import Derived.Deep.RegionWith
import Derived.Deep.DeepCutAuto
namespace Go.Proofs.Ytcnfmphokobgiaa
open Go.ChangeShapes Go.WideShapes Go.ChangeAt Go.RowKit Go.ChangeMaps

/-- Answers a bool; the old memory stands. -/
def Says (b : Bool) (w : World) (e : Ending) (w' : World) : Prop := e = .returned (.bool b) ∧ Below w.heap.size w w'
theorem says {b c : Bool} {w w' : World} (h : b = c) (k : Below w.heap.size w w') : Says c w (.returned (.bool b)) w' := ⟨by rw [h], k⟩
theorem Tells.says {b : Bool} {w w' : World} {e : Ending} (h : Tells b w e w') : Says b w e w' := h.below
theorem quiet_below {w w' : World} (h : ∃ n, w' = w.drewN n) : Below w.heap.size w w' := by
  obtain ⟨n, rfl⟩ := h
  exact below_drewN (Below.refl _ _) n
theorem eqF32_says (v u : Value) (Z : List Nat) (w : World) (hn : Z.length ≤ 1048576) (h1 : SL w v Z) (h2 : SL w u Z) : Calls Try.prog 44 #[v, u] w (Says true w) :=
  (eqF32_any v u Z w hn h1 h2).mono fun _ _ ⟨h1, h2⟩ => ⟨h1, quiet_below h2⟩
theorem heldF32_says (v : Value) (k : Int) (n : Nat) (w : World) (hv : SL w v (marks k n)) (hn : n ≤ 1048576) (hk0 : 0 ≤ k) (hk1 : k ≤ 4194304) :
    Calls Try.prog 46 #[v, .int .i64 k] w fun e w' => e = .returned (.int .i64 (k + (n : Nat))) ∧ Below w.heap.size w w' :=
  (heldF32_any v k n w hv hn hk0 hk1).mono fun _ _ ⟨h1, h2⟩ => ⟨h1, by rw [← h2]; exact Below.refl _ _⟩
structure OKF (Z : List Nat) : Prop where
  size : Z.length ≤ 1048576
  fit : FitF Z
theorem FI.wide' {lo lo' hi : Nat} {w : World} {v : Value} {Z : List Nat} (h : FI lo hi w v Z) (h1 : lo' ≤ lo) : FI lo' hi w v Z := SI.wide h h1 (Nat.le_refl _) h.1
theorem FI.below' {lo hi : Nat} {w w' : World} {v : Value} {Z : List Nat} (h : FI lo hi w v Z) {B : Nat} (hb : Below B w w') (hB : w.heap.size ≤ B) : FI lo hi w' v Z := SI.below h hb hB
theorem FI.kept' {lo hi lo2 hi2 : Nat} {w w' : World} {v : Value} {Z : List Nat} (h : FI lo hi w v Z) (ht : Turned lo2 hi2 w w') (hs : hi ≤ lo2 ∨ hi2 ≤ lo) : FI lo hi w' v Z := SI.kept h ht hs
theorem FI.len' {lo hi : Nat} {w : World} {v : Value} {Z : List Nat} (h : FI lo hi w v Z) : ∃ ao cap, v = .slice ao Z.length cap := SI.len h

theorem SL.long {w : World} {v : Value} {Z : List Nat} (h : SL w v Z) : ∃ ao cap, v = .slice ao Z.length cap := SL.long' h
/-- A list of singles, of the call's own, and a bool. -/
def SaysLB (Z : List Nat) (b : Bool) (w : World) (e : Ending) (w' : World) : Prop := ∃ v, e = .returned (.tuple #[v, .bool b]) ∧ FI w.heap.size w'.heap.size w' v Z ∧ Below w.heap.size w w'
end Go.Proofs.Ytcnfmphokobgiaa
