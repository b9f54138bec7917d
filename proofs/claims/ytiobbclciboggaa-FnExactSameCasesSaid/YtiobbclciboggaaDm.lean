/- Worlds that have drawn; what a quiet call tells from there. -/
import Derived.Test.YtiobbclciboggaaIl
import Derived.Deep.LoopGhost
import Derived.WalkSpells
namespace Go.Proofs.Ytiobbclciboggaa
open Go.RowKit Go.ChangeShapes Go.WideShapes

theorem drewM {w wr : World} (h : ∃ n, wr = w.drewN n) (m : Nat) : ∃ n, wr.drewN m = w.drewN n := by
  obtain ⟨n, rfl⟩ := h
  exact ⟨n + m, World.drewN_drewN _ _ _⟩
theorem Tells.from {b : Bool} {w wr : World} {m : Nat} (h : ∀ m, ∃ n, wr.drewN m = w.drewN n) {c : Bool} (e : c = b) : Tells c w (.returned (.bool b)) (wr.drewN m) := by
  obtain ⟨n, hn⟩ := h m
  exact ⟨by rw [e], n, hn⟩
end Go.Proofs.Ytiobbclciboggaa
