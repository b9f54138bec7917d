/- Points and valid rows, as the program tells them. -/
import Derived.Test.YtajekehidofkiaaLaw
import Derived.Deep.QuietTactic
import Derived.BigQuiet
namespace Go.Proofs.Ytajekehidofkiaa
open Go.RowKit Go.ChangeShapes Go.WideShapes
theorem isPoint_any (v : Value) (R : Rw) (u : Value) (X : List Nat) (w : World) (hv : RV w v R) (hu : SL w u X) (hx : X.length ≤ 1048576) (b : Bool) (hb : finN R.vars X = b) (hr : 1 ≤ R.vars ∧ R.vars ≤ 8) :
    Calls Try.prog 57 #[v, u] w (Says b w) := by
  have HB := Lib.hid (below_alloc w)
  obtain ⟨s1, s2, s3, rfl, g1, g2, g3⟩ := hv
  have HU := Lib.hid (fun o => hu.below (HB.out o) (Nat.le_refl _))
  have H := Lib.hid hb
  obtain ⟨hr1, hr2⟩ := hr
  clear g1 g2 g3 hb hu
  go_enter Try.func57, Try.ntmps57
  go_wp2_with (go_at_call 84; refine (areFinite_is _ _ _ X _ (HU.out _) hx H.out).mono ?_; rintro e w' ⟨rfl, n1, rfl⟩)
  go_ret
  exact says rfl (below_drewN (HB.out _) _)

theorem implValid_is (b : Bool) (v : Value) (R : Rw) (w : World) (hv : RV w v R) (hn : R.size ≤ 1048576) (hb : okR R = b) :
    Calls Try.prog 56 #[v] w (Says b w) := by
  subst hb
  exact implValid_any v R w hv hn
end Go.Proofs.Ytajekehidofkiaa
