/- AreCities: the program's side. -/
import Derived.Test.YtknonlbbakbpiaaCitI
namespace Go.Proofs.Ytknonlbbakbpiaa
open Go.RowKit Go.ChangeShapes Go.WideShapes

theorem citiesOf_yes (k : Nat) (v : Value) (L : List Int) (w : World) (hv : IL w v L) (hn : L.length ≤ 1048576) (h : cityB L = true) (hk : rootN L.length = k) :
    Calls Try.prog 142 #[v] w (SaysCit k v w) := by
  subst hk
  have := citiesOf_any v L w hv hn
  rw [h] at this
  exact this
theorem citiesOf_no (v : Value) (L : List Int) (w : World) (hv : IL w v L) (hn : L.length ≤ 1048576) (h : cityB L = false) :
    Calls Try.prog 142 #[v] w (SaysNoCit w) := by
  have := citiesOf_any v L w hv hn
  rw [h] at this
  exact this
end Go.Proofs.Ytknonlbbakbpiaa
