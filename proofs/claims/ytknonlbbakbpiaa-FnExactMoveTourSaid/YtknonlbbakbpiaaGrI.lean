/- A call that hands back a list of the call's own, which may grow. -/
import Derived.Test.YtknonlbbakbpiaaOwn
namespace Go.Proofs.Ytknonlbbakbpiaa
open Go.RowKit Go.ChangeShapes Go.WideShapes
/-- A new list that may be appended to. -/
def GrownI (Z : List Int) (w : World) (e : Ending) (w' : World) : Prop := ∃ v, e = .returned v ∧ Grows (Value.int .i64) 2 w.heap.size v Z w' ∧ Below w.heap.size w w'
end Go.Proofs.Ytknonlbbakbpiaa
