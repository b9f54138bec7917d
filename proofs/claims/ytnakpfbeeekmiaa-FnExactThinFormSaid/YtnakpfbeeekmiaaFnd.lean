/- What a search answers. -/
import Derived.Test.YtnakpfbeeekmiaaLs
namespace Go.Proofs.Ytnakpfbeeekmiaa
open Go.RowKit Go.ChangeShapes Go.WideShapes

def FoundP (t : Bool) (w : World) (e : Ending) (w' : World) : Prop := ((t = true ∧ ∃ k : Nat, e = .returned (.int .i64 k)) ∨ (t = false ∧ e = .returned (.int .i64 (-1)))) ∧ Below w.heap.size w w'
end Go.Proofs.Ytnakpfbeeekmiaa
