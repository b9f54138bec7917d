/- Indices below n as they lie in a row; a row that a sort has turned. -/
import Derived.Test.YtnakpfbeeekmiaaNumB
import Derived.Sort.Grow
namespace Go.Proofs.Ytnakpfbeeekmiaa
open Go.RowKit Go.ChangeShapes Go.WideShapes Go.Sort

def encF {n : Nat} (x : Fin n) : Value := .int .i64 ((x.val : Nat) : Int)
theorem turnedE {α : Type} [Inhabited α] {enc : α → Value} {w : World} {g off n : Nat} {d : Array α} {os : Array Obj} : Turned g (g + 1) w (grow (putRow enc (Sort.ahead w n) g off d) os) := by
  refine ⟨rfl, rfl, rfl, by simp, fun b hb hne => ?_⟩
  rw [heap_grow_old _ os (by simpa using hb)]
  show (w.heap.modify g _)[b]? = w.heap[b]?
  rw [Array.getElem?_modify, if_neg (by omega)]
end Go.Proofs.Ytnakpfbeeekmiaa
