/- The numbers below a number, as the program makes them. -/
import Derived.Test.YtdmlhjhhkiajaaaDoorGrw
import Derived.Test.YtdmlhjhhkiajaaaDoorMix
import Derived.Deep.LoopGhost
namespace Go.Proofs.YtdmlhjhhkiajaaaDoor
open Go.RowKit Go.ChangeShapes Go.WideShapes

def numL (n : Nat) : List Int := allF (fun i => (i : Int)) n
theorem numL_len (n : Nat) : (numL n).length = n := allF_len _ _
theorem numL_up (n : Nat) : numL (n + 1) = numL n ++ [(n : Int)] := by unfold numL allF; rw [List.range_succ, List.map_append]; rfl
end Go.Proofs.YtdmlhjhhkiajaaaDoor
