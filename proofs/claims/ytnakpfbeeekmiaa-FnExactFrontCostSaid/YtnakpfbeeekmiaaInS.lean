/- An integer in a list (plain). -/
import Derived.RowKit
namespace Go.Proofs.Ytnakpfbeeekmiaa

def inS (S : List Int) (x : Int) : Bool := (List.range S.length).any fun i => S.getD i 0 == x
end Go.Proofs.Ytnakpfbeeekmiaa
