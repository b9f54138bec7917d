/-
  No cell of these rows narrows 'for every input' (looked for: loops, veiled, ifaces, maps, wideKeys, modest, calm, conditions, laid).
  DERIVED. THE GIVEN ROWS OF THIS SEAT. 6 by the template 'for every input the law returns true; each argument reads behind the call as it read before'; 0 by the template 'total and deterministic' (their statements: YtajekehidofkiaaTotals.lean).
  GIVEN WITH THE SEED: the statements are not yours to turn. If you find one false, say at which input.
  Laid BY PROGRAM, IN A SANDBOX (cutbox-rows.mjs): the forced cells as the released guide's own fill.sh prints them over the translation be0d4f664bd516a1… (all of the seat's roots in one cut). By AI agents, Wed Nov 11 2026. No macro, syntax, notation, axiom, sorry.
-/
import Derived.Test.YtajekehidofkiaaChecked
import GoSem.Claim
import GoSem.ClaimJoined
import GoSem.ClaimMapViews
import Derived.JoinedTies
import Derived.KernelRfl
namespace Go.Proofs.Ytajekehidofkiaa
/- THE CELL 'sum', in the pinned program and in every row, IS THE sha256 OF THE DUMP (.gsa) THAT YtajekehidofkiaaProg.lean LOADS. Nothing in Lean hashes anything: it is a label: what it is worth is what the hold of that sum in a sandbox is worth. -/
noncomputable def Try.pinned : Pinned := { name := "ytajekehidofkiaa", sum := "be0d4f664bd516a125d14a9251ce65bb3ad4a685366c63edd2ea7fde5242ef64", checked := Try.checked }
namespace Rows
def none {H : Type} : Left H := { results := [], args := [] }

/-- 'laws.FnExactAllSome': WHATEVER THE INPUT: true; the input reads as it did. -/
def fnExactAllSomeSpec : ChangeSpec := { name := "fnExactAllSome", fn := fun _ => fun
  | [d1, d2] => { results := [.lit (.bool true)], args := [d1, d2] }
  | _ => none }
def fnExactAllSomeRow : OpenClaim := { program := "ytajekehidofkiaa", sum := "be0d4f664bd516a125d14a9251ce65bb3ad4a685366c63edd2ea7fde5242ef64", func := "loop.example/g01346/laws.FnExactAllSome", spec := "fnExactAllSome", unfollowed := true, recurses := true, apart := false }
def FnExactAllSomeSaid : Prop := fnExactAllSomeRow.holds Try.pinned (OpenSpec.ofChange fnExactAllSomeSpec)

/-- ITS FALSE NEIGHBOUR: 'it returns false'. Refute it at one input. -/
def fnExactAllSomeWrong : ChangeSpec := { name := "fnExactAllSome", fn := fun _ => fun
  | [d1, d2] => { results := [.lit (.bool false)], args := [d1, d2] }
  | _ => none }
def FnExactAllSomeWrongFalsely : Prop := fnExactAllSomeRow.holds Try.pinned (OpenSpec.ofChange fnExactAllSomeWrong)

/-- 'laws.FnExactFirstMove': WHATEVER THE INPUT: true; the input reads as it did. -/
def fnExactFirstMoveSpec : ChangeSpec := { name := "fnExactFirstMove", fn := fun _ => fun
  | [d1, d2] => { results := [.lit (.bool true)], args := [d1, d2] }
  | _ => none }
def fnExactFirstMoveRow : OpenClaim := { program := "ytajekehidofkiaa", sum := "be0d4f664bd516a125d14a9251ce65bb3ad4a685366c63edd2ea7fde5242ef64", func := "loop.example/g01346/laws.FnExactFirstMove", spec := "fnExactFirstMove", unfollowed := true, recurses := true, apart := false }
def FnExactFirstMoveSaid : Prop := fnExactFirstMoveRow.holds Try.pinned (OpenSpec.ofChange fnExactFirstMoveSpec)

/-- ITS FALSE NEIGHBOUR: 'it returns false'. Refute it at one input. -/
def fnExactFirstMoveWrong : ChangeSpec := { name := "fnExactFirstMove", fn := fun _ => fun
  | [d1, d2] => { results := [.lit (.bool false)], args := [d1, d2] }
  | _ => none }
def FnExactFirstMoveWrongFalsely : Prop := fnExactFirstMoveRow.holds Try.pinned (OpenSpec.ofChange fnExactFirstMoveWrong)

/-- 'laws.FnExactFillSquare': WHATEVER THE INPUT: true; the input reads as it did. -/
def fnExactFillSquareSpec : ChangeSpec := { name := "fnExactFillSquare", fn := fun _ => fun
  | [d1, d2] => { results := [.lit (.bool true)], args := [d1, d2] }
  | _ => none }
def fnExactFillSquareRow : OpenClaim := { program := "ytajekehidofkiaa", sum := "be0d4f664bd516a125d14a9251ce65bb3ad4a685366c63edd2ea7fde5242ef64", func := "loop.example/g01346/laws.FnExactFillSquare", spec := "fnExactFillSquare", unfollowed := true, recurses := true, apart := false }
def FnExactFillSquareSaid : Prop := fnExactFillSquareRow.holds Try.pinned (OpenSpec.ofChange fnExactFillSquareSpec)

/-- ITS FALSE NEIGHBOUR: 'it returns false'. Refute it at one input. -/
def fnExactFillSquareWrong : ChangeSpec := { name := "fnExactFillSquare", fn := fun _ => fun
  | [d1, d2] => { results := [.lit (.bool false)], args := [d1, d2] }
  | _ => none }
def FnExactFillSquareWrongFalsely : Prop := fnExactFillSquareRow.holds Try.pinned (OpenSpec.ofChange fnExactFillSquareWrong)

/-- 'laws.FnExactCountSquares': WHATEVER THE INPUT: true; the input reads as it did. -/
def fnExactCountSquaresSpec : ChangeSpec := { name := "fnExactCountSquares", fn := fun _ => fun
  | [d1, d2] => { results := [.lit (.bool true)], args := [d1, d2] }
  | _ => none }
def fnExactCountSquaresRow : OpenClaim := { program := "ytajekehidofkiaa", sum := "be0d4f664bd516a125d14a9251ce65bb3ad4a685366c63edd2ea7fde5242ef64", func := "loop.example/g01346/laws.FnExactCountSquares", spec := "fnExactCountSquares", unfollowed := true, recurses := true, apart := false }
def FnExactCountSquaresSaid : Prop := fnExactCountSquaresRow.holds Try.pinned (OpenSpec.ofChange fnExactCountSquaresSpec)

/-- ITS FALSE NEIGHBOUR: 'it returns false'. Refute it at one input. -/
def fnExactCountSquaresWrong : ChangeSpec := { name := "fnExactCountSquares", fn := fun _ => fun
  | [d1, d2] => { results := [.lit (.bool false)], args := [d1, d2] }
  | _ => none }
def FnExactCountSquaresWrongFalsely : Prop := fnExactCountSquaresRow.holds Try.pinned (OpenSpec.ofChange fnExactCountSquaresWrong)

/-- 'laws.FnExactAddRow': WHATEVER THE INPUT: true; the input reads as it did. -/
def fnExactAddRowSpec : ChangeSpec := { name := "fnExactAddRow", fn := fun _ => fun
  | [d1, d2, d3] => { results := [.lit (.bool true)], args := [d1, d2, d3] }
  | _ => none }
def fnExactAddRowRow : OpenClaim := { program := "ytajekehidofkiaa", sum := "be0d4f664bd516a125d14a9251ce65bb3ad4a685366c63edd2ea7fde5242ef64", func := "loop.example/g01346/laws.FnExactAddRow", spec := "fnExactAddRow", inPlace := ["math.Float64bits", "math.Float64frombits"], apart := false }
def FnExactAddRowSaid : Prop := fnExactAddRowRow.holds Try.pinned (OpenSpec.ofChange fnExactAddRowSpec)

/-- ITS FALSE NEIGHBOUR: 'it returns false'. Refute it at one input. -/
def fnExactAddRowWrong : ChangeSpec := { name := "fnExactAddRow", fn := fun _ => fun
  | [d1, d2, d3] => { results := [.lit (.bool false)], args := [d1, d2, d3] }
  | _ => none }
def FnExactAddRowWrongFalsely : Prop := fnExactAddRowRow.holds Try.pinned (OpenSpec.ofChange fnExactAddRowWrong)

/-- 'laws.FnExactDropRow': WHATEVER THE INPUT: true; the input reads as it did. -/
def fnExactDropRowSpec : ChangeSpec := { name := "fnExactDropRow", fn := fun _ => fun
  | [d1, d2] => { results := [.lit (.bool true)], args := [d1, d2] }
  | _ => none }
def fnExactDropRowRow : OpenClaim := { program := "ytajekehidofkiaa", sum := "be0d4f664bd516a125d14a9251ce65bb3ad4a685366c63edd2ea7fde5242ef64", func := "loop.example/g01346/laws.FnExactDropRow", spec := "fnExactDropRow", inPlace := ["math.Float64bits", "math.Float64frombits"], apart := false }
def FnExactDropRowSaid : Prop := fnExactDropRowRow.holds Try.pinned (OpenSpec.ofChange fnExactDropRowSpec)

/-- ITS FALSE NEIGHBOUR: 'it returns false'. Refute it at one input. -/
def fnExactDropRowWrong : ChangeSpec := { name := "fnExactDropRow", fn := fun _ => fun
  | [d1, d2] => { results := [.lit (.bool false)], args := [d1, d2] }
  | _ => none }
def FnExactDropRowWrongFalsely : Prop := fnExactDropRowRow.holds Try.pinned (OpenSpec.ofChange fnExactDropRowWrong)

/- THE SECOND FORM. 'bulk': how many values and letters a reading holds, each counted each time it is reached (what is shared counts as often as it is met; a slice's spare places count too). A statement '..UptoSaid' is the law's where the arguments, and the package variables that the reading takes, are together of bulk at most 1048576: NARROWER than '..Said'. Prove '..Said' where nothing that the law and all that it calls make is longer than what came in: it says more and counts as full. Else prove '..UptoSaid'. A law counts once. -/
mutual
def uptoBulk {H : Type} : DataW H → Nat
  | .lit (.string bytes) => bytes.length + 1
  | .lit _ => 1
  | .nil => 1
  | .ptr d => uptoBulk d + 1
  | .slice elems spare => uptoBulkAll elems + uptoBulkAll spare + 1
  | .agg parts => uptoBulkAll parts + 1
  | .iface _ d => uptoBulk d + 1
  | .map entries => uptoBulkEntries entries + 1
  | .held _ => 1
def uptoBulkAll {H : Type} : List (DataW H) → Nat
  | [] => 0
  | d :: r => uptoBulk d + uptoBulkAll r
def uptoBulkEntries {H : Type} : List (Lit × DataW H) → Nat
  | [] => 0
  | x :: r => uptoBulkEntry x + uptoBulkEntries r
def uptoBulkEntry {H : Type} : Lit × DataW H → Nat
  | (.string bytes, d) => bytes.length + uptoBulk d + 1
  | (_, d) => uptoBulk d + 1
 end
def uptoSmall : (H : Type) → List (DataW H) → Bool := fun _ ds => decide (uptoBulkAll ds ≤ 1048576)
def OpenSpec.upto (s : _root_.Go.ChangeSpec) : _root_.Go.OpenSpec := { _root_.Go.OpenSpec.ofChange s with cond := some uptoSmall }

/-- 'laws.FnExactAllSome', WHERE WHAT IT READS IS OF BULK AT MOST 1048576: true; the input reads as it did. -/
def fnExactAllSomeUptoRow : OpenClaim := { program := "ytajekehidofkiaa", sum := "be0d4f664bd516a125d14a9251ce65bb3ad4a685366c63edd2ea7fde5242ef64", func := "loop.example/g01346/laws.FnExactAllSome", spec := "fnExactAllSome", unfollowed := true, recurses := true, apart := false, narrowed := true }
def FnExactAllSomeUptoSaid : Prop := fnExactAllSomeUptoRow.holds Try.pinned (OpenSpec.upto fnExactAllSomeSpec)

/-- 'laws.FnExactFirstMove', WHERE WHAT IT READS IS OF BULK AT MOST 1048576: true; the input reads as it did. -/
def fnExactFirstMoveUptoRow : OpenClaim := { program := "ytajekehidofkiaa", sum := "be0d4f664bd516a125d14a9251ce65bb3ad4a685366c63edd2ea7fde5242ef64", func := "loop.example/g01346/laws.FnExactFirstMove", spec := "fnExactFirstMove", unfollowed := true, recurses := true, apart := false, narrowed := true }
def FnExactFirstMoveUptoSaid : Prop := fnExactFirstMoveUptoRow.holds Try.pinned (OpenSpec.upto fnExactFirstMoveSpec)

/-- 'laws.FnExactFillSquare', WHERE WHAT IT READS IS OF BULK AT MOST 1048576: true; the input reads as it did. -/
def fnExactFillSquareUptoRow : OpenClaim := { program := "ytajekehidofkiaa", sum := "be0d4f664bd516a125d14a9251ce65bb3ad4a685366c63edd2ea7fde5242ef64", func := "loop.example/g01346/laws.FnExactFillSquare", spec := "fnExactFillSquare", unfollowed := true, recurses := true, apart := false, narrowed := true }
def FnExactFillSquareUptoSaid : Prop := fnExactFillSquareUptoRow.holds Try.pinned (OpenSpec.upto fnExactFillSquareSpec)

/-- 'laws.FnExactCountSquares', WHERE WHAT IT READS IS OF BULK AT MOST 1048576: true; the input reads as it did. -/
def fnExactCountSquaresUptoRow : OpenClaim := { program := "ytajekehidofkiaa", sum := "be0d4f664bd516a125d14a9251ce65bb3ad4a685366c63edd2ea7fde5242ef64", func := "loop.example/g01346/laws.FnExactCountSquares", spec := "fnExactCountSquares", unfollowed := true, recurses := true, apart := false, narrowed := true }
def FnExactCountSquaresUptoSaid : Prop := fnExactCountSquaresUptoRow.holds Try.pinned (OpenSpec.upto fnExactCountSquaresSpec)

/-- 'laws.FnExactAddRow', WHERE WHAT IT READS IS OF BULK AT MOST 1048576: true; the input reads as it did. -/
def fnExactAddRowUptoRow : OpenClaim := { program := "ytajekehidofkiaa", sum := "be0d4f664bd516a125d14a9251ce65bb3ad4a685366c63edd2ea7fde5242ef64", func := "loop.example/g01346/laws.FnExactAddRow", spec := "fnExactAddRow", inPlace := ["math.Float64bits", "math.Float64frombits"], apart := false, narrowed := true }
def FnExactAddRowUptoSaid : Prop := fnExactAddRowUptoRow.holds Try.pinned (OpenSpec.upto fnExactAddRowSpec)

/-- 'laws.FnExactDropRow', WHERE WHAT IT READS IS OF BULK AT MOST 1048576: true; the input reads as it did. -/
def fnExactDropRowUptoRow : OpenClaim := { program := "ytajekehidofkiaa", sum := "be0d4f664bd516a125d14a9251ce65bb3ad4a685366c63edd2ea7fde5242ef64", func := "loop.example/g01346/laws.FnExactDropRow", spec := "fnExactDropRow", inPlace := ["math.Float64bits", "math.Float64frombits"], apart := false, narrowed := true }
def FnExactDropRowUptoSaid : Prop := fnExactDropRowUptoRow.holds Try.pinned (OpenSpec.upto fnExactDropRowSpec)

end Rows
end Go.Proofs.Ytajekehidofkiaa
