/-
  No cell of these rows narrows 'for every input' (looked for: loops, veiled, ifaces, maps, wideKeys, modest, calm, conditions, laid).
  DERIVED. THE GIVEN ROWS OF THIS SEAT. 12 by the template 'for every input the law returns true; each argument reads behind the call as it read before'; 0 by the template 'total and deterministic' (their statements: YtiobbclciboggaaTotals.lean).
  GIVEN WITH THE SEED: the statements are not yours to turn. If you find one false, say at which input.
  Laid BY PROGRAM, IN A SANDBOX (cutbox-rows.mjs): the forced cells as the released guide's own fill.sh prints them over the translation 3a7607041e400592… (all of the seat's roots in one cut). By AI agents, Wed Nov 11 2026. No macro, syntax, notation, axiom, sorry.
-/
import Derived.Test.YtiobbclciboggaaChecked
import GoSem.Claim
import GoSem.ClaimJoined
import GoSem.ClaimMapViews
import Derived.JoinedTies
import Derived.KernelRfl
namespace Go.Proofs.Ytiobbclciboggaa
/- THE CELL 'sum', in the pinned program and in every row, IS THE sha256 OF THE DUMP (.gsa) THAT YtiobbclciboggaaProg.lean LOADS. Nothing in Lean hashes anything: it is a label: what it is worth is what the hold of that sum in a sandbox is worth. -/
noncomputable def Try.pinned : Pinned := { name := "ytiobbclciboggaa", sum := "3a7607041e4005924249b13179d7c62d571966b398959c43294baf62a76cc23a", checked := Try.checked }
namespace Rows
def none {H : Type} : Left H := { results := [], args := [] }

/-- 'laws.FnExactFirstDiffer': WHATEVER THE INPUT: true; the input reads as it did. -/
def fnExactFirstDifferSpec : ChangeSpec := { name := "fnExactFirstDiffer", fn := fun _ => fun
  | [d] => { results := [.lit (.bool true)], args := [d] }
  | _ => none }
def fnExactFirstDifferRow : OpenClaim := { program := "ytiobbclciboggaa", sum := "3a7607041e4005924249b13179d7c62d571966b398959c43294baf62a76cc23a", func := "loop.example/g01346/laws.FnExactFirstDiffer", spec := "fnExactFirstDiffer", unfollowed := true, recurses := true, apart := false }
def FnExactFirstDifferSaid : Prop := fnExactFirstDifferRow.holds Try.pinned (OpenSpec.ofChange fnExactFirstDifferSpec)

/-- ITS FALSE NEIGHBOUR: 'it returns false'. Refute it at one input. -/
def fnExactFirstDifferWrong : ChangeSpec := { name := "fnExactFirstDiffer", fn := fun _ => fun
  | [d] => { results := [.lit (.bool false)], args := [d] }
  | _ => none }
def FnExactFirstDifferWrongFalsely : Prop := fnExactFirstDifferRow.holds Try.pinned (OpenSpec.ofChange fnExactFirstDifferWrong)

/-- 'laws.FnExactCountDiffers': WHATEVER THE INPUT: true; the input reads as it did. -/
def fnExactCountDiffersSpec : ChangeSpec := { name := "fnExactCountDiffers", fn := fun _ => fun
  | [d] => { results := [.lit (.bool true)], args := [d] }
  | _ => none }
def fnExactCountDiffersRow : OpenClaim := { program := "ytiobbclciboggaa", sum := "3a7607041e4005924249b13179d7c62d571966b398959c43294baf62a76cc23a", func := "loop.example/g01346/laws.FnExactCountDiffers", spec := "fnExactCountDiffers", unfollowed := true, recurses := true, apart := false }
def FnExactCountDiffersSaid : Prop := fnExactCountDiffersRow.holds Try.pinned (OpenSpec.ofChange fnExactCountDiffersSpec)

/-- ITS FALSE NEIGHBOUR: 'it returns false'. Refute it at one input. -/
def fnExactCountDiffersWrong : ChangeSpec := { name := "fnExactCountDiffers", fn := fun _ => fun
  | [d] => { results := [.lit (.bool false)], args := [d] }
  | _ => none }
def FnExactCountDiffersWrongFalsely : Prop := fnExactCountDiffersRow.holds Try.pinned (OpenSpec.ofChange fnExactCountDiffersWrong)

/-- 'laws.FnExactNarrowDiffers': WHATEVER THE INPUT: true; the input reads as it did. -/
def fnExactNarrowDiffersSpec : ChangeSpec := { name := "fnExactNarrowDiffers", fn := fun _ => fun
  | [d] => { results := [.lit (.bool true)], args := [d] }
  | _ => none }
def fnExactNarrowDiffersRow : OpenClaim := { program := "ytiobbclciboggaa", sum := "3a7607041e4005924249b13179d7c62d571966b398959c43294baf62a76cc23a", func := "loop.example/g01346/laws.FnExactNarrowDiffers", spec := "fnExactNarrowDiffers", unfollowed := true, recurses := true, apart := false }
def FnExactNarrowDiffersSaid : Prop := fnExactNarrowDiffersRow.holds Try.pinned (OpenSpec.ofChange fnExactNarrowDiffersSpec)

/-- ITS FALSE NEIGHBOUR: 'it returns false'. Refute it at one input. -/
def fnExactNarrowDiffersWrong : ChangeSpec := { name := "fnExactNarrowDiffers", fn := fun _ => fun
  | [d] => { results := [.lit (.bool false)], args := [d] }
  | _ => none }
def FnExactNarrowDiffersWrongFalsely : Prop := fnExactNarrowDiffersRow.holds Try.pinned (OpenSpec.ofChange fnExactNarrowDiffersWrong)

/-- 'laws.FnExactFirstQueens': WHATEVER THE INPUT: true; the input reads as it did. -/
def fnExactFirstQueensSpec : ChangeSpec := { name := "fnExactFirstQueens", fn := fun _ => fun
  | [d] => { results := [.lit (.bool true)], args := [d] }
  | _ => none }
def fnExactFirstQueensRow : OpenClaim := { program := "ytiobbclciboggaa", sum := "3a7607041e4005924249b13179d7c62d571966b398959c43294baf62a76cc23a", func := "loop.example/g01346/laws.FnExactFirstQueens", spec := "fnExactFirstQueens", unfollowed := true, recurses := true, apart := false }
def FnExactFirstQueensSaid : Prop := fnExactFirstQueensRow.holds Try.pinned (OpenSpec.ofChange fnExactFirstQueensSpec)

/-- ITS FALSE NEIGHBOUR: 'it returns false'. Refute it at one input. -/
def fnExactFirstQueensWrong : ChangeSpec := { name := "fnExactFirstQueens", fn := fun _ => fun
  | [d] => { results := [.lit (.bool false)], args := [d] }
  | _ => none }
def FnExactFirstQueensWrongFalsely : Prop := fnExactFirstQueensRow.holds Try.pinned (OpenSpec.ofChange fnExactFirstQueensWrong)

/-- 'laws.FnExactCountQueens': WHATEVER THE INPUT: true; the input reads as it did. -/
def fnExactCountQueensSpec : ChangeSpec := { name := "fnExactCountQueens", fn := fun _ => fun
  | [d] => { results := [.lit (.bool true)], args := [d] }
  | _ => none }
def fnExactCountQueensRow : OpenClaim := { program := "ytiobbclciboggaa", sum := "3a7607041e4005924249b13179d7c62d571966b398959c43294baf62a76cc23a", func := "loop.example/g01346/laws.FnExactCountQueens", spec := "fnExactCountQueens", unfollowed := true, recurses := true, apart := false }
def FnExactCountQueensSaid : Prop := fnExactCountQueensRow.holds Try.pinned (OpenSpec.ofChange fnExactCountQueensSpec)

/-- ITS FALSE NEIGHBOUR: 'it returns false'. Refute it at one input. -/
def fnExactCountQueensWrong : ChangeSpec := { name := "fnExactCountQueens", fn := fun _ => fun
  | [d] => { results := [.lit (.bool false)], args := [d] }
  | _ => none }
def FnExactCountQueensWrongFalsely : Prop := fnExactCountQueensRow.holds Try.pinned (OpenSpec.ofChange fnExactCountQueensWrong)

/-- 'laws.FnExactFillSquare': WHATEVER THE INPUT: true; the input reads as it did. -/
def fnExactFillSquareSpec : ChangeSpec := { name := "fnExactFillSquare", fn := fun _ => fun
  | [d1, d2] => { results := [.lit (.bool true)], args := [d1, d2] }
  | _ => none }
def fnExactFillSquareRow : OpenClaim := { program := "ytiobbclciboggaa", sum := "3a7607041e4005924249b13179d7c62d571966b398959c43294baf62a76cc23a", func := "loop.example/g01346/laws.FnExactFillSquare", spec := "fnExactFillSquare", unfollowed := true, recurses := true, apart := false }
def FnExactFillSquareSaid : Prop := fnExactFillSquareRow.holds Try.pinned (OpenSpec.ofChange fnExactFillSquareSpec)

/-- ITS FALSE NEIGHBOUR: 'it returns false'. Refute it at one input. -/
def fnExactFillSquareWrong : ChangeSpec := { name := "fnExactFillSquare", fn := fun _ => fun
  | [d1, d2] => { results := [.lit (.bool false)], args := [d1, d2] }
  | _ => none }
def FnExactFillSquareWrongFalsely : Prop := fnExactFillSquareRow.holds Try.pinned (OpenSpec.ofChange fnExactFillSquareWrong)

/-- 'laws.FnExactCountSquares': WHATEVER THE INPUT: true; the input reads as it did. -/
def fnExactCountSquaresSpec : ChangeSpec := { name := "fnExactCountSquares", fn := fun _ => fun
  | [d1, d2] => { results := [.lit (.bool true)], args := [d1, d2] }
  | _ => none }
def fnExactCountSquaresRow : OpenClaim := { program := "ytiobbclciboggaa", sum := "3a7607041e4005924249b13179d7c62d571966b398959c43294baf62a76cc23a", func := "loop.example/g01346/laws.FnExactCountSquares", spec := "fnExactCountSquares", unfollowed := true, recurses := true, apart := false }
def FnExactCountSquaresSaid : Prop := fnExactCountSquaresRow.holds Try.pinned (OpenSpec.ofChange fnExactCountSquaresSpec)

/-- ITS FALSE NEIGHBOUR: 'it returns false'. Refute it at one input. -/
def fnExactCountSquaresWrong : ChangeSpec := { name := "fnExactCountSquares", fn := fun _ => fun
  | [d1, d2] => { results := [.lit (.bool false)], args := [d1, d2] }
  | _ => none }
def FnExactCountSquaresWrongFalsely : Prop := fnExactCountSquaresRow.holds Try.pinned (OpenSpec.ofChange fnExactCountSquaresWrong)

/-- 'laws.FnExactSameCases': WHATEVER THE INPUT: true; the input reads as it did. -/
def fnExactSameCasesSpec : ChangeSpec := { name := "fnExactSameCases", fn := fun _ => fun
  | [d1, d2] => { results := [.lit (.bool true)], args := [d1, d2] }
  | _ => none }
def fnExactSameCasesRow : OpenClaim := { program := "ytiobbclciboggaa", sum := "3a7607041e4005924249b13179d7c62d571966b398959c43294baf62a76cc23a", func := "loop.example/g01346/laws.FnExactSameCases", spec := "fnExactSameCases", unfollowed := true, recurses := true, apart := false }
def FnExactSameCasesSaid : Prop := fnExactSameCasesRow.holds Try.pinned (OpenSpec.ofChange fnExactSameCasesSpec)

/-- ITS FALSE NEIGHBOUR: 'it returns false'. Refute it at one input. -/
def fnExactSameCasesWrong : ChangeSpec := { name := "fnExactSameCases", fn := fun _ => fun
  | [d1, d2] => { results := [.lit (.bool false)], args := [d1, d2] }
  | _ => none }
def FnExactSameCasesWrongFalsely : Prop := fnExactSameCasesRow.holds Try.pinned (OpenSpec.ofChange fnExactSameCasesWrong)

/-- 'laws.FnExactFaultsOf': WHATEVER THE INPUT: true; the input reads as it did. -/
def fnExactFaultsOfSpec : ChangeSpec := { name := "fnExactFaultsOf", fn := fun _ => fun
  | [d1, d2, d3] => { results := [.lit (.bool true)], args := [d1, d2, d3] }
  | _ => none }
def fnExactFaultsOfRow : OpenClaim := { program := "ytiobbclciboggaa", sum := "3a7607041e4005924249b13179d7c62d571966b398959c43294baf62a76cc23a", func := "loop.example/g01346/laws.FnExactFaultsOf", spec := "fnExactFaultsOf", unfollowed := true, recurses := true, apart := false }
def FnExactFaultsOfSaid : Prop := fnExactFaultsOfRow.holds Try.pinned (OpenSpec.ofChange fnExactFaultsOfSpec)

/-- ITS FALSE NEIGHBOUR: 'it returns false'. Refute it at one input. -/
def fnExactFaultsOfWrong : ChangeSpec := { name := "fnExactFaultsOf", fn := fun _ => fun
  | [d1, d2, d3] => { results := [.lit (.bool false)], args := [d1, d2, d3] }
  | _ => none }
def FnExactFaultsOfWrongFalsely : Prop := fnExactFaultsOfRow.holds Try.pinned (OpenSpec.ofChange fnExactFaultsOfWrong)

/-- 'laws.FnExactNewDesk': WHATEVER THE INPUT: true; the input reads as it did. -/
def fnExactNewDeskSpec : ChangeSpec := { name := "fnExactNewDesk", fn := fun _ => fun
  | [] => { results := [.lit (.bool true)], args := [] }
  | _ => none }
def fnExactNewDeskRow : OpenClaim := { program := "ytiobbclciboggaa", sum := "3a7607041e4005924249b13179d7c62d571966b398959c43294baf62a76cc23a", func := "loop.example/g01346/laws.FnExactNewDesk", spec := "fnExactNewDesk", apart := false }
def FnExactNewDeskSaid : Prop := fnExactNewDeskRow.holds Try.pinned (OpenSpec.ofChange fnExactNewDeskSpec)

/-- ITS FALSE NEIGHBOUR: 'it returns false'. Refute it at one input. -/
def fnExactNewDeskWrong : ChangeSpec := { name := "fnExactNewDesk", fn := fun _ => fun
  | [] => { results := [.lit (.bool false)], args := [] }
  | _ => none }
def FnExactNewDeskWrongFalsely : Prop := fnExactNewDeskRow.holds Try.pinned (OpenSpec.ofChange fnExactNewDeskWrong)

/-- 'laws.FnExactSameDesk': WHATEVER THE INPUT: true; the input reads as it did. -/
def fnExactSameDeskSpec : ChangeSpec := { name := "fnExactSameDesk", fn := fun _ => fun
  | [d1, d2] => { results := [.lit (.bool true)], args := [d1, d2] }
  | _ => none }
def fnExactSameDeskRow : OpenClaim := { program := "ytiobbclciboggaa", sum := "3a7607041e4005924249b13179d7c62d571966b398959c43294baf62a76cc23a", func := "loop.example/g01346/laws.FnExactSameDesk", spec := "fnExactSameDesk", inPlace := ["math.Float32bits"], unfollowed := true, recurses := true, apart := false }
def FnExactSameDeskSaid : Prop := fnExactSameDeskRow.holds Try.pinned (OpenSpec.ofChange fnExactSameDeskSpec)

/-- ITS FALSE NEIGHBOUR: 'it returns false'. Refute it at one input. -/
def fnExactSameDeskWrong : ChangeSpec := { name := "fnExactSameDesk", fn := fun _ => fun
  | [d1, d2] => { results := [.lit (.bool false)], args := [d1, d2] }
  | _ => none }
def FnExactSameDeskWrongFalsely : Prop := fnExactSameDeskRow.holds Try.pinned (OpenSpec.ofChange fnExactSameDeskWrong)

/-- 'laws.FnExactValidDesk': WHATEVER THE INPUT: true; the input reads as it did. -/
def fnExactValidDeskSpec : ChangeSpec := { name := "fnExactValidDesk", fn := fun _ => fun
  | [d] => { results := [.lit (.bool true)], args := [d] }
  | _ => none }
def fnExactValidDeskRow : OpenClaim := { program := "ytiobbclciboggaa", sum := "3a7607041e4005924249b13179d7c62d571966b398959c43294baf62a76cc23a", func := "loop.example/g01346/laws.FnExactValidDesk", spec := "fnExactValidDesk", inPlace := ["math.Float64bits", "math.Float64frombits"], unfollowed := true, recurses := true, apart := false }
def FnExactValidDeskSaid : Prop := fnExactValidDeskRow.holds Try.pinned (OpenSpec.ofChange fnExactValidDeskSpec)

/-- ITS FALSE NEIGHBOUR: 'it returns false'. Refute it at one input. -/
def fnExactValidDeskWrong : ChangeSpec := { name := "fnExactValidDesk", fn := fun _ => fun
  | [d] => { results := [.lit (.bool false)], args := [d] }
  | _ => none }
def FnExactValidDeskWrongFalsely : Prop := fnExactValidDeskRow.holds Try.pinned (OpenSpec.ofChange fnExactValidDeskWrong)

/- THE SECOND FORM. 'bulk': how many values and letters a reading holds, each counted each time it is reached (what is shared counts as often as it is met; a slice's spare places count too). A statement '..UptoSaid' is the law's where the arguments, and the package variables that the reading takes, are together of bulk at most 1048576: NARROWER than '..Said'. Prove '..Said' where nothing that the law and all that it calls make is longer than what came in: it says more and counts as full. Else prove '..UptoSaid'. A law counts once. -/
mutual
def uptoBulk {H : Type} : DataW H → Nat
  | .lit (.string bytes) => bytes.length + 1
  | .lit _ => 1
  | .nil => 1
  | .ptr d => uptoBulk d + 1
  | .slice elems spare => uptoBulkAll elems + uptoBulkAll spare + 1
  | .agg parts => uptoBulkAll parts + 1
  | .iface _ d => uptoBulk d + 1
  | .map entries => uptoBulkEntries entries + 1
  | .held _ => 1
def uptoBulkAll {H : Type} : List (DataW H) → Nat
  | [] => 0
  | d :: r => uptoBulk d + uptoBulkAll r
def uptoBulkEntries {H : Type} : List (Lit × DataW H) → Nat
  | [] => 0
  | x :: r => uptoBulkEntry x + uptoBulkEntries r
def uptoBulkEntry {H : Type} : Lit × DataW H → Nat
  | (.string bytes, d) => bytes.length + uptoBulk d + 1
  | (_, d) => uptoBulk d + 1
 end
def uptoSmall : (H : Type) → List (DataW H) → Bool := fun _ ds => decide (uptoBulkAll ds ≤ 1048576)
def OpenSpec.upto (s : _root_.Go.ChangeSpec) : _root_.Go.OpenSpec := { _root_.Go.OpenSpec.ofChange s with cond := some uptoSmall }

/-- 'laws.FnExactFirstDiffer', WHERE WHAT IT READS IS OF BULK AT MOST 1048576: true; the input reads as it did. -/
def fnExactFirstDifferUptoRow : OpenClaim := { program := "ytiobbclciboggaa", sum := "3a7607041e4005924249b13179d7c62d571966b398959c43294baf62a76cc23a", func := "loop.example/g01346/laws.FnExactFirstDiffer", spec := "fnExactFirstDiffer", unfollowed := true, recurses := true, apart := false, narrowed := true }
def FnExactFirstDifferUptoSaid : Prop := fnExactFirstDifferUptoRow.holds Try.pinned (OpenSpec.upto fnExactFirstDifferSpec)

/-- 'laws.FnExactCountDiffers', WHERE WHAT IT READS IS OF BULK AT MOST 1048576: true; the input reads as it did. -/
def fnExactCountDiffersUptoRow : OpenClaim := { program := "ytiobbclciboggaa", sum := "3a7607041e4005924249b13179d7c62d571966b398959c43294baf62a76cc23a", func := "loop.example/g01346/laws.FnExactCountDiffers", spec := "fnExactCountDiffers", unfollowed := true, recurses := true, apart := false, narrowed := true }
def FnExactCountDiffersUptoSaid : Prop := fnExactCountDiffersUptoRow.holds Try.pinned (OpenSpec.upto fnExactCountDiffersSpec)

/-- 'laws.FnExactNarrowDiffers', WHERE WHAT IT READS IS OF BULK AT MOST 1048576: true; the input reads as it did. -/
def fnExactNarrowDiffersUptoRow : OpenClaim := { program := "ytiobbclciboggaa", sum := "3a7607041e4005924249b13179d7c62d571966b398959c43294baf62a76cc23a", func := "loop.example/g01346/laws.FnExactNarrowDiffers", spec := "fnExactNarrowDiffers", unfollowed := true, recurses := true, apart := false, narrowed := true }
def FnExactNarrowDiffersUptoSaid : Prop := fnExactNarrowDiffersUptoRow.holds Try.pinned (OpenSpec.upto fnExactNarrowDiffersSpec)

/-- 'laws.FnExactFirstQueens', WHERE WHAT IT READS IS OF BULK AT MOST 1048576: true; the input reads as it did. -/
def fnExactFirstQueensUptoRow : OpenClaim := { program := "ytiobbclciboggaa", sum := "3a7607041e4005924249b13179d7c62d571966b398959c43294baf62a76cc23a", func := "loop.example/g01346/laws.FnExactFirstQueens", spec := "fnExactFirstQueens", unfollowed := true, recurses := true, apart := false, narrowed := true }
def FnExactFirstQueensUptoSaid : Prop := fnExactFirstQueensUptoRow.holds Try.pinned (OpenSpec.upto fnExactFirstQueensSpec)

/-- 'laws.FnExactCountQueens', WHERE WHAT IT READS IS OF BULK AT MOST 1048576: true; the input reads as it did. -/
def fnExactCountQueensUptoRow : OpenClaim := { program := "ytiobbclciboggaa", sum := "3a7607041e4005924249b13179d7c62d571966b398959c43294baf62a76cc23a", func := "loop.example/g01346/laws.FnExactCountQueens", spec := "fnExactCountQueens", unfollowed := true, recurses := true, apart := false, narrowed := true }
def FnExactCountQueensUptoSaid : Prop := fnExactCountQueensUptoRow.holds Try.pinned (OpenSpec.upto fnExactCountQueensSpec)

/-- 'laws.FnExactFillSquare', WHERE WHAT IT READS IS OF BULK AT MOST 1048576: true; the input reads as it did. -/
def fnExactFillSquareUptoRow : OpenClaim := { program := "ytiobbclciboggaa", sum := "3a7607041e4005924249b13179d7c62d571966b398959c43294baf62a76cc23a", func := "loop.example/g01346/laws.FnExactFillSquare", spec := "fnExactFillSquare", unfollowed := true, recurses := true, apart := false, narrowed := true }
def FnExactFillSquareUptoSaid : Prop := fnExactFillSquareUptoRow.holds Try.pinned (OpenSpec.upto fnExactFillSquareSpec)

/-- 'laws.FnExactCountSquares', WHERE WHAT IT READS IS OF BULK AT MOST 1048576: true; the input reads as it did. -/
def fnExactCountSquaresUptoRow : OpenClaim := { program := "ytiobbclciboggaa", sum := "3a7607041e4005924249b13179d7c62d571966b398959c43294baf62a76cc23a", func := "loop.example/g01346/laws.FnExactCountSquares", spec := "fnExactCountSquares", unfollowed := true, recurses := true, apart := false, narrowed := true }
def FnExactCountSquaresUptoSaid : Prop := fnExactCountSquaresUptoRow.holds Try.pinned (OpenSpec.upto fnExactCountSquaresSpec)

/-- 'laws.FnExactSameCases', WHERE WHAT IT READS IS OF BULK AT MOST 1048576: true; the input reads as it did. -/
def fnExactSameCasesUptoRow : OpenClaim := { program := "ytiobbclciboggaa", sum := "3a7607041e4005924249b13179d7c62d571966b398959c43294baf62a76cc23a", func := "loop.example/g01346/laws.FnExactSameCases", spec := "fnExactSameCases", unfollowed := true, recurses := true, apart := false, narrowed := true }
def FnExactSameCasesUptoSaid : Prop := fnExactSameCasesUptoRow.holds Try.pinned (OpenSpec.upto fnExactSameCasesSpec)

/-- 'laws.FnExactFaultsOf', WHERE WHAT IT READS IS OF BULK AT MOST 1048576: true; the input reads as it did. -/
def fnExactFaultsOfUptoRow : OpenClaim := { program := "ytiobbclciboggaa", sum := "3a7607041e4005924249b13179d7c62d571966b398959c43294baf62a76cc23a", func := "loop.example/g01346/laws.FnExactFaultsOf", spec := "fnExactFaultsOf", unfollowed := true, recurses := true, apart := false, narrowed := true }
def FnExactFaultsOfUptoSaid : Prop := fnExactFaultsOfUptoRow.holds Try.pinned (OpenSpec.upto fnExactFaultsOfSpec)

/-- 'laws.FnExactNewDesk', WHERE WHAT IT READS IS OF BULK AT MOST 1048576: true; the input reads as it did. -/
def fnExactNewDeskUptoRow : OpenClaim := { program := "ytiobbclciboggaa", sum := "3a7607041e4005924249b13179d7c62d571966b398959c43294baf62a76cc23a", func := "loop.example/g01346/laws.FnExactNewDesk", spec := "fnExactNewDesk", apart := false, narrowed := true }
def FnExactNewDeskUptoSaid : Prop := fnExactNewDeskUptoRow.holds Try.pinned (OpenSpec.upto fnExactNewDeskSpec)

/-- 'laws.FnExactSameDesk', WHERE WHAT IT READS IS OF BULK AT MOST 1048576: true; the input reads as it did. -/
def fnExactSameDeskUptoRow : OpenClaim := { program := "ytiobbclciboggaa", sum := "3a7607041e4005924249b13179d7c62d571966b398959c43294baf62a76cc23a", func := "loop.example/g01346/laws.FnExactSameDesk", spec := "fnExactSameDesk", inPlace := ["math.Float32bits"], unfollowed := true, recurses := true, apart := false, narrowed := true }
def FnExactSameDeskUptoSaid : Prop := fnExactSameDeskUptoRow.holds Try.pinned (OpenSpec.upto fnExactSameDeskSpec)

/-- 'laws.FnExactValidDesk', WHERE WHAT IT READS IS OF BULK AT MOST 1048576: true; the input reads as it did. -/
def fnExactValidDeskUptoRow : OpenClaim := { program := "ytiobbclciboggaa", sum := "3a7607041e4005924249b13179d7c62d571966b398959c43294baf62a76cc23a", func := "loop.example/g01346/laws.FnExactValidDesk", spec := "fnExactValidDesk", inPlace := ["math.Float64bits", "math.Float64frombits"], unfollowed := true, recurses := true, apart := false, narrowed := true }
def FnExactValidDeskUptoSaid : Prop := fnExactValidDeskUptoRow.holds Try.pinned (OpenSpec.upto fnExactValidDeskSpec)

end Rows
end Go.Proofs.Ytiobbclciboggaa
