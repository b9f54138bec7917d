/-
  No cell of these rows narrows 'for every input' (looked for: loops, veiled, ifaces, maps, wideKeys, modest, calm, conditions, laid).
  DERIVED. THE GIVEN ROWS OF THIS SEAT. 12 by the template 'for every input the law returns true; each argument reads behind the call as it read before'; 0 by the template 'total and deterministic' (their statements: YtleaaigjnniglaaTotals.lean).
  GIVEN WITH THE SEED: the statements are not yours to turn. If you find one false, say at which input.
  Laid BY PROGRAM, IN A SANDBOX (cutbox-rows.mjs): the forced cells as the released guide's own fill.sh prints them over the translation 9d367f36104e7bdc… (all of the seat's roots in one cut). By AI agents, Wed Nov 11 2026. No macro, syntax, notation, axiom, sorry.
-/
import Derived.Test.YtleaaigjnniglaaChecked
import GoSem.Claim
import GoSem.ClaimJoined
import GoSem.ClaimMapViews
import Derived.JoinedTies
import Derived.KernelRfl
namespace Go.Proofs.Ytleaaigjnniglaa
/- THE CELL 'sum', in the pinned program and in every row, IS THE sha256 OF THE DUMP (.gsa) THAT YtleaaigjnniglaaProg.lean LOADS. Nothing in Lean hashes anything: it is a label: what it is worth is what the hold of that sum in a sandbox is worth. -/
noncomputable def Try.pinned : Pinned := { name := "ytleaaigjnniglaa", sum := "9d367f36104e7bdc5a7223200e23c079ec22b9f03fdf6d543a207c1bb2f96854", checked := Try.checked }
namespace Rows
def none {H : Type} : Left H := { results := [], args := [] }

/-- 'laws.FnExactIsClause': WHATEVER THE INPUT: true; the input reads as it did. -/
def fnExactIsClauseSpec : ChangeSpec := { name := "fnExactIsClause", fn := fun _ => fun
  | [d1, d2] => { results := [.lit (.bool true)], args := [d1, d2] }
  | _ => none }
def fnExactIsClauseRow : OpenClaim := { program := "ytleaaigjnniglaa", sum := "9d367f36104e7bdc5a7223200e23c079ec22b9f03fdf6d543a207c1bb2f96854", func := "loop.example/g01346/laws.FnExactIsClause", spec := "fnExactIsClause", apart := false }
def FnExactIsClauseSaid : Prop := fnExactIsClauseRow.holds Try.pinned (OpenSpec.ofChange fnExactIsClauseSpec)

/-- ITS FALSE NEIGHBOUR: 'it returns false'. Refute it at one input. -/
def fnExactIsClauseWrong : ChangeSpec := { name := "fnExactIsClause", fn := fun _ => fun
  | [d1, d2] => { results := [.lit (.bool false)], args := [d1, d2] }
  | _ => none }
def FnExactIsClauseWrongFalsely : Prop := fnExactIsClauseRow.holds Try.pinned (OpenSpec.ofChange fnExactIsClauseWrong)

/-- 'laws.FnExactValidForm': WHATEVER THE INPUT: true; the input reads as it did. -/
def fnExactValidFormSpec : ChangeSpec := { name := "fnExactValidForm", fn := fun _ => fun
  | [d] => { results := [.lit (.bool true)], args := [d] }
  | _ => none }
def fnExactValidFormRow : OpenClaim := { program := "ytleaaigjnniglaa", sum := "9d367f36104e7bdc5a7223200e23c079ec22b9f03fdf6d543a207c1bb2f96854", func := "loop.example/g01346/laws.FnExactValidForm", spec := "fnExactValidForm", unfollowed := true, recurses := true, apart := false }
def FnExactValidFormSaid : Prop := fnExactValidFormRow.holds Try.pinned (OpenSpec.ofChange fnExactValidFormSpec)

/-- ITS FALSE NEIGHBOUR: 'it returns false'. Refute it at one input. -/
def fnExactValidFormWrong : ChangeSpec := { name := "fnExactValidForm", fn := fun _ => fun
  | [d] => { results := [.lit (.bool false)], args := [d] }
  | _ => none }
def FnExactValidFormWrongFalsely : Prop := fnExactValidFormRow.holds Try.pinned (OpenSpec.ofChange fnExactValidFormWrong)

/-- 'laws.FnExactSameForm': WHATEVER THE INPUT: true; the input reads as it did. -/
def fnExactSameFormSpec : ChangeSpec := { name := "fnExactSameForm", fn := fun _ => fun
  | [d1, d2] => { results := [.lit (.bool true)], args := [d1, d2] }
  | _ => none }
def fnExactSameFormRow : OpenClaim := { program := "ytleaaigjnniglaa", sum := "9d367f36104e7bdc5a7223200e23c079ec22b9f03fdf6d543a207c1bb2f96854", func := "loop.example/g01346/laws.FnExactSameForm", spec := "fnExactSameForm", unfollowed := true, recurses := true, apart := false }
def FnExactSameFormSaid : Prop := fnExactSameFormRow.holds Try.pinned (OpenSpec.ofChange fnExactSameFormSpec)

/-- ITS FALSE NEIGHBOUR: 'it returns false'. Refute it at one input. -/
def fnExactSameFormWrong : ChangeSpec := { name := "fnExactSameForm", fn := fun _ => fun
  | [d1, d2] => { results := [.lit (.bool false)], args := [d1, d2] }
  | _ => none }
def FnExactSameFormWrongFalsely : Prop := fnExactSameFormRow.holds Try.pinned (OpenSpec.ofChange fnExactSameFormWrong)

/-- 'laws.FnExactHoldsBy': WHATEVER THE INPUT: true; the input reads as it did. -/
def fnExactHoldsBySpec : ChangeSpec := { name := "fnExactHoldsBy", fn := fun _ => fun
  | [d1, d2] => { results := [.lit (.bool true)], args := [d1, d2] }
  | _ => none }
def fnExactHoldsByRow : OpenClaim := { program := "ytleaaigjnniglaa", sum := "9d367f36104e7bdc5a7223200e23c079ec22b9f03fdf6d543a207c1bb2f96854", func := "loop.example/g01346/laws.FnExactHoldsBy", spec := "fnExactHoldsBy", unfollowed := true, recurses := true, apart := false }
def FnExactHoldsBySaid : Prop := fnExactHoldsByRow.holds Try.pinned (OpenSpec.ofChange fnExactHoldsBySpec)

/-- ITS FALSE NEIGHBOUR: 'it returns false'. Refute it at one input. -/
def fnExactHoldsByWrong : ChangeSpec := { name := "fnExactHoldsBy", fn := fun _ => fun
  | [d1, d2] => { results := [.lit (.bool false)], args := [d1, d2] }
  | _ => none }
def FnExactHoldsByWrongFalsely : Prop := fnExactHoldsByRow.holds Try.pinned (OpenSpec.ofChange fnExactHoldsByWrong)

/-- 'laws.FnExactFirstModel': WHATEVER THE INPUT: true; the input reads as it did. -/
def fnExactFirstModelSpec : ChangeSpec := { name := "fnExactFirstModel", fn := fun _ => fun
  | [d] => { results := [.lit (.bool true)], args := [d] }
  | _ => none }
def fnExactFirstModelRow : OpenClaim := { program := "ytleaaigjnniglaa", sum := "9d367f36104e7bdc5a7223200e23c079ec22b9f03fdf6d543a207c1bb2f96854", func := "loop.example/g01346/laws.FnExactFirstModel", spec := "fnExactFirstModel", unfollowed := true, recurses := true, apart := false }
def FnExactFirstModelSaid : Prop := fnExactFirstModelRow.holds Try.pinned (OpenSpec.ofChange fnExactFirstModelSpec)

/-- ITS FALSE NEIGHBOUR: 'it returns false'. Refute it at one input. -/
def fnExactFirstModelWrong : ChangeSpec := { name := "fnExactFirstModel", fn := fun _ => fun
  | [d] => { results := [.lit (.bool false)], args := [d] }
  | _ => none }
def FnExactFirstModelWrongFalsely : Prop := fnExactFirstModelRow.holds Try.pinned (OpenSpec.ofChange fnExactFirstModelWrong)

/-- 'laws.FnExactCountModels': WHATEVER THE INPUT: true; the input reads as it did. -/
def fnExactCountModelsSpec : ChangeSpec := { name := "fnExactCountModels", fn := fun _ => fun
  | [d] => { results := [.lit (.bool true)], args := [d] }
  | _ => none }
def fnExactCountModelsRow : OpenClaim := { program := "ytleaaigjnniglaa", sum := "9d367f36104e7bdc5a7223200e23c079ec22b9f03fdf6d543a207c1bb2f96854", func := "loop.example/g01346/laws.FnExactCountModels", spec := "fnExactCountModels", unfollowed := true, recurses := true, apart := false }
def FnExactCountModelsSaid : Prop := fnExactCountModelsRow.holds Try.pinned (OpenSpec.ofChange fnExactCountModelsSpec)

/-- ITS FALSE NEIGHBOUR: 'it returns false'. Refute it at one input. -/
def fnExactCountModelsWrong : ChangeSpec := { name := "fnExactCountModels", fn := fun _ => fun
  | [d] => { results := [.lit (.bool false)], args := [d] }
  | _ => none }
def FnExactCountModelsWrongFalsely : Prop := fnExactCountModelsRow.holds Try.pinned (OpenSpec.ofChange fnExactCountModelsWrong)

/-- 'laws.FnExactMostTrue': WHATEVER THE INPUT: true; the input reads as it did. -/
def fnExactMostTrueSpec : ChangeSpec := { name := "fnExactMostTrue", fn := fun _ => fun
  | [d] => { results := [.lit (.bool true)], args := [d] }
  | _ => none }
def fnExactMostTrueRow : OpenClaim := { program := "ytleaaigjnniglaa", sum := "9d367f36104e7bdc5a7223200e23c079ec22b9f03fdf6d543a207c1bb2f96854", func := "loop.example/g01346/laws.FnExactMostTrue", spec := "fnExactMostTrue", unfollowed := true, recurses := true, apart := false }
def FnExactMostTrueSaid : Prop := fnExactMostTrueRow.holds Try.pinned (OpenSpec.ofChange fnExactMostTrueSpec)

/-- ITS FALSE NEIGHBOUR: 'it returns false'. Refute it at one input. -/
def fnExactMostTrueWrong : ChangeSpec := { name := "fnExactMostTrue", fn := fun _ => fun
  | [d] => { results := [.lit (.bool false)], args := [d] }
  | _ => none }
def FnExactMostTrueWrongFalsely : Prop := fnExactMostTrueRow.holds Try.pinned (OpenSpec.ofChange fnExactMostTrueWrong)

/-- 'laws.FnExactPairModel': WHATEVER THE INPUT: true; the input reads as it did. -/
def fnExactPairModelSpec : ChangeSpec := { name := "fnExactPairModel", fn := fun _ => fun
  | [d] => { results := [.lit (.bool true)], args := [d] }
  | _ => none }
def fnExactPairModelRow : OpenClaim := { program := "ytleaaigjnniglaa", sum := "9d367f36104e7bdc5a7223200e23c079ec22b9f03fdf6d543a207c1bb2f96854", func := "loop.example/g01346/laws.FnExactPairModel", spec := "fnExactPairModel", unfollowed := true, recurses := true, apart := false }
def FnExactPairModelSaid : Prop := fnExactPairModelRow.holds Try.pinned (OpenSpec.ofChange fnExactPairModelSpec)

/-- ITS FALSE NEIGHBOUR: 'it returns false'. Refute it at one input. -/
def fnExactPairModelWrong : ChangeSpec := { name := "fnExactPairModel", fn := fun _ => fun
  | [d] => { results := [.lit (.bool false)], args := [d] }
  | _ => none }
def FnExactPairModelWrongFalsely : Prop := fnExactPairModelRow.holds Try.pinned (OpenSpec.ofChange fnExactPairModelWrong)

/-- 'laws.FnExactHornModel': WHATEVER THE INPUT: true; the input reads as it did. -/
def fnExactHornModelSpec : ChangeSpec := { name := "fnExactHornModel", fn := fun _ => fun
  | [d] => { results := [.lit (.bool true)], args := [d] }
  | _ => none }
def fnExactHornModelRow : OpenClaim := { program := "ytleaaigjnniglaa", sum := "9d367f36104e7bdc5a7223200e23c079ec22b9f03fdf6d543a207c1bb2f96854", func := "loop.example/g01346/laws.FnExactHornModel", spec := "fnExactHornModel", unfollowed := true, recurses := true, apart := false }
def FnExactHornModelSaid : Prop := fnExactHornModelRow.holds Try.pinned (OpenSpec.ofChange fnExactHornModelSpec)

/-- ITS FALSE NEIGHBOUR: 'it returns false'. Refute it at one input. -/
def fnExactHornModelWrong : ChangeSpec := { name := "fnExactHornModel", fn := fun _ => fun
  | [d] => { results := [.lit (.bool false)], args := [d] }
  | _ => none }
def FnExactHornModelWrongFalsely : Prop := fnExactHornModelRow.holds Try.pinned (OpenSpec.ofChange fnExactHornModelWrong)

/-- 'laws.FnExactAllSome': WHATEVER THE INPUT: true; the input reads as it did. -/
def fnExactAllSomeSpec : ChangeSpec := { name := "fnExactAllSome", fn := fun _ => fun
  | [d1, d2] => { results := [.lit (.bool true)], args := [d1, d2] }
  | _ => none }
def fnExactAllSomeRow : OpenClaim := { program := "ytleaaigjnniglaa", sum := "9d367f36104e7bdc5a7223200e23c079ec22b9f03fdf6d543a207c1bb2f96854", func := "loop.example/g01346/laws.FnExactAllSome", spec := "fnExactAllSome", unfollowed := true, recurses := true, apart := false }
def FnExactAllSomeSaid : Prop := fnExactAllSomeRow.holds Try.pinned (OpenSpec.ofChange fnExactAllSomeSpec)

/-- ITS FALSE NEIGHBOUR: 'it returns false'. Refute it at one input. -/
def fnExactAllSomeWrong : ChangeSpec := { name := "fnExactAllSome", fn := fun _ => fun
  | [d1, d2] => { results := [.lit (.bool false)], args := [d1, d2] }
  | _ => none }
def FnExactAllSomeWrongFalsely : Prop := fnExactAllSomeRow.holds Try.pinned (OpenSpec.ofChange fnExactAllSomeWrong)

/-- 'laws.FnExactFirstMove': WHATEVER THE INPUT: true; the input reads as it did. -/
def fnExactFirstMoveSpec : ChangeSpec := { name := "fnExactFirstMove", fn := fun _ => fun
  | [d1, d2] => { results := [.lit (.bool true)], args := [d1, d2] }
  | _ => none }
def fnExactFirstMoveRow : OpenClaim := { program := "ytleaaigjnniglaa", sum := "9d367f36104e7bdc5a7223200e23c079ec22b9f03fdf6d543a207c1bb2f96854", func := "loop.example/g01346/laws.FnExactFirstMove", spec := "fnExactFirstMove", unfollowed := true, recurses := true, apart := false }
def FnExactFirstMoveSaid : Prop := fnExactFirstMoveRow.holds Try.pinned (OpenSpec.ofChange fnExactFirstMoveSpec)

/-- ITS FALSE NEIGHBOUR: 'it returns false'. Refute it at one input. -/
def fnExactFirstMoveWrong : ChangeSpec := { name := "fnExactFirstMove", fn := fun _ => fun
  | [d1, d2] => { results := [.lit (.bool false)], args := [d1, d2] }
  | _ => none }
def FnExactFirstMoveWrongFalsely : Prop := fnExactFirstMoveRow.holds Try.pinned (OpenSpec.ofChange fnExactFirstMoveWrong)

/-- 'laws.FnExactCoreOf': WHATEVER THE INPUT: true; the input reads as it did. -/
def fnExactCoreOfSpec : ChangeSpec := { name := "fnExactCoreOf", fn := fun _ => fun
  | [d] => { results := [.lit (.bool true)], args := [d] }
  | _ => none }
def fnExactCoreOfRow : OpenClaim := { program := "ytleaaigjnniglaa", sum := "9d367f36104e7bdc5a7223200e23c079ec22b9f03fdf6d543a207c1bb2f96854", func := "loop.example/g01346/laws.FnExactCoreOf", spec := "fnExactCoreOf", unfollowed := true, recurses := true, apart := false }
def FnExactCoreOfSaid : Prop := fnExactCoreOfRow.holds Try.pinned (OpenSpec.ofChange fnExactCoreOfSpec)

/-- ITS FALSE NEIGHBOUR: 'it returns false'. Refute it at one input. -/
def fnExactCoreOfWrong : ChangeSpec := { name := "fnExactCoreOf", fn := fun _ => fun
  | [d] => { results := [.lit (.bool false)], args := [d] }
  | _ => none }
def FnExactCoreOfWrongFalsely : Prop := fnExactCoreOfRow.holds Try.pinned (OpenSpec.ofChange fnExactCoreOfWrong)

/- THE SECOND FORM. 'bulk': how many values and letters a reading holds, each counted each time it is reached (what is shared counts as often as it is met; a slice's spare places count too). A statement '..UptoSaid' is the law's where the arguments, and the package variables that the reading takes, are together of bulk at most 1048576: NARROWER than '..Said'. Prove '..Said' where nothing that the law and all that it calls make is longer than what came in: it says more and counts as full. Else prove '..UptoSaid'. A law counts once. -/
mutual
def uptoBulk {H : Type} : DataW H → Nat
  | .lit (.string bytes) => bytes.length + 1
  | .lit _ => 1
  | .nil => 1
  | .ptr d => uptoBulk d + 1
  | .slice elems spare => uptoBulkAll elems + uptoBulkAll spare + 1
  | .agg parts => uptoBulkAll parts + 1
  | .iface _ d => uptoBulk d + 1
  | .map entries => uptoBulkEntries entries + 1
  | .held _ => 1
def uptoBulkAll {H : Type} : List (DataW H) → Nat
  | [] => 0
  | d :: r => uptoBulk d + uptoBulkAll r
def uptoBulkEntries {H : Type} : List (Lit × DataW H) → Nat
  | [] => 0
  | x :: r => uptoBulkEntry x + uptoBulkEntries r
def uptoBulkEntry {H : Type} : Lit × DataW H → Nat
  | (.string bytes, d) => bytes.length + uptoBulk d + 1
  | (_, d) => uptoBulk d + 1
 end
def uptoSmall : (H : Type) → List (DataW H) → Bool := fun _ ds => decide (uptoBulkAll ds ≤ 1048576)
def OpenSpec.upto (s : _root_.Go.ChangeSpec) : _root_.Go.OpenSpec := { _root_.Go.OpenSpec.ofChange s with cond := some uptoSmall }

/-- 'laws.FnExactIsClause', WHERE WHAT IT READS IS OF BULK AT MOST 1048576: true; the input reads as it did. -/
def fnExactIsClauseUptoRow : OpenClaim := { program := "ytleaaigjnniglaa", sum := "9d367f36104e7bdc5a7223200e23c079ec22b9f03fdf6d543a207c1bb2f96854", func := "loop.example/g01346/laws.FnExactIsClause", spec := "fnExactIsClause", apart := false, narrowed := true }
def FnExactIsClauseUptoSaid : Prop := fnExactIsClauseUptoRow.holds Try.pinned (OpenSpec.upto fnExactIsClauseSpec)

/-- 'laws.FnExactValidForm', WHERE WHAT IT READS IS OF BULK AT MOST 1048576: true; the input reads as it did. -/
def fnExactValidFormUptoRow : OpenClaim := { program := "ytleaaigjnniglaa", sum := "9d367f36104e7bdc5a7223200e23c079ec22b9f03fdf6d543a207c1bb2f96854", func := "loop.example/g01346/laws.FnExactValidForm", spec := "fnExactValidForm", unfollowed := true, recurses := true, apart := false, narrowed := true }
def FnExactValidFormUptoSaid : Prop := fnExactValidFormUptoRow.holds Try.pinned (OpenSpec.upto fnExactValidFormSpec)

/-- 'laws.FnExactSameForm', WHERE WHAT IT READS IS OF BULK AT MOST 1048576: true; the input reads as it did. -/
def fnExactSameFormUptoRow : OpenClaim := { program := "ytleaaigjnniglaa", sum := "9d367f36104e7bdc5a7223200e23c079ec22b9f03fdf6d543a207c1bb2f96854", func := "loop.example/g01346/laws.FnExactSameForm", spec := "fnExactSameForm", unfollowed := true, recurses := true, apart := false, narrowed := true }
def FnExactSameFormUptoSaid : Prop := fnExactSameFormUptoRow.holds Try.pinned (OpenSpec.upto fnExactSameFormSpec)

/-- 'laws.FnExactHoldsBy', WHERE WHAT IT READS IS OF BULK AT MOST 1048576: true; the input reads as it did. -/
def fnExactHoldsByUptoRow : OpenClaim := { program := "ytleaaigjnniglaa", sum := "9d367f36104e7bdc5a7223200e23c079ec22b9f03fdf6d543a207c1bb2f96854", func := "loop.example/g01346/laws.FnExactHoldsBy", spec := "fnExactHoldsBy", unfollowed := true, recurses := true, apart := false, narrowed := true }
def FnExactHoldsByUptoSaid : Prop := fnExactHoldsByUptoRow.holds Try.pinned (OpenSpec.upto fnExactHoldsBySpec)

/-- 'laws.FnExactFirstModel', WHERE WHAT IT READS IS OF BULK AT MOST 1048576: true; the input reads as it did. -/
def fnExactFirstModelUptoRow : OpenClaim := { program := "ytleaaigjnniglaa", sum := "9d367f36104e7bdc5a7223200e23c079ec22b9f03fdf6d543a207c1bb2f96854", func := "loop.example/g01346/laws.FnExactFirstModel", spec := "fnExactFirstModel", unfollowed := true, recurses := true, apart := false, narrowed := true }
def FnExactFirstModelUptoSaid : Prop := fnExactFirstModelUptoRow.holds Try.pinned (OpenSpec.upto fnExactFirstModelSpec)

/-- 'laws.FnExactCountModels', WHERE WHAT IT READS IS OF BULK AT MOST 1048576: true; the input reads as it did. -/
def fnExactCountModelsUptoRow : OpenClaim := { program := "ytleaaigjnniglaa", sum := "9d367f36104e7bdc5a7223200e23c079ec22b9f03fdf6d543a207c1bb2f96854", func := "loop.example/g01346/laws.FnExactCountModels", spec := "fnExactCountModels", unfollowed := true, recurses := true, apart := false, narrowed := true }
def FnExactCountModelsUptoSaid : Prop := fnExactCountModelsUptoRow.holds Try.pinned (OpenSpec.upto fnExactCountModelsSpec)

/-- 'laws.FnExactMostTrue', WHERE WHAT IT READS IS OF BULK AT MOST 1048576: true; the input reads as it did. -/
def fnExactMostTrueUptoRow : OpenClaim := { program := "ytleaaigjnniglaa", sum := "9d367f36104e7bdc5a7223200e23c079ec22b9f03fdf6d543a207c1bb2f96854", func := "loop.example/g01346/laws.FnExactMostTrue", spec := "fnExactMostTrue", unfollowed := true, recurses := true, apart := false, narrowed := true }
def FnExactMostTrueUptoSaid : Prop := fnExactMostTrueUptoRow.holds Try.pinned (OpenSpec.upto fnExactMostTrueSpec)

/-- 'laws.FnExactPairModel', WHERE WHAT IT READS IS OF BULK AT MOST 1048576: true; the input reads as it did. -/
def fnExactPairModelUptoRow : OpenClaim := { program := "ytleaaigjnniglaa", sum := "9d367f36104e7bdc5a7223200e23c079ec22b9f03fdf6d543a207c1bb2f96854", func := "loop.example/g01346/laws.FnExactPairModel", spec := "fnExactPairModel", unfollowed := true, recurses := true, apart := false, narrowed := true }
def FnExactPairModelUptoSaid : Prop := fnExactPairModelUptoRow.holds Try.pinned (OpenSpec.upto fnExactPairModelSpec)

/-- 'laws.FnExactHornModel', WHERE WHAT IT READS IS OF BULK AT MOST 1048576: true; the input reads as it did. -/
def fnExactHornModelUptoRow : OpenClaim := { program := "ytleaaigjnniglaa", sum := "9d367f36104e7bdc5a7223200e23c079ec22b9f03fdf6d543a207c1bb2f96854", func := "loop.example/g01346/laws.FnExactHornModel", spec := "fnExactHornModel", unfollowed := true, recurses := true, apart := false, narrowed := true }
def FnExactHornModelUptoSaid : Prop := fnExactHornModelUptoRow.holds Try.pinned (OpenSpec.upto fnExactHornModelSpec)

/-- 'laws.FnExactAllSome', WHERE WHAT IT READS IS OF BULK AT MOST 1048576: true; the input reads as it did. -/
def fnExactAllSomeUptoRow : OpenClaim := { program := "ytleaaigjnniglaa", sum := "9d367f36104e7bdc5a7223200e23c079ec22b9f03fdf6d543a207c1bb2f96854", func := "loop.example/g01346/laws.FnExactAllSome", spec := "fnExactAllSome", unfollowed := true, recurses := true, apart := false, narrowed := true }
def FnExactAllSomeUptoSaid : Prop := fnExactAllSomeUptoRow.holds Try.pinned (OpenSpec.upto fnExactAllSomeSpec)

/-- 'laws.FnExactFirstMove', WHERE WHAT IT READS IS OF BULK AT MOST 1048576: true; the input reads as it did. -/
def fnExactFirstMoveUptoRow : OpenClaim := { program := "ytleaaigjnniglaa", sum := "9d367f36104e7bdc5a7223200e23c079ec22b9f03fdf6d543a207c1bb2f96854", func := "loop.example/g01346/laws.FnExactFirstMove", spec := "fnExactFirstMove", unfollowed := true, recurses := true, apart := false, narrowed := true }
def FnExactFirstMoveUptoSaid : Prop := fnExactFirstMoveUptoRow.holds Try.pinned (OpenSpec.upto fnExactFirstMoveSpec)

/-- 'laws.FnExactCoreOf', WHERE WHAT IT READS IS OF BULK AT MOST 1048576: true; the input reads as it did. -/
def fnExactCoreOfUptoRow : OpenClaim := { program := "ytleaaigjnniglaa", sum := "9d367f36104e7bdc5a7223200e23c079ec22b9f03fdf6d543a207c1bb2f96854", func := "loop.example/g01346/laws.FnExactCoreOf", spec := "fnExactCoreOf", unfollowed := true, recurses := true, apart := false, narrowed := true }
def FnExactCoreOfUptoSaid : Prop := fnExactCoreOfUptoRow.holds Try.pinned (OpenSpec.upto fnExactCoreOfSpec)

end Rows
end Go.Proofs.Ytleaaigjnniglaa
