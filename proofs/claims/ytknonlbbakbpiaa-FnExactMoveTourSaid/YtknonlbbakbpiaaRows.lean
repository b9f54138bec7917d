/-
  No cell of these rows narrows 'for every input' (looked for: loops, veiled, ifaces, maps, wideKeys, modest, calm, conditions, laid).
  DERIVED. THE GIVEN ROWS OF THIS SEAT. 12 by the template 'for every input the law returns true; each argument reads behind the call as it read before'; 0 by the template 'total and deterministic' (their statements: YtknonlbbakbpiaaTotals.lean).
  GIVEN WITH THE SEED: the statements are not yours to turn. If you find one false, say at which input.
  Laid BY PROGRAM, IN A SANDBOX (cutbox-rows.mjs): the forced cells as the released guide's own fill.sh prints them over the translation 672b850ce0c065c8… (all of the seat's roots in one cut). By AI agents, Wed Nov 11 2026. No macro, syntax, notation, axiom, sorry.
-/
import Derived.Test.YtknonlbbakbpiaaChecked
import GoSem.Claim
import GoSem.ClaimJoined
import GoSem.ClaimMapViews
import Derived.JoinedTies
import Derived.KernelRfl
namespace Go.Proofs.Ytknonlbbakbpiaa
/- THE CELL 'sum', in the pinned program and in every row, IS THE sha256 OF THE DUMP (.gsa) THAT YtknonlbbakbpiaaProg.lean LOADS. Nothing in Lean hashes anything: it is a label: what it is worth is what the hold of that sum in a sandbox is worth. -/
noncomputable def Try.pinned : Pinned := { name := "ytknonlbbakbpiaa", sum := "672b850ce0c065c87569ac1cec4cf531441d8e8fc15b8c8bb109f6d39888cebc", checked := Try.checked }
namespace Rows
def none {H : Type} : Left H := { results := [], args := [] }

/-- 'laws.FnExactAllSome': WHATEVER THE INPUT: true; the input reads as it did. -/
def fnExactAllSomeSpec : ChangeSpec := { name := "fnExactAllSome", fn := fun _ => fun
  | [d1, d2] => { results := [.lit (.bool true)], args := [d1, d2] }
  | _ => none }
def fnExactAllSomeRow : OpenClaim := { program := "ytknonlbbakbpiaa", sum := "672b850ce0c065c87569ac1cec4cf531441d8e8fc15b8c8bb109f6d39888cebc", func := "loop.example/g01346/laws.FnExactAllSome", spec := "fnExactAllSome", unfollowed := true, recurses := true, apart := false }
def FnExactAllSomeSaid : Prop := fnExactAllSomeRow.holds Try.pinned (OpenSpec.ofChange fnExactAllSomeSpec)

/-- ITS FALSE NEIGHBOUR: 'it returns false'. Refute it at one input. -/
def fnExactAllSomeWrong : ChangeSpec := { name := "fnExactAllSome", fn := fun _ => fun
  | [d1, d2] => { results := [.lit (.bool false)], args := [d1, d2] }
  | _ => none }
def FnExactAllSomeWrongFalsely : Prop := fnExactAllSomeRow.holds Try.pinned (OpenSpec.ofChange fnExactAllSomeWrong)

/-- 'laws.FnExactFirstMove': WHATEVER THE INPUT: true; the input reads as it did. -/
def fnExactFirstMoveSpec : ChangeSpec := { name := "fnExactFirstMove", fn := fun _ => fun
  | [d1, d2] => { results := [.lit (.bool true)], args := [d1, d2] }
  | _ => none }
def fnExactFirstMoveRow : OpenClaim := { program := "ytknonlbbakbpiaa", sum := "672b850ce0c065c87569ac1cec4cf531441d8e8fc15b8c8bb109f6d39888cebc", func := "loop.example/g01346/laws.FnExactFirstMove", spec := "fnExactFirstMove", unfollowed := true, recurses := true, apart := false }
def FnExactFirstMoveSaid : Prop := fnExactFirstMoveRow.holds Try.pinned (OpenSpec.ofChange fnExactFirstMoveSpec)

/-- ITS FALSE NEIGHBOUR: 'it returns false'. Refute it at one input. -/
def fnExactFirstMoveWrong : ChangeSpec := { name := "fnExactFirstMove", fn := fun _ => fun
  | [d1, d2] => { results := [.lit (.bool false)], args := [d1, d2] }
  | _ => none }
def FnExactFirstMoveWrongFalsely : Prop := fnExactFirstMoveRow.holds Try.pinned (OpenSpec.ofChange fnExactFirstMoveWrong)

/-- 'laws.FnExactSwapTour': WHATEVER THE INPUT: true; the input reads as it did. -/
def fnExactSwapTourSpec : ChangeSpec := { name := "fnExactSwapTour", fn := fun _ => fun
  | [d1, d2] => { results := [.lit (.bool true)], args := [d1, d2] }
  | _ => none }
def fnExactSwapTourRow : OpenClaim := { program := "ytknonlbbakbpiaa", sum := "672b850ce0c065c87569ac1cec4cf531441d8e8fc15b8c8bb109f6d39888cebc", func := "loop.example/g01346/laws.FnExactSwapTour", spec := "fnExactSwapTour", unfollowed := true, recurses := true, apart := false }
def FnExactSwapTourSaid : Prop := fnExactSwapTourRow.holds Try.pinned (OpenSpec.ofChange fnExactSwapTourSpec)

/-- ITS FALSE NEIGHBOUR: 'it returns false'. Refute it at one input. -/
def fnExactSwapTourWrong : ChangeSpec := { name := "fnExactSwapTour", fn := fun _ => fun
  | [d1, d2] => { results := [.lit (.bool false)], args := [d1, d2] }
  | _ => none }
def FnExactSwapTourWrongFalsely : Prop := fnExactSwapTourRow.holds Try.pinned (OpenSpec.ofChange fnExactSwapTourWrong)

/-- 'laws.FnExactMoveTour': WHATEVER THE INPUT: true; the input reads as it did. -/
def fnExactMoveTourSpec : ChangeSpec := { name := "fnExactMoveTour", fn := fun _ => fun
  | [d1, d2] => { results := [.lit (.bool true)], args := [d1, d2] }
  | _ => none }
def fnExactMoveTourRow : OpenClaim := { program := "ytknonlbbakbpiaa", sum := "672b850ce0c065c87569ac1cec4cf531441d8e8fc15b8c8bb109f6d39888cebc", func := "loop.example/g01346/laws.FnExactMoveTour", spec := "fnExactMoveTour", inPlace := ["slices.overlaps[int64]"], unfollowed := true, recurses := true, apart := false }
def FnExactMoveTourSaid : Prop := fnExactMoveTourRow.holds Try.pinned (OpenSpec.ofChange fnExactMoveTourSpec)

/-- ITS FALSE NEIGHBOUR: 'it returns false'. Refute it at one input. -/
def fnExactMoveTourWrong : ChangeSpec := { name := "fnExactMoveTour", fn := fun _ => fun
  | [d1, d2] => { results := [.lit (.bool false)], args := [d1, d2] }
  | _ => none }
def FnExactMoveTourWrongFalsely : Prop := fnExactMoveTourRow.holds Try.pinned (OpenSpec.ofChange fnExactMoveTourWrong)

/-- 'laws.FnExactExactCovers': WHATEVER THE INPUT: true; the input reads as it did. -/
def fnExactExactCoversSpec : ChangeSpec := { name := "fnExactExactCovers", fn := fun _ => fun
  | [d1, d2] => { results := [.lit (.bool true)], args := [d1, d2] }
  | _ => none }
def fnExactExactCoversRow : OpenClaim := { program := "ytknonlbbakbpiaa", sum := "672b850ce0c065c87569ac1cec4cf531441d8e8fc15b8c8bb109f6d39888cebc", func := "loop.example/g01346/laws.FnExactExactCovers", spec := "fnExactExactCovers", recurses := true, apart := false }
def FnExactExactCoversSaid : Prop := fnExactExactCoversRow.holds Try.pinned (OpenSpec.ofChange fnExactExactCoversSpec)

/-- ITS FALSE NEIGHBOUR: 'it returns false'. Refute it at one input. -/
def fnExactExactCoversWrong : ChangeSpec := { name := "fnExactExactCovers", fn := fun _ => fun
  | [d1, d2] => { results := [.lit (.bool false)], args := [d1, d2] }
  | _ => none }
def FnExactExactCoversWrongFalsely : Prop := fnExactExactCoversRow.holds Try.pinned (OpenSpec.ofChange fnExactExactCoversWrong)

/-- 'laws.FnExactAddRow': WHATEVER THE INPUT: true; the input reads as it did. -/
def fnExactAddRowSpec : ChangeSpec := { name := "fnExactAddRow", fn := fun _ => fun
  | [d1, d2, d3] => { results := [.lit (.bool true)], args := [d1, d2, d3] }
  | _ => none }
def fnExactAddRowRow : OpenClaim := { program := "ytknonlbbakbpiaa", sum := "672b850ce0c065c87569ac1cec4cf531441d8e8fc15b8c8bb109f6d39888cebc", func := "loop.example/g01346/laws.FnExactAddRow", spec := "fnExactAddRow", inPlace := ["math.Float64bits", "math.Float64frombits"], apart := false }
def FnExactAddRowSaid : Prop := fnExactAddRowRow.holds Try.pinned (OpenSpec.ofChange fnExactAddRowSpec)

/-- ITS FALSE NEIGHBOUR: 'it returns false'. Refute it at one input. -/
def fnExactAddRowWrong : ChangeSpec := { name := "fnExactAddRow", fn := fun _ => fun
  | [d1, d2, d3] => { results := [.lit (.bool false)], args := [d1, d2, d3] }
  | _ => none }
def FnExactAddRowWrongFalsely : Prop := fnExactAddRowRow.holds Try.pinned (OpenSpec.ofChange fnExactAddRowWrong)

/-- 'laws.FnExactDropRow': WHATEVER THE INPUT: true; the input reads as it did. -/
def fnExactDropRowSpec : ChangeSpec := { name := "fnExactDropRow", fn := fun _ => fun
  | [d1, d2] => { results := [.lit (.bool true)], args := [d1, d2] }
  | _ => none }
def fnExactDropRowRow : OpenClaim := { program := "ytknonlbbakbpiaa", sum := "672b850ce0c065c87569ac1cec4cf531441d8e8fc15b8c8bb109f6d39888cebc", func := "loop.example/g01346/laws.FnExactDropRow", spec := "fnExactDropRow", inPlace := ["math.Float64bits", "math.Float64frombits"], apart := false }
def FnExactDropRowSaid : Prop := fnExactDropRowRow.holds Try.pinned (OpenSpec.ofChange fnExactDropRowSpec)

/-- ITS FALSE NEIGHBOUR: 'it returns false'. Refute it at one input. -/
def fnExactDropRowWrong : ChangeSpec := { name := "fnExactDropRow", fn := fun _ => fun
  | [d1, d2] => { results := [.lit (.bool false)], args := [d1, d2] }
  | _ => none }
def FnExactDropRowWrongFalsely : Prop := fnExactDropRowRow.holds Try.pinned (OpenSpec.ofChange fnExactDropRowWrong)

/-- 'laws.FnExactStoreCase': WHATEVER THE INPUT: true; the input reads as it did. -/
def fnExactStoreCaseSpec : ChangeSpec := { name := "fnExactStoreCase", fn := fun _ => fun
  | [d] => { results := [.lit (.bool true)], args := [d] }
  | _ => none }
def fnExactStoreCaseRow : OpenClaim := { program := "ytknonlbbakbpiaa", sum := "672b850ce0c065c87569ac1cec4cf531441d8e8fc15b8c8bb109f6d39888cebc", func := "loop.example/g01346/laws.FnExactStoreCase", spec := "fnExactStoreCase", unfollowed := true, recurses := true, apart := false }
def FnExactStoreCaseSaid : Prop := fnExactStoreCaseRow.holds Try.pinned (OpenSpec.ofChange fnExactStoreCaseSpec)

/-- ITS FALSE NEIGHBOUR: 'it returns false'. Refute it at one input. -/
def fnExactStoreCaseWrong : ChangeSpec := { name := "fnExactStoreCase", fn := fun _ => fun
  | [d] => { results := [.lit (.bool false)], args := [d] }
  | _ => none }
def FnExactStoreCaseWrongFalsely : Prop := fnExactStoreCaseRow.holds Try.pinned (OpenSpec.ofChange fnExactStoreCaseWrong)

/-- 'laws.FnExactCheapTree': WHATEVER THE INPUT: true; the input reads as it did. -/
def fnExactCheapTreeSpec : ChangeSpec := { name := "fnExactCheapTree", fn := fun _ => fun
  | [d] => { results := [.lit (.bool true)], args := [d] }
  | _ => none }
def fnExactCheapTreeRow : OpenClaim := { program := "ytknonlbbakbpiaa", sum := "672b850ce0c065c87569ac1cec4cf531441d8e8fc15b8c8bb109f6d39888cebc", func := "loop.example/g01346/laws.FnExactCheapTree", spec := "fnExactCheapTree", unfollowed := true, recurses := true, apart := false }
def FnExactCheapTreeSaid : Prop := fnExactCheapTreeRow.holds Try.pinned (OpenSpec.ofChange fnExactCheapTreeSpec)

/-- ITS FALSE NEIGHBOUR: 'it returns false'. Refute it at one input. -/
def fnExactCheapTreeWrong : ChangeSpec := { name := "fnExactCheapTree", fn := fun _ => fun
  | [d] => { results := [.lit (.bool false)], args := [d] }
  | _ => none }
def FnExactCheapTreeWrongFalsely : Prop := fnExactCheapTreeRow.holds Try.pinned (OpenSpec.ofChange fnExactCheapTreeWrong)

/-- 'laws.FnExactToSimplex': WHATEVER THE INPUT: true; the input reads as it did. -/
def fnExactToSimplexSpec : ChangeSpec := { name := "fnExactToSimplex", fn := fun _ => fun
  | [d] => { results := [.lit (.bool true)], args := [d] }
  | _ => none }
def fnExactToSimplexRow : OpenClaim := { program := "ytknonlbbakbpiaa", sum := "672b850ce0c065c87569ac1cec4cf531441d8e8fc15b8c8bb109f6d39888cebc", func := "loop.example/g01346/laws.FnExactToSimplex", spec := "fnExactToSimplex", inPlace := ["math.Float64bits", "math.Float64frombits"], unfollowed := true, recurses := true, apart := false }
def FnExactToSimplexSaid : Prop := fnExactToSimplexRow.holds Try.pinned (OpenSpec.ofChange fnExactToSimplexSpec)

/-- ITS FALSE NEIGHBOUR: 'it returns false'. Refute it at one input. -/
def fnExactToSimplexWrong : ChangeSpec := { name := "fnExactToSimplex", fn := fun _ => fun
  | [d] => { results := [.lit (.bool false)], args := [d] }
  | _ => none }
def FnExactToSimplexWrongFalsely : Prop := fnExactToSimplexRow.holds Try.pinned (OpenSpec.ofChange fnExactToSimplexWrong)

/-- 'laws.FnExactWholeCount': WHATEVER THE INPUT: true; the input reads as it did. -/
def fnExactWholeCountSpec : ChangeSpec := { name := "fnExactWholeCount", fn := fun _ => fun
  | [d1, d2] => { results := [.lit (.bool true)], args := [d1, d2] }
  | _ => none }
def fnExactWholeCountRow : OpenClaim := { program := "ytknonlbbakbpiaa", sum := "672b850ce0c065c87569ac1cec4cf531441d8e8fc15b8c8bb109f6d39888cebc", func := "loop.example/g01346/laws.FnExactWholeCount", spec := "fnExactWholeCount", inPlace := ["math.Float64bits", "math.Float64frombits"], unfollowed := true, recurses := true, apart := false }
def FnExactWholeCountSaid : Prop := fnExactWholeCountRow.holds Try.pinned (OpenSpec.ofChange fnExactWholeCountSpec)

/-- ITS FALSE NEIGHBOUR: 'it returns false'. Refute it at one input. -/
def fnExactWholeCountWrong : ChangeSpec := { name := "fnExactWholeCount", fn := fun _ => fun
  | [d1, d2] => { results := [.lit (.bool false)], args := [d1, d2] }
  | _ => none }
def FnExactWholeCountWrongFalsely : Prop := fnExactWholeCountRow.holds Try.pinned (OpenSpec.ofChange fnExactWholeCountWrong)

/-- 'laws.FnPowers': WHATEVER THE INPUT: true; the input reads as it did. -/
def fnPowersSpec : ChangeSpec := { name := "fnPowers", fn := fun _ => fun
  | [d1, d2] => { results := [.lit (.bool true)], args := [d1, d2] }
  | _ => none }
def fnPowersRow : OpenClaim := { program := "ytknonlbbakbpiaa", sum := "672b850ce0c065c87569ac1cec4cf531441d8e8fc15b8c8bb109f6d39888cebc", func := "loop.example/g01346/laws.FnPowers", spec := "fnPowers", inPlace := ["math.Float64frombits", "math.Float64bits"], apart := false }
def FnPowersSaid : Prop := fnPowersRow.holds Try.pinned (OpenSpec.ofChange fnPowersSpec)

/-- ITS FALSE NEIGHBOUR: 'it returns false'. Refute it at one input. -/
def fnPowersWrong : ChangeSpec := { name := "fnPowers", fn := fun _ => fun
  | [d1, d2] => { results := [.lit (.bool false)], args := [d1, d2] }
  | _ => none }
def FnPowersWrongFalsely : Prop := fnPowersRow.holds Try.pinned (OpenSpec.ofChange fnPowersWrong)

/- THE SECOND FORM. 'bulk': how many values and letters a reading holds, each counted each time it is reached (what is shared counts as often as it is met; a slice's spare places count too). A statement '..UptoSaid' is the law's where the arguments, and the package variables that the reading takes, are together of bulk at most 1048576: NARROWER than '..Said'. Prove '..Said' where nothing that the law and all that it calls make is longer than what came in: it says more and counts as full. Else prove '..UptoSaid'. A law counts once. -/
mutual
def uptoBulk {H : Type} : DataW H → Nat
  | .lit (.string bytes) => bytes.length + 1
  | .lit _ => 1
  | .nil => 1
  | .ptr d => uptoBulk d + 1
  | .slice elems spare => uptoBulkAll elems + uptoBulkAll spare + 1
  | .agg parts => uptoBulkAll parts + 1
  | .iface _ d => uptoBulk d + 1
  | .map entries => uptoBulkEntries entries + 1
  | .held _ => 1
def uptoBulkAll {H : Type} : List (DataW H) → Nat
  | [] => 0
  | d :: r => uptoBulk d + uptoBulkAll r
def uptoBulkEntries {H : Type} : List (Lit × DataW H) → Nat
  | [] => 0
  | x :: r => uptoBulkEntry x + uptoBulkEntries r
def uptoBulkEntry {H : Type} : Lit × DataW H → Nat
  | (.string bytes, d) => bytes.length + uptoBulk d + 1
  | (_, d) => uptoBulk d + 1
 end
def uptoSmall : (H : Type) → List (DataW H) → Bool := fun _ ds => decide (uptoBulkAll ds ≤ 1048576)
def OpenSpec.upto (s : _root_.Go.ChangeSpec) : _root_.Go.OpenSpec := { _root_.Go.OpenSpec.ofChange s with cond := some uptoSmall }

/-- 'laws.FnExactAllSome', WHERE WHAT IT READS IS OF BULK AT MOST 1048576: true; the input reads as it did. -/
def fnExactAllSomeUptoRow : OpenClaim := { program := "ytknonlbbakbpiaa", sum := "672b850ce0c065c87569ac1cec4cf531441d8e8fc15b8c8bb109f6d39888cebc", func := "loop.example/g01346/laws.FnExactAllSome", spec := "fnExactAllSome", unfollowed := true, recurses := true, apart := false, narrowed := true }
def FnExactAllSomeUptoSaid : Prop := fnExactAllSomeUptoRow.holds Try.pinned (OpenSpec.upto fnExactAllSomeSpec)

/-- 'laws.FnExactFirstMove', WHERE WHAT IT READS IS OF BULK AT MOST 1048576: true; the input reads as it did. -/
def fnExactFirstMoveUptoRow : OpenClaim := { program := "ytknonlbbakbpiaa", sum := "672b850ce0c065c87569ac1cec4cf531441d8e8fc15b8c8bb109f6d39888cebc", func := "loop.example/g01346/laws.FnExactFirstMove", spec := "fnExactFirstMove", unfollowed := true, recurses := true, apart := false, narrowed := true }
def FnExactFirstMoveUptoSaid : Prop := fnExactFirstMoveUptoRow.holds Try.pinned (OpenSpec.upto fnExactFirstMoveSpec)

/-- 'laws.FnExactSwapTour', WHERE WHAT IT READS IS OF BULK AT MOST 1048576: true; the input reads as it did. -/
def fnExactSwapTourUptoRow : OpenClaim := { program := "ytknonlbbakbpiaa", sum := "672b850ce0c065c87569ac1cec4cf531441d8e8fc15b8c8bb109f6d39888cebc", func := "loop.example/g01346/laws.FnExactSwapTour", spec := "fnExactSwapTour", unfollowed := true, recurses := true, apart := false, narrowed := true }
def FnExactSwapTourUptoSaid : Prop := fnExactSwapTourUptoRow.holds Try.pinned (OpenSpec.upto fnExactSwapTourSpec)

/-- 'laws.FnExactMoveTour', WHERE WHAT IT READS IS OF BULK AT MOST 1048576: true; the input reads as it did. -/
def fnExactMoveTourUptoRow : OpenClaim := { program := "ytknonlbbakbpiaa", sum := "672b850ce0c065c87569ac1cec4cf531441d8e8fc15b8c8bb109f6d39888cebc", func := "loop.example/g01346/laws.FnExactMoveTour", spec := "fnExactMoveTour", inPlace := ["slices.overlaps[int64]"], unfollowed := true, recurses := true, apart := false, narrowed := true }
def FnExactMoveTourUptoSaid : Prop := fnExactMoveTourUptoRow.holds Try.pinned (OpenSpec.upto fnExactMoveTourSpec)

/-- 'laws.FnExactExactCovers', WHERE WHAT IT READS IS OF BULK AT MOST 1048576: true; the input reads as it did. -/
def fnExactExactCoversUptoRow : OpenClaim := { program := "ytknonlbbakbpiaa", sum := "672b850ce0c065c87569ac1cec4cf531441d8e8fc15b8c8bb109f6d39888cebc", func := "loop.example/g01346/laws.FnExactExactCovers", spec := "fnExactExactCovers", recurses := true, apart := false, narrowed := true }
def FnExactExactCoversUptoSaid : Prop := fnExactExactCoversUptoRow.holds Try.pinned (OpenSpec.upto fnExactExactCoversSpec)

/-- 'laws.FnExactAddRow', WHERE WHAT IT READS IS OF BULK AT MOST 1048576: true; the input reads as it did. -/
def fnExactAddRowUptoRow : OpenClaim := { program := "ytknonlbbakbpiaa", sum := "672b850ce0c065c87569ac1cec4cf531441d8e8fc15b8c8bb109f6d39888cebc", func := "loop.example/g01346/laws.FnExactAddRow", spec := "fnExactAddRow", inPlace := ["math.Float64bits", "math.Float64frombits"], apart := false, narrowed := true }
def FnExactAddRowUptoSaid : Prop := fnExactAddRowUptoRow.holds Try.pinned (OpenSpec.upto fnExactAddRowSpec)

/-- 'laws.FnExactDropRow', WHERE WHAT IT READS IS OF BULK AT MOST 1048576: true; the input reads as it did. -/
def fnExactDropRowUptoRow : OpenClaim := { program := "ytknonlbbakbpiaa", sum := "672b850ce0c065c87569ac1cec4cf531441d8e8fc15b8c8bb109f6d39888cebc", func := "loop.example/g01346/laws.FnExactDropRow", spec := "fnExactDropRow", inPlace := ["math.Float64bits", "math.Float64frombits"], apart := false, narrowed := true }
def FnExactDropRowUptoSaid : Prop := fnExactDropRowUptoRow.holds Try.pinned (OpenSpec.upto fnExactDropRowSpec)

/-- 'laws.FnExactStoreCase', WHERE WHAT IT READS IS OF BULK AT MOST 1048576: true; the input reads as it did. -/
def fnExactStoreCaseUptoRow : OpenClaim := { program := "ytknonlbbakbpiaa", sum := "672b850ce0c065c87569ac1cec4cf531441d8e8fc15b8c8bb109f6d39888cebc", func := "loop.example/g01346/laws.FnExactStoreCase", spec := "fnExactStoreCase", unfollowed := true, recurses := true, apart := false, narrowed := true }
def FnExactStoreCaseUptoSaid : Prop := fnExactStoreCaseUptoRow.holds Try.pinned (OpenSpec.upto fnExactStoreCaseSpec)

/-- 'laws.FnExactCheapTree', WHERE WHAT IT READS IS OF BULK AT MOST 1048576: true; the input reads as it did. -/
def fnExactCheapTreeUptoRow : OpenClaim := { program := "ytknonlbbakbpiaa", sum := "672b850ce0c065c87569ac1cec4cf531441d8e8fc15b8c8bb109f6d39888cebc", func := "loop.example/g01346/laws.FnExactCheapTree", spec := "fnExactCheapTree", unfollowed := true, recurses := true, apart := false, narrowed := true }
def FnExactCheapTreeUptoSaid : Prop := fnExactCheapTreeUptoRow.holds Try.pinned (OpenSpec.upto fnExactCheapTreeSpec)

/-- 'laws.FnExactToSimplex', WHERE WHAT IT READS IS OF BULK AT MOST 1048576: true; the input reads as it did. -/
def fnExactToSimplexUptoRow : OpenClaim := { program := "ytknonlbbakbpiaa", sum := "672b850ce0c065c87569ac1cec4cf531441d8e8fc15b8c8bb109f6d39888cebc", func := "loop.example/g01346/laws.FnExactToSimplex", spec := "fnExactToSimplex", inPlace := ["math.Float64bits", "math.Float64frombits"], unfollowed := true, recurses := true, apart := false, narrowed := true }
def FnExactToSimplexUptoSaid : Prop := fnExactToSimplexUptoRow.holds Try.pinned (OpenSpec.upto fnExactToSimplexSpec)

/-- 'laws.FnExactWholeCount', WHERE WHAT IT READS IS OF BULK AT MOST 1048576: true; the input reads as it did. -/
def fnExactWholeCountUptoRow : OpenClaim := { program := "ytknonlbbakbpiaa", sum := "672b850ce0c065c87569ac1cec4cf531441d8e8fc15b8c8bb109f6d39888cebc", func := "loop.example/g01346/laws.FnExactWholeCount", spec := "fnExactWholeCount", inPlace := ["math.Float64bits", "math.Float64frombits"], unfollowed := true, recurses := true, apart := false, narrowed := true }
def FnExactWholeCountUptoSaid : Prop := fnExactWholeCountUptoRow.holds Try.pinned (OpenSpec.upto fnExactWholeCountSpec)

/-- 'laws.FnPowers', WHERE WHAT IT READS IS OF BULK AT MOST 1048576: true; the input reads as it did. -/
def fnPowersUptoRow : OpenClaim := { program := "ytknonlbbakbpiaa", sum := "672b850ce0c065c87569ac1cec4cf531441d8e8fc15b8c8bb109f6d39888cebc", func := "loop.example/g01346/laws.FnPowers", spec := "fnPowers", inPlace := ["math.Float64frombits", "math.Float64bits"], apart := false, narrowed := true }
def FnPowersUptoSaid : Prop := fnPowersUptoRow.holds Try.pinned (OpenSpec.upto fnPowersSpec)

end Rows
end Go.Proofs.Ytknonlbbakbpiaa
