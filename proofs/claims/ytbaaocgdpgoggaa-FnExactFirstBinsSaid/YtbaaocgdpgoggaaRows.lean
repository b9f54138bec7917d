/-
  No cell of these rows narrows 'for every input' (looked for: loops, veiled, ifaces, maps, wideKeys, modest, calm, conditions, laid).
  DERIVED. THE GIVEN ROWS OF THIS SEAT. 12 by the template 'for every input the law returns true; each argument reads behind the call as it read before'; 0 by the template 'total and deterministic' (their statements: YtbaaocgdpgoggaaTotals.lean).
  GIVEN WITH THE SEED: the statements are not yours to turn. If you find one false, say at which input.
  Laid BY PROGRAM, IN A SANDBOX (cutbox-rows.mjs): the forced cells as the released guide's own fill.sh prints them over the translation 1c90995615b36ad1… (all of the seat's roots in one cut). By AI agents, Wed Nov 11 2026. No macro, syntax, notation, axiom, sorry.
-/
import Derived.Test.YtbaaocgdpgoggaaChecked
import GoSem.Claim
import GoSem.ClaimJoined
import GoSem.ClaimMapViews
import Derived.JoinedTies
import Derived.KernelRfl
namespace Go.Proofs.Ytbaaocgdpgoggaa
/- THE CELL 'sum', in the pinned program and in every row, IS THE sha256 OF THE DUMP (.gsa) THAT YtbaaocgdpgoggaaProg.lean LOADS. Nothing in Lean hashes anything: it is a label: what it is worth is what the hold of that sum in a sandbox is worth. -/
noncomputable def Try.pinned : Pinned := { name := "ytbaaocgdpgoggaa", sum := "1c90995615b36ad1f7a07a692c0d3558d98a27fb00a854a787c066ca3c065d6a", checked := Try.checked }
namespace Rows
def none {H : Type} : Left H := { results := [], args := [] }

/-- 'laws.FnExactUnitsOf': WHATEVER THE INPUT: true; the input reads as it did. -/
def fnExactUnitsOfSpec : ChangeSpec := { name := "fnExactUnitsOf", fn := fun _ => fun
  | [d1, d2] => { results := [.lit (.bool true)], args := [d1, d2] }
  | _ => none }
def fnExactUnitsOfRow : OpenClaim := { program := "ytbaaocgdpgoggaa", sum := "1c90995615b36ad1f7a07a692c0d3558d98a27fb00a854a787c066ca3c065d6a", func := "loop.example/g01346/laws.FnExactUnitsOf", spec := "fnExactUnitsOf", unfollowed := true, recurses := true, apart := false }
def FnExactUnitsOfSaid : Prop := fnExactUnitsOfRow.holds Try.pinned (OpenSpec.ofChange fnExactUnitsOfSpec)

/-- ITS FALSE NEIGHBOUR: 'it returns false'. Refute it at one input. -/
def fnExactUnitsOfWrong : ChangeSpec := { name := "fnExactUnitsOf", fn := fun _ => fun
  | [d1, d2] => { results := [.lit (.bool false)], args := [d1, d2] }
  | _ => none }
def FnExactUnitsOfWrongFalsely : Prop := fnExactUnitsOfRow.holds Try.pinned (OpenSpec.ofChange fnExactUnitsOfWrong)

/-- 'laws.FnExactIsProof': WHATEVER THE INPUT: true; the input reads as it did. -/
def fnExactIsProofSpec : ChangeSpec := { name := "fnExactIsProof", fn := fun _ => fun
  | [d1, d2] => { results := [.lit (.bool true)], args := [d1, d2] }
  | _ => none }
def fnExactIsProofRow : OpenClaim := { program := "ytbaaocgdpgoggaa", sum := "1c90995615b36ad1f7a07a692c0d3558d98a27fb00a854a787c066ca3c065d6a", func := "loop.example/g01346/laws.FnExactIsProof", spec := "fnExactIsProof", unfollowed := true, recurses := true, apart := false }
def FnExactIsProofSaid : Prop := fnExactIsProofRow.holds Try.pinned (OpenSpec.ofChange fnExactIsProofSpec)

/-- ITS FALSE NEIGHBOUR: 'it returns false'. Refute it at one input. -/
def fnExactIsProofWrong : ChangeSpec := { name := "fnExactIsProof", fn := fun _ => fun
  | [d1, d2] => { results := [.lit (.bool false)], args := [d1, d2] }
  | _ => none }
def FnExactIsProofWrongFalsely : Prop := fnExactIsProofRow.holds Try.pinned (OpenSpec.ofChange fnExactIsProofWrong)

/-- 'laws.FnExactProveNo': WHATEVER THE INPUT: true; the input reads as it did. -/
def fnExactProveNoSpec : ChangeSpec := { name := "fnExactProveNo", fn := fun _ => fun
  | [d] => { results := [.lit (.bool true)], args := [d] }
  | _ => none }
def fnExactProveNoRow : OpenClaim := { program := "ytbaaocgdpgoggaa", sum := "1c90995615b36ad1f7a07a692c0d3558d98a27fb00a854a787c066ca3c065d6a", func := "loop.example/g01346/laws.FnExactProveNo", spec := "fnExactProveNo", unfollowed := true, recurses := true, apart := false }
def FnExactProveNoSaid : Prop := fnExactProveNoRow.holds Try.pinned (OpenSpec.ofChange fnExactProveNoSpec)

/-- ITS FALSE NEIGHBOUR: 'it returns false'. Refute it at one input. -/
def fnExactProveNoWrong : ChangeSpec := { name := "fnExactProveNo", fn := fun _ => fun
  | [d] => { results := [.lit (.bool false)], args := [d] }
  | _ => none }
def FnExactProveNoWrongFalsely : Prop := fnExactProveNoRow.holds Try.pinned (OpenSpec.ofChange fnExactProveNoWrong)

/-- 'laws.FnExactGreedyPack': WHATEVER THE INPUT: true; the input reads as it did. -/
def fnExactGreedyPackSpec : ChangeSpec := { name := "fnExactGreedyPack", fn := fun _ => fun
  | [d1, d2, d3] => { results := [.lit (.bool true)], args := [d1, d2, d3] }
  | _ => none }
def fnExactGreedyPackRow : OpenClaim := { program := "ytbaaocgdpgoggaa", sum := "1c90995615b36ad1f7a07a692c0d3558d98a27fb00a854a787c066ca3c065d6a", func := "loop.example/g01346/laws.FnExactGreedyPack", spec := "fnExactGreedyPack", unfollowed := true, recurses := true, apart := false }
def FnExactGreedyPackSaid : Prop := fnExactGreedyPackRow.holds Try.pinned (OpenSpec.ofChange fnExactGreedyPackSpec)

/-- ITS FALSE NEIGHBOUR: 'it returns false'. Refute it at one input. -/
def fnExactGreedyPackWrong : ChangeSpec := { name := "fnExactGreedyPack", fn := fun _ => fun
  | [d1, d2, d3] => { results := [.lit (.bool false)], args := [d1, d2, d3] }
  | _ => none }
def FnExactGreedyPackWrongFalsely : Prop := fnExactGreedyPackRow.holds Try.pinned (OpenSpec.ofChange fnExactGreedyPackWrong)

/-- 'laws.FnExactFirstBins': WHATEVER THE INPUT: true; the input reads as it did. -/
def fnExactFirstBinsSpec : ChangeSpec := { name := "fnExactFirstBins", fn := fun _ => fun
  | [d1, d2] => { results := [.lit (.bool true)], args := [d1, d2] }
  | _ => none }
def fnExactFirstBinsRow : OpenClaim := { program := "ytbaaocgdpgoggaa", sum := "1c90995615b36ad1f7a07a692c0d3558d98a27fb00a854a787c066ca3c065d6a", func := "loop.example/g01346/laws.FnExactFirstBins", spec := "fnExactFirstBins", unfollowed := true, recurses := true, apart := false }
def FnExactFirstBinsSaid : Prop := fnExactFirstBinsRow.holds Try.pinned (OpenSpec.ofChange fnExactFirstBinsSpec)

/-- ITS FALSE NEIGHBOUR: 'it returns false'. Refute it at one input. -/
def fnExactFirstBinsWrong : ChangeSpec := { name := "fnExactFirstBins", fn := fun _ => fun
  | [d1, d2] => { results := [.lit (.bool false)], args := [d1, d2] }
  | _ => none }
def FnExactFirstBinsWrongFalsely : Prop := fnExactFirstBinsRow.holds Try.pinned (OpenSpec.ofChange fnExactFirstBinsWrong)

/-- 'laws.FnExactPackBound': WHATEVER THE INPUT: true; the input reads as it did. -/
def fnExactPackBoundSpec : ChangeSpec := { name := "fnExactPackBound", fn := fun _ => fun
  | [d1, d2, d3] => { results := [.lit (.bool true)], args := [d1, d2, d3] }
  | _ => none }
def fnExactPackBoundRow : OpenClaim := { program := "ytbaaocgdpgoggaa", sum := "1c90995615b36ad1f7a07a692c0d3558d98a27fb00a854a787c066ca3c065d6a", func := "loop.example/g01346/laws.FnExactPackBound", spec := "fnExactPackBound", unfollowed := true, recurses := true, apart := false }
def FnExactPackBoundSaid : Prop := fnExactPackBoundRow.holds Try.pinned (OpenSpec.ofChange fnExactPackBoundSpec)

/-- ITS FALSE NEIGHBOUR: 'it returns false'. Refute it at one input. -/
def fnExactPackBoundWrong : ChangeSpec := { name := "fnExactPackBound", fn := fun _ => fun
  | [d1, d2, d3] => { results := [.lit (.bool false)], args := [d1, d2, d3] }
  | _ => none }
def FnExactPackBoundWrongFalsely : Prop := fnExactPackBoundRow.holds Try.pinned (OpenSpec.ofChange fnExactPackBoundWrong)

/-- 'laws.FnExactMostSpans': WHATEVER THE INPUT: true; the input reads as it did. -/
def fnExactMostSpansSpec : ChangeSpec := { name := "fnExactMostSpans", fn := fun _ => fun
  | [d] => { results := [.lit (.bool true)], args := [d] }
  | _ => none }
def fnExactMostSpansRow : OpenClaim := { program := "ytbaaocgdpgoggaa", sum := "1c90995615b36ad1f7a07a692c0d3558d98a27fb00a854a787c066ca3c065d6a", func := "loop.example/g01346/laws.FnExactMostSpans", spec := "fnExactMostSpans", unfollowed := true, recurses := true, apart := false }
def FnExactMostSpansSaid : Prop := fnExactMostSpansRow.holds Try.pinned (OpenSpec.ofChange fnExactMostSpansSpec)

/-- ITS FALSE NEIGHBOUR: 'it returns false'. Refute it at one input. -/
def fnExactMostSpansWrong : ChangeSpec := { name := "fnExactMostSpans", fn := fun _ => fun
  | [d] => { results := [.lit (.bool false)], args := [d] }
  | _ => none }
def FnExactMostSpansWrongFalsely : Prop := fnExactMostSpansRow.holds Try.pinned (OpenSpec.ofChange fnExactMostSpansWrong)

/-- 'laws.FnExactBestSpans': WHATEVER THE INPUT: true; the input reads as it did. -/
def fnExactBestSpansSpec : ChangeSpec := { name := "fnExactBestSpans", fn := fun _ => fun
  | [d] => { results := [.lit (.bool true)], args := [d] }
  | _ => none }
def fnExactBestSpansRow : OpenClaim := { program := "ytbaaocgdpgoggaa", sum := "1c90995615b36ad1f7a07a692c0d3558d98a27fb00a854a787c066ca3c065d6a", func := "loop.example/g01346/laws.FnExactBestSpans", spec := "fnExactBestSpans", unfollowed := true, recurses := true, apart := false }
def FnExactBestSpansSaid : Prop := fnExactBestSpansRow.holds Try.pinned (OpenSpec.ofChange fnExactBestSpansSpec)

/-- ITS FALSE NEIGHBOUR: 'it returns false'. Refute it at one input. -/
def fnExactBestSpansWrong : ChangeSpec := { name := "fnExactBestSpans", fn := fun _ => fun
  | [d] => { results := [.lit (.bool false)], args := [d] }
  | _ => none }
def FnExactBestSpansWrongFalsely : Prop := fnExactBestSpansRow.holds Try.pinned (OpenSpec.ofChange fnExactBestSpansWrong)

/-- 'laws.FnExactRoomsOf': WHATEVER THE INPUT: true; the input reads as it did. -/
def fnExactRoomsOfSpec : ChangeSpec := { name := "fnExactRoomsOf", fn := fun _ => fun
  | [d] => { results := [.lit (.bool true)], args := [d] }
  | _ => none }
def fnExactRoomsOfRow : OpenClaim := { program := "ytbaaocgdpgoggaa", sum := "1c90995615b36ad1f7a07a692c0d3558d98a27fb00a854a787c066ca3c065d6a", func := "loop.example/g01346/laws.FnExactRoomsOf", spec := "fnExactRoomsOf", unfollowed := true, recurses := true, apart := false }
def FnExactRoomsOfSaid : Prop := fnExactRoomsOfRow.holds Try.pinned (OpenSpec.ofChange fnExactRoomsOfSpec)

/-- ITS FALSE NEIGHBOUR: 'it returns false'. Refute it at one input. -/
def fnExactRoomsOfWrong : ChangeSpec := { name := "fnExactRoomsOf", fn := fun _ => fun
  | [d] => { results := [.lit (.bool false)], args := [d] }
  | _ => none }
def FnExactRoomsOfWrongFalsely : Prop := fnExactRoomsOfRow.holds Try.pinned (OpenSpec.ofChange fnExactRoomsOfWrong)

/-- 'laws.FnExactFrontCost': WHATEVER THE INPUT: true; the input reads as it did. -/
def fnExactFrontCostSpec : ChangeSpec := { name := "fnExactFrontCost", fn := fun _ => fun
  | [d1, d2] => { results := [.lit (.bool true)], args := [d1, d2] }
  | _ => none }
def fnExactFrontCostRow : OpenClaim := { program := "ytbaaocgdpgoggaa", sum := "1c90995615b36ad1f7a07a692c0d3558d98a27fb00a854a787c066ca3c065d6a", func := "loop.example/g01346/laws.FnExactFrontCost", spec := "fnExactFrontCost", inPlace := ["slices.overlaps[int64]"], unfollowed := true, recurses := true, apart := false }
def FnExactFrontCostSaid : Prop := fnExactFrontCostRow.holds Try.pinned (OpenSpec.ofChange fnExactFrontCostSpec)

/-- ITS FALSE NEIGHBOUR: 'it returns false'. Refute it at one input. -/
def fnExactFrontCostWrong : ChangeSpec := { name := "fnExactFrontCost", fn := fun _ => fun
  | [d1, d2] => { results := [.lit (.bool false)], args := [d1, d2] }
  | _ => none }
def FnExactFrontCostWrongFalsely : Prop := fnExactFrontCostRow.holds Try.pinned (OpenSpec.ofChange fnExactFrontCostWrong)

/-- 'laws.FnExactToSimplex': WHATEVER THE INPUT: true; the input reads as it did. -/
def fnExactToSimplexSpec : ChangeSpec := { name := "fnExactToSimplex", fn := fun _ => fun
  | [d] => { results := [.lit (.bool true)], args := [d] }
  | _ => none }
def fnExactToSimplexRow : OpenClaim := { program := "ytbaaocgdpgoggaa", sum := "1c90995615b36ad1f7a07a692c0d3558d98a27fb00a854a787c066ca3c065d6a", func := "loop.example/g01346/laws.FnExactToSimplex", spec := "fnExactToSimplex", inPlace := ["math.Float64bits", "math.Float64frombits"], unfollowed := true, recurses := true, apart := false }
def FnExactToSimplexSaid : Prop := fnExactToSimplexRow.holds Try.pinned (OpenSpec.ofChange fnExactToSimplexSpec)

/-- ITS FALSE NEIGHBOUR: 'it returns false'. Refute it at one input. -/
def fnExactToSimplexWrong : ChangeSpec := { name := "fnExactToSimplex", fn := fun _ => fun
  | [d] => { results := [.lit (.bool false)], args := [d] }
  | _ => none }
def FnExactToSimplexWrongFalsely : Prop := fnExactToSimplexRow.holds Try.pinned (OpenSpec.ofChange fnExactToSimplexWrong)

/-- 'laws.FnExactCutOf': WHATEVER THE INPUT: true; the input reads as it did. -/
def fnExactCutOfSpec : ChangeSpec := { name := "fnExactCutOf", fn := fun _ => fun
  | [d1, d2, d3] => { results := [.lit (.bool true)], args := [d1, d2, d3] }
  | _ => none }
def fnExactCutOfRow : OpenClaim := { program := "ytbaaocgdpgoggaa", sum := "1c90995615b36ad1f7a07a692c0d3558d98a27fb00a854a787c066ca3c065d6a", func := "loop.example/g01346/laws.FnExactCutOf", spec := "fnExactCutOf", recurses := true, apart := false }
def FnExactCutOfSaid : Prop := fnExactCutOfRow.holds Try.pinned (OpenSpec.ofChange fnExactCutOfSpec)

/-- ITS FALSE NEIGHBOUR: 'it returns false'. Refute it at one input. -/
def fnExactCutOfWrong : ChangeSpec := { name := "fnExactCutOf", fn := fun _ => fun
  | [d1, d2, d3] => { results := [.lit (.bool false)], args := [d1, d2, d3] }
  | _ => none }
def FnExactCutOfWrongFalsely : Prop := fnExactCutOfRow.holds Try.pinned (OpenSpec.ofChange fnExactCutOfWrong)

/- THE SECOND FORM. 'bulk': how many values and letters a reading holds, each counted each time it is reached (what is shared counts as often as it is met; a slice's spare places count too). A statement '..UptoSaid' is the law's where the arguments, and the package variables that the reading takes, are together of bulk at most 1048576: NARROWER than '..Said'. Prove '..Said' where nothing that the law and all that it calls make is longer than what came in: it says more and counts as full. Else prove '..UptoSaid'. A law counts once. -/
mutual
def uptoBulk {H : Type} : DataW H → Nat
  | .lit (.string bytes) => bytes.length + 1
  | .lit _ => 1
  | .nil => 1
  | .ptr d => uptoBulk d + 1
  | .slice elems spare => uptoBulkAll elems + uptoBulkAll spare + 1
  | .agg parts => uptoBulkAll parts + 1
  | .iface _ d => uptoBulk d + 1
  | .map entries => uptoBulkEntries entries + 1
  | .held _ => 1
def uptoBulkAll {H : Type} : List (DataW H) → Nat
  | [] => 0
  | d :: r => uptoBulk d + uptoBulkAll r
def uptoBulkEntries {H : Type} : List (Lit × DataW H) → Nat
  | [] => 0
  | x :: r => uptoBulkEntry x + uptoBulkEntries r
def uptoBulkEntry {H : Type} : Lit × DataW H → Nat
  | (.string bytes, d) => bytes.length + uptoBulk d + 1
  | (_, d) => uptoBulk d + 1
 end
def uptoSmall : (H : Type) → List (DataW H) → Bool := fun _ ds => decide (uptoBulkAll ds ≤ 1048576)
def OpenSpec.upto (s : _root_.Go.ChangeSpec) : _root_.Go.OpenSpec := { _root_.Go.OpenSpec.ofChange s with cond := some uptoSmall }

/-- 'laws.FnExactUnitsOf', WHERE WHAT IT READS IS OF BULK AT MOST 1048576: true; the input reads as it did. -/
def fnExactUnitsOfUptoRow : OpenClaim := { program := "ytbaaocgdpgoggaa", sum := "1c90995615b36ad1f7a07a692c0d3558d98a27fb00a854a787c066ca3c065d6a", func := "loop.example/g01346/laws.FnExactUnitsOf", spec := "fnExactUnitsOf", unfollowed := true, recurses := true, apart := false, narrowed := true }
def FnExactUnitsOfUptoSaid : Prop := fnExactUnitsOfUptoRow.holds Try.pinned (OpenSpec.upto fnExactUnitsOfSpec)

/-- 'laws.FnExactIsProof', WHERE WHAT IT READS IS OF BULK AT MOST 1048576: true; the input reads as it did. -/
def fnExactIsProofUptoRow : OpenClaim := { program := "ytbaaocgdpgoggaa", sum := "1c90995615b36ad1f7a07a692c0d3558d98a27fb00a854a787c066ca3c065d6a", func := "loop.example/g01346/laws.FnExactIsProof", spec := "fnExactIsProof", unfollowed := true, recurses := true, apart := false, narrowed := true }
def FnExactIsProofUptoSaid : Prop := fnExactIsProofUptoRow.holds Try.pinned (OpenSpec.upto fnExactIsProofSpec)

/-- 'laws.FnExactProveNo', WHERE WHAT IT READS IS OF BULK AT MOST 1048576: true; the input reads as it did. -/
def fnExactProveNoUptoRow : OpenClaim := { program := "ytbaaocgdpgoggaa", sum := "1c90995615b36ad1f7a07a692c0d3558d98a27fb00a854a787c066ca3c065d6a", func := "loop.example/g01346/laws.FnExactProveNo", spec := "fnExactProveNo", unfollowed := true, recurses := true, apart := false, narrowed := true }
def FnExactProveNoUptoSaid : Prop := fnExactProveNoUptoRow.holds Try.pinned (OpenSpec.upto fnExactProveNoSpec)

/-- 'laws.FnExactGreedyPack', WHERE WHAT IT READS IS OF BULK AT MOST 1048576: true; the input reads as it did. -/
def fnExactGreedyPackUptoRow : OpenClaim := { program := "ytbaaocgdpgoggaa", sum := "1c90995615b36ad1f7a07a692c0d3558d98a27fb00a854a787c066ca3c065d6a", func := "loop.example/g01346/laws.FnExactGreedyPack", spec := "fnExactGreedyPack", unfollowed := true, recurses := true, apart := false, narrowed := true }
def FnExactGreedyPackUptoSaid : Prop := fnExactGreedyPackUptoRow.holds Try.pinned (OpenSpec.upto fnExactGreedyPackSpec)

/-- 'laws.FnExactFirstBins', WHERE WHAT IT READS IS OF BULK AT MOST 1048576: true; the input reads as it did. -/
def fnExactFirstBinsUptoRow : OpenClaim := { program := "ytbaaocgdpgoggaa", sum := "1c90995615b36ad1f7a07a692c0d3558d98a27fb00a854a787c066ca3c065d6a", func := "loop.example/g01346/laws.FnExactFirstBins", spec := "fnExactFirstBins", unfollowed := true, recurses := true, apart := false, narrowed := true }
def FnExactFirstBinsUptoSaid : Prop := fnExactFirstBinsUptoRow.holds Try.pinned (OpenSpec.upto fnExactFirstBinsSpec)

/-- 'laws.FnExactPackBound', WHERE WHAT IT READS IS OF BULK AT MOST 1048576: true; the input reads as it did. -/
def fnExactPackBoundUptoRow : OpenClaim := { program := "ytbaaocgdpgoggaa", sum := "1c90995615b36ad1f7a07a692c0d3558d98a27fb00a854a787c066ca3c065d6a", func := "loop.example/g01346/laws.FnExactPackBound", spec := "fnExactPackBound", unfollowed := true, recurses := true, apart := false, narrowed := true }
def FnExactPackBoundUptoSaid : Prop := fnExactPackBoundUptoRow.holds Try.pinned (OpenSpec.upto fnExactPackBoundSpec)

/-- 'laws.FnExactMostSpans', WHERE WHAT IT READS IS OF BULK AT MOST 1048576: true; the input reads as it did. -/
def fnExactMostSpansUptoRow : OpenClaim := { program := "ytbaaocgdpgoggaa", sum := "1c90995615b36ad1f7a07a692c0d3558d98a27fb00a854a787c066ca3c065d6a", func := "loop.example/g01346/laws.FnExactMostSpans", spec := "fnExactMostSpans", unfollowed := true, recurses := true, apart := false, narrowed := true }
def FnExactMostSpansUptoSaid : Prop := fnExactMostSpansUptoRow.holds Try.pinned (OpenSpec.upto fnExactMostSpansSpec)

/-- 'laws.FnExactBestSpans', WHERE WHAT IT READS IS OF BULK AT MOST 1048576: true; the input reads as it did. -/
def fnExactBestSpansUptoRow : OpenClaim := { program := "ytbaaocgdpgoggaa", sum := "1c90995615b36ad1f7a07a692c0d3558d98a27fb00a854a787c066ca3c065d6a", func := "loop.example/g01346/laws.FnExactBestSpans", spec := "fnExactBestSpans", unfollowed := true, recurses := true, apart := false, narrowed := true }
def FnExactBestSpansUptoSaid : Prop := fnExactBestSpansUptoRow.holds Try.pinned (OpenSpec.upto fnExactBestSpansSpec)

/-- 'laws.FnExactRoomsOf', WHERE WHAT IT READS IS OF BULK AT MOST 1048576: true; the input reads as it did. -/
def fnExactRoomsOfUptoRow : OpenClaim := { program := "ytbaaocgdpgoggaa", sum := "1c90995615b36ad1f7a07a692c0d3558d98a27fb00a854a787c066ca3c065d6a", func := "loop.example/g01346/laws.FnExactRoomsOf", spec := "fnExactRoomsOf", unfollowed := true, recurses := true, apart := false, narrowed := true }
def FnExactRoomsOfUptoSaid : Prop := fnExactRoomsOfUptoRow.holds Try.pinned (OpenSpec.upto fnExactRoomsOfSpec)

/-- 'laws.FnExactFrontCost', WHERE WHAT IT READS IS OF BULK AT MOST 1048576: true; the input reads as it did. -/
def fnExactFrontCostUptoRow : OpenClaim := { program := "ytbaaocgdpgoggaa", sum := "1c90995615b36ad1f7a07a692c0d3558d98a27fb00a854a787c066ca3c065d6a", func := "loop.example/g01346/laws.FnExactFrontCost", spec := "fnExactFrontCost", inPlace := ["slices.overlaps[int64]"], unfollowed := true, recurses := true, apart := false, narrowed := true }
def FnExactFrontCostUptoSaid : Prop := fnExactFrontCostUptoRow.holds Try.pinned (OpenSpec.upto fnExactFrontCostSpec)

/-- 'laws.FnExactToSimplex', WHERE WHAT IT READS IS OF BULK AT MOST 1048576: true; the input reads as it did. -/
def fnExactToSimplexUptoRow : OpenClaim := { program := "ytbaaocgdpgoggaa", sum := "1c90995615b36ad1f7a07a692c0d3558d98a27fb00a854a787c066ca3c065d6a", func := "loop.example/g01346/laws.FnExactToSimplex", spec := "fnExactToSimplex", inPlace := ["math.Float64bits", "math.Float64frombits"], unfollowed := true, recurses := true, apart := false, narrowed := true }
def FnExactToSimplexUptoSaid : Prop := fnExactToSimplexUptoRow.holds Try.pinned (OpenSpec.upto fnExactToSimplexSpec)

/-- 'laws.FnExactCutOf', WHERE WHAT IT READS IS OF BULK AT MOST 1048576: true; the input reads as it did. -/
def fnExactCutOfUptoRow : OpenClaim := { program := "ytbaaocgdpgoggaa", sum := "1c90995615b36ad1f7a07a692c0d3558d98a27fb00a854a787c066ca3c065d6a", func := "loop.example/g01346/laws.FnExactCutOf", spec := "fnExactCutOf", recurses := true, apart := false, narrowed := true }
def FnExactCutOfUptoSaid : Prop := fnExactCutOfUptoRow.holds Try.pinned (OpenSpec.upto fnExactCutOfSpec)

end Rows
end Go.Proofs.Ytbaaocgdpgoggaa
