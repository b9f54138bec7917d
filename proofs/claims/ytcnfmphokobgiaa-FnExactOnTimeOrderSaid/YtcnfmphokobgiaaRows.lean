/-
  No cell of these rows narrows 'for every input' (looked for: loops, veiled, ifaces, maps, wideKeys, modest, calm, conditions, laid).
  DERIVED. THE GIVEN ROWS OF THIS SEAT. 10 by the template 'for every input the law returns true; each argument reads behind the call as it read before'; 0 by the template 'total and deterministic' (their statements: YtcnfmphokobgiaaTotals.lean).
  GIVEN WITH THE SEED: the statements are not yours to turn. If you find one false, say at which input.
  Laid BY PROGRAM, IN A SANDBOX (cutbox-rows.mjs): the forced cells as the released guide's own fill.sh prints them over the translation 4c429a6a949ef6bc… (all of the seat's roots in one cut). By AI agents, Wed Nov 11 2026. No macro, syntax, notation, axiom, sorry.
-/
import Derived.Test.YtcnfmphokobgiaaChecked
import GoSem.Claim
import GoSem.ClaimJoined
import GoSem.ClaimMapViews
import Derived.JoinedTies
import Derived.KernelRfl
namespace Go.Proofs.Ytcnfmphokobgiaa
/- THE CELL 'sum', in the pinned program and in every row, IS THE sha256 OF THE DUMP (.gsa) THAT YtcnfmphokobgiaaProg.lean LOADS. Nothing in Lean hashes anything: it is a label: what it is worth is what the hold of that sum in a sandbox is worth. -/
noncomputable def Try.pinned : Pinned := { name := "ytcnfmphokobgiaa", sum := "4c429a6a949ef6bc1cd602e5435635d7fb2c5bfc6797010cfbe607ee81a621b5", checked := Try.checked }
namespace Rows
def none {H : Type} : Left H := { results := [], args := [] }

/-- 'laws.FnExactDueOrder': WHATEVER THE INPUT: true; the input reads as it did. -/
def fnExactDueOrderSpec : ChangeSpec := { name := "fnExactDueOrder", fn := fun _ => fun
  | [d] => { results := [.lit (.bool true)], args := [d] }
  | _ => none }
def fnExactDueOrderRow : OpenClaim := { program := "ytcnfmphokobgiaa", sum := "4c429a6a949ef6bc1cd602e5435635d7fb2c5bfc6797010cfbe607ee81a621b5", func := "loop.example/g01346/laws.FnExactDueOrder", spec := "fnExactDueOrder", unfollowed := true, recurses := true, apart := false }
def FnExactDueOrderSaid : Prop := fnExactDueOrderRow.holds Try.pinned (OpenSpec.ofChange fnExactDueOrderSpec)

/-- ITS FALSE NEIGHBOUR: 'it returns false'. Refute it at one input. -/
def fnExactDueOrderWrong : ChangeSpec := { name := "fnExactDueOrder", fn := fun _ => fun
  | [d] => { results := [.lit (.bool false)], args := [d] }
  | _ => none }
def FnExactDueOrderWrongFalsely : Prop := fnExactDueOrderRow.holds Try.pinned (OpenSpec.ofChange fnExactDueOrderWrong)

/-- 'laws.FnExactSmithOrder': WHATEVER THE INPUT: true; the input reads as it did. -/
def fnExactSmithOrderSpec : ChangeSpec := { name := "fnExactSmithOrder", fn := fun _ => fun
  | [d] => { results := [.lit (.bool true)], args := [d] }
  | _ => none }
def fnExactSmithOrderRow : OpenClaim := { program := "ytcnfmphokobgiaa", sum := "4c429a6a949ef6bc1cd602e5435635d7fb2c5bfc6797010cfbe607ee81a621b5", func := "loop.example/g01346/laws.FnExactSmithOrder", spec := "fnExactSmithOrder", unfollowed := true, recurses := true, apart := false }
def FnExactSmithOrderSaid : Prop := fnExactSmithOrderRow.holds Try.pinned (OpenSpec.ofChange fnExactSmithOrderSpec)

/-- ITS FALSE NEIGHBOUR: 'it returns false'. Refute it at one input. -/
def fnExactSmithOrderWrong : ChangeSpec := { name := "fnExactSmithOrder", fn := fun _ => fun
  | [d] => { results := [.lit (.bool false)], args := [d] }
  | _ => none }
def FnExactSmithOrderWrongFalsely : Prop := fnExactSmithOrderRow.holds Try.pinned (OpenSpec.ofChange fnExactSmithOrderWrong)

/-- 'laws.FnExactLongFirst': WHATEVER THE INPUT: true; the input reads as it did. -/
def fnExactLongFirstSpec : ChangeSpec := { name := "fnExactLongFirst", fn := fun _ => fun
  | [d1, d2] => { results := [.lit (.bool true)], args := [d1, d2] }
  | _ => none }
def fnExactLongFirstRow : OpenClaim := { program := "ytcnfmphokobgiaa", sum := "4c429a6a949ef6bc1cd602e5435635d7fb2c5bfc6797010cfbe607ee81a621b5", func := "loop.example/g01346/laws.FnExactLongFirst", spec := "fnExactLongFirst", unfollowed := true, recurses := true, apart := false }
def FnExactLongFirstSaid : Prop := fnExactLongFirstRow.holds Try.pinned (OpenSpec.ofChange fnExactLongFirstSpec)

/-- ITS FALSE NEIGHBOUR: 'it returns false'. Refute it at one input. -/
def fnExactLongFirstWrong : ChangeSpec := { name := "fnExactLongFirst", fn := fun _ => fun
  | [d1, d2] => { results := [.lit (.bool false)], args := [d1, d2] }
  | _ => none }
def FnExactLongFirstWrongFalsely : Prop := fnExactLongFirstRow.holds Try.pinned (OpenSpec.ofChange fnExactLongFirstWrong)

/-- 'laws.FnExactTwoStages': WHATEVER THE INPUT: true; the input reads as it did. -/
def fnExactTwoStagesSpec : ChangeSpec := { name := "fnExactTwoStages", fn := fun _ => fun
  | [d1, d2] => { results := [.lit (.bool true)], args := [d1, d2] }
  | _ => none }
def fnExactTwoStagesRow : OpenClaim := { program := "ytcnfmphokobgiaa", sum := "4c429a6a949ef6bc1cd602e5435635d7fb2c5bfc6797010cfbe607ee81a621b5", func := "loop.example/g01346/laws.FnExactTwoStages", spec := "fnExactTwoStages", unfollowed := true, recurses := true, apart := false }
def FnExactTwoStagesSaid : Prop := fnExactTwoStagesRow.holds Try.pinned (OpenSpec.ofChange fnExactTwoStagesSpec)

/-- ITS FALSE NEIGHBOUR: 'it returns false'. Refute it at one input. -/
def fnExactTwoStagesWrong : ChangeSpec := { name := "fnExactTwoStages", fn := fun _ => fun
  | [d1, d2] => { results := [.lit (.bool false)], args := [d1, d2] }
  | _ => none }
def FnExactTwoStagesWrongFalsely : Prop := fnExactTwoStagesRow.holds Try.pinned (OpenSpec.ofChange fnExactTwoStagesWrong)

/-- 'laws.FnExactMostSpans': WHATEVER THE INPUT: true; the input reads as it did. -/
def fnExactMostSpansSpec : ChangeSpec := { name := "fnExactMostSpans", fn := fun _ => fun
  | [d] => { results := [.lit (.bool true)], args := [d] }
  | _ => none }
def fnExactMostSpansRow : OpenClaim := { program := "ytcnfmphokobgiaa", sum := "4c429a6a949ef6bc1cd602e5435635d7fb2c5bfc6797010cfbe607ee81a621b5", func := "loop.example/g01346/laws.FnExactMostSpans", spec := "fnExactMostSpans", unfollowed := true, recurses := true, apart := false }
def FnExactMostSpansSaid : Prop := fnExactMostSpansRow.holds Try.pinned (OpenSpec.ofChange fnExactMostSpansSpec)

/-- ITS FALSE NEIGHBOUR: 'it returns false'. Refute it at one input. -/
def fnExactMostSpansWrong : ChangeSpec := { name := "fnExactMostSpans", fn := fun _ => fun
  | [d] => { results := [.lit (.bool false)], args := [d] }
  | _ => none }
def FnExactMostSpansWrongFalsely : Prop := fnExactMostSpansRow.holds Try.pinned (OpenSpec.ofChange fnExactMostSpansWrong)

/-- 'laws.FnExactBestSpans': WHATEVER THE INPUT: true; the input reads as it did. -/
def fnExactBestSpansSpec : ChangeSpec := { name := "fnExactBestSpans", fn := fun _ => fun
  | [d] => { results := [.lit (.bool true)], args := [d] }
  | _ => none }
def fnExactBestSpansRow : OpenClaim := { program := "ytcnfmphokobgiaa", sum := "4c429a6a949ef6bc1cd602e5435635d7fb2c5bfc6797010cfbe607ee81a621b5", func := "loop.example/g01346/laws.FnExactBestSpans", spec := "fnExactBestSpans", unfollowed := true, recurses := true, apart := false }
def FnExactBestSpansSaid : Prop := fnExactBestSpansRow.holds Try.pinned (OpenSpec.ofChange fnExactBestSpansSpec)

/-- ITS FALSE NEIGHBOUR: 'it returns false'. Refute it at one input. -/
def fnExactBestSpansWrong : ChangeSpec := { name := "fnExactBestSpans", fn := fun _ => fun
  | [d] => { results := [.lit (.bool false)], args := [d] }
  | _ => none }
def FnExactBestSpansWrongFalsely : Prop := fnExactBestSpansRow.holds Try.pinned (OpenSpec.ofChange fnExactBestSpansWrong)

/-- 'laws.FnExactRoomsOf': WHATEVER THE INPUT: true; the input reads as it did. -/
def fnExactRoomsOfSpec : ChangeSpec := { name := "fnExactRoomsOf", fn := fun _ => fun
  | [d] => { results := [.lit (.bool true)], args := [d] }
  | _ => none }
def fnExactRoomsOfRow : OpenClaim := { program := "ytcnfmphokobgiaa", sum := "4c429a6a949ef6bc1cd602e5435635d7fb2c5bfc6797010cfbe607ee81a621b5", func := "loop.example/g01346/laws.FnExactRoomsOf", spec := "fnExactRoomsOf", unfollowed := true, recurses := true, apart := false }
def FnExactRoomsOfSaid : Prop := fnExactRoomsOfRow.holds Try.pinned (OpenSpec.ofChange fnExactRoomsOfSpec)

/-- ITS FALSE NEIGHBOUR: 'it returns false'. Refute it at one input. -/
def fnExactRoomsOfWrong : ChangeSpec := { name := "fnExactRoomsOf", fn := fun _ => fun
  | [d] => { results := [.lit (.bool false)], args := [d] }
  | _ => none }
def FnExactRoomsOfWrongFalsely : Prop := fnExactRoomsOfRow.holds Try.pinned (OpenSpec.ofChange fnExactRoomsOfWrong)

/-- 'laws.FnExactOnTimeOrder': WHATEVER THE INPUT: true; the input reads as it did. -/
def fnExactOnTimeOrderSpec : ChangeSpec := { name := "fnExactOnTimeOrder", fn := fun _ => fun
  | [d] => { results := [.lit (.bool true)], args := [d] }
  | _ => none }
def fnExactOnTimeOrderRow : OpenClaim := { program := "ytcnfmphokobgiaa", sum := "4c429a6a949ef6bc1cd602e5435635d7fb2c5bfc6797010cfbe607ee81a621b5", func := "loop.example/g01346/laws.FnExactOnTimeOrder", spec := "fnExactOnTimeOrder", unfollowed := true, recurses := true, apart := false }
def FnExactOnTimeOrderSaid : Prop := fnExactOnTimeOrderRow.holds Try.pinned (OpenSpec.ofChange fnExactOnTimeOrderSpec)

/-- ITS FALSE NEIGHBOUR: 'it returns false'. Refute it at one input. -/
def fnExactOnTimeOrderWrong : ChangeSpec := { name := "fnExactOnTimeOrder", fn := fun _ => fun
  | [d] => { results := [.lit (.bool false)], args := [d] }
  | _ => none }
def FnExactOnTimeOrderWrongFalsely : Prop := fnExactOnTimeOrderRow.holds Try.pinned (OpenSpec.ofChange fnExactOnTimeOrderWrong)

/-- 'laws.FnExactShrinkList': WHATEVER THE INPUT: true; the input reads as it did. -/
def fnExactShrinkListSpec : ChangeSpec := { name := "fnExactShrinkList", fn := fun _ => fun
  | [d1, d2] => { results := [.lit (.bool true)], args := [d1, d2] }
  | _ => none }
def fnExactShrinkListRow : OpenClaim := { program := "ytcnfmphokobgiaa", sum := "4c429a6a949ef6bc1cd602e5435635d7fb2c5bfc6797010cfbe607ee81a621b5", func := "loop.example/g01346/laws.FnExactShrinkList", spec := "fnExactShrinkList", inPlace := ["math.Float64bits", "math.Float64frombits"], apart := false }
def FnExactShrinkListSaid : Prop := fnExactShrinkListRow.holds Try.pinned (OpenSpec.ofChange fnExactShrinkListSpec)

/-- ITS FALSE NEIGHBOUR: 'it returns false'. Refute it at one input. -/
def fnExactShrinkListWrong : ChangeSpec := { name := "fnExactShrinkList", fn := fun _ => fun
  | [d1, d2] => { results := [.lit (.bool false)], args := [d1, d2] }
  | _ => none }
def FnExactShrinkListWrongFalsely : Prop := fnExactShrinkListRow.holds Try.pinned (OpenSpec.ofChange fnExactShrinkListWrong)

/-- 'laws.FnExactToSimplex': WHATEVER THE INPUT: true; the input reads as it did. -/
def fnExactToSimplexSpec : ChangeSpec := { name := "fnExactToSimplex", fn := fun _ => fun
  | [d] => { results := [.lit (.bool true)], args := [d] }
  | _ => none }
def fnExactToSimplexRow : OpenClaim := { program := "ytcnfmphokobgiaa", sum := "4c429a6a949ef6bc1cd602e5435635d7fb2c5bfc6797010cfbe607ee81a621b5", func := "loop.example/g01346/laws.FnExactToSimplex", spec := "fnExactToSimplex", inPlace := ["math.Float64bits", "math.Float64frombits"], unfollowed := true, recurses := true, apart := false }
def FnExactToSimplexSaid : Prop := fnExactToSimplexRow.holds Try.pinned (OpenSpec.ofChange fnExactToSimplexSpec)

/-- ITS FALSE NEIGHBOUR: 'it returns false'. Refute it at one input. -/
def fnExactToSimplexWrong : ChangeSpec := { name := "fnExactToSimplex", fn := fun _ => fun
  | [d] => { results := [.lit (.bool false)], args := [d] }
  | _ => none }
def FnExactToSimplexWrongFalsely : Prop := fnExactToSimplexRow.holds Try.pinned (OpenSpec.ofChange fnExactToSimplexWrong)

/- THE SECOND FORM. 'bulk': how many values and letters a reading holds, each counted each time it is reached (what is shared counts as often as it is met; a slice's spare places count too). A statement '..UptoSaid' is the law's where the arguments, and the package variables that the reading takes, are together of bulk at most 1048576: NARROWER than '..Said'. Prove '..Said' where nothing that the law and all that it calls make is longer than what came in: it says more and counts as full. Else prove '..UptoSaid'. A law counts once. -/
mutual
def uptoBulk {H : Type} : DataW H → Nat
  | .lit (.string bytes) => bytes.length + 1
  | .lit _ => 1
  | .nil => 1
  | .ptr d => uptoBulk d + 1
  | .slice elems spare => uptoBulkAll elems + uptoBulkAll spare + 1
  | .agg parts => uptoBulkAll parts + 1
  | .iface _ d => uptoBulk d + 1
  | .map entries => uptoBulkEntries entries + 1
  | .held _ => 1
def uptoBulkAll {H : Type} : List (DataW H) → Nat
  | [] => 0
  | d :: r => uptoBulk d + uptoBulkAll r
def uptoBulkEntries {H : Type} : List (Lit × DataW H) → Nat
  | [] => 0
  | x :: r => uptoBulkEntry x + uptoBulkEntries r
def uptoBulkEntry {H : Type} : Lit × DataW H → Nat
  | (.string bytes, d) => bytes.length + uptoBulk d + 1
  | (_, d) => uptoBulk d + 1
 end
def uptoSmall : (H : Type) → List (DataW H) → Bool := fun _ ds => decide (uptoBulkAll ds ≤ 1048576)
def OpenSpec.upto (s : _root_.Go.ChangeSpec) : _root_.Go.OpenSpec := { _root_.Go.OpenSpec.ofChange s with cond := some uptoSmall }

/-- 'laws.FnExactDueOrder', WHERE WHAT IT READS IS OF BULK AT MOST 1048576: true; the input reads as it did. -/
def fnExactDueOrderUptoRow : OpenClaim := { program := "ytcnfmphokobgiaa", sum := "4c429a6a949ef6bc1cd602e5435635d7fb2c5bfc6797010cfbe607ee81a621b5", func := "loop.example/g01346/laws.FnExactDueOrder", spec := "fnExactDueOrder", unfollowed := true, recurses := true, apart := false, narrowed := true }
def FnExactDueOrderUptoSaid : Prop := fnExactDueOrderUptoRow.holds Try.pinned (OpenSpec.upto fnExactDueOrderSpec)

/-- 'laws.FnExactSmithOrder', WHERE WHAT IT READS IS OF BULK AT MOST 1048576: true; the input reads as it did. -/
def fnExactSmithOrderUptoRow : OpenClaim := { program := "ytcnfmphokobgiaa", sum := "4c429a6a949ef6bc1cd602e5435635d7fb2c5bfc6797010cfbe607ee81a621b5", func := "loop.example/g01346/laws.FnExactSmithOrder", spec := "fnExactSmithOrder", unfollowed := true, recurses := true, apart := false, narrowed := true }
def FnExactSmithOrderUptoSaid : Prop := fnExactSmithOrderUptoRow.holds Try.pinned (OpenSpec.upto fnExactSmithOrderSpec)

/-- 'laws.FnExactLongFirst', WHERE WHAT IT READS IS OF BULK AT MOST 1048576: true; the input reads as it did. -/
def fnExactLongFirstUptoRow : OpenClaim := { program := "ytcnfmphokobgiaa", sum := "4c429a6a949ef6bc1cd602e5435635d7fb2c5bfc6797010cfbe607ee81a621b5", func := "loop.example/g01346/laws.FnExactLongFirst", spec := "fnExactLongFirst", unfollowed := true, recurses := true, apart := false, narrowed := true }
def FnExactLongFirstUptoSaid : Prop := fnExactLongFirstUptoRow.holds Try.pinned (OpenSpec.upto fnExactLongFirstSpec)

/-- 'laws.FnExactTwoStages', WHERE WHAT IT READS IS OF BULK AT MOST 1048576: true; the input reads as it did. -/
def fnExactTwoStagesUptoRow : OpenClaim := { program := "ytcnfmphokobgiaa", sum := "4c429a6a949ef6bc1cd602e5435635d7fb2c5bfc6797010cfbe607ee81a621b5", func := "loop.example/g01346/laws.FnExactTwoStages", spec := "fnExactTwoStages", unfollowed := true, recurses := true, apart := false, narrowed := true }
def FnExactTwoStagesUptoSaid : Prop := fnExactTwoStagesUptoRow.holds Try.pinned (OpenSpec.upto fnExactTwoStagesSpec)

/-- 'laws.FnExactMostSpans', WHERE WHAT IT READS IS OF BULK AT MOST 1048576: true; the input reads as it did. -/
def fnExactMostSpansUptoRow : OpenClaim := { program := "ytcnfmphokobgiaa", sum := "4c429a6a949ef6bc1cd602e5435635d7fb2c5bfc6797010cfbe607ee81a621b5", func := "loop.example/g01346/laws.FnExactMostSpans", spec := "fnExactMostSpans", unfollowed := true, recurses := true, apart := false, narrowed := true }
def FnExactMostSpansUptoSaid : Prop := fnExactMostSpansUptoRow.holds Try.pinned (OpenSpec.upto fnExactMostSpansSpec)

/-- 'laws.FnExactBestSpans', WHERE WHAT IT READS IS OF BULK AT MOST 1048576: true; the input reads as it did. -/
def fnExactBestSpansUptoRow : OpenClaim := { program := "ytcnfmphokobgiaa", sum := "4c429a6a949ef6bc1cd602e5435635d7fb2c5bfc6797010cfbe607ee81a621b5", func := "loop.example/g01346/laws.FnExactBestSpans", spec := "fnExactBestSpans", unfollowed := true, recurses := true, apart := false, narrowed := true }
def FnExactBestSpansUptoSaid : Prop := fnExactBestSpansUptoRow.holds Try.pinned (OpenSpec.upto fnExactBestSpansSpec)

/-- 'laws.FnExactRoomsOf', WHERE WHAT IT READS IS OF BULK AT MOST 1048576: true; the input reads as it did. -/
def fnExactRoomsOfUptoRow : OpenClaim := { program := "ytcnfmphokobgiaa", sum := "4c429a6a949ef6bc1cd602e5435635d7fb2c5bfc6797010cfbe607ee81a621b5", func := "loop.example/g01346/laws.FnExactRoomsOf", spec := "fnExactRoomsOf", unfollowed := true, recurses := true, apart := false, narrowed := true }
def FnExactRoomsOfUptoSaid : Prop := fnExactRoomsOfUptoRow.holds Try.pinned (OpenSpec.upto fnExactRoomsOfSpec)

/-- 'laws.FnExactOnTimeOrder', WHERE WHAT IT READS IS OF BULK AT MOST 1048576: true; the input reads as it did. -/
def fnExactOnTimeOrderUptoRow : OpenClaim := { program := "ytcnfmphokobgiaa", sum := "4c429a6a949ef6bc1cd602e5435635d7fb2c5bfc6797010cfbe607ee81a621b5", func := "loop.example/g01346/laws.FnExactOnTimeOrder", spec := "fnExactOnTimeOrder", unfollowed := true, recurses := true, apart := false, narrowed := true }
def FnExactOnTimeOrderUptoSaid : Prop := fnExactOnTimeOrderUptoRow.holds Try.pinned (OpenSpec.upto fnExactOnTimeOrderSpec)

/-- 'laws.FnExactShrinkList', WHERE WHAT IT READS IS OF BULK AT MOST 1048576: true; the input reads as it did. -/
def fnExactShrinkListUptoRow : OpenClaim := { program := "ytcnfmphokobgiaa", sum := "4c429a6a949ef6bc1cd602e5435635d7fb2c5bfc6797010cfbe607ee81a621b5", func := "loop.example/g01346/laws.FnExactShrinkList", spec := "fnExactShrinkList", inPlace := ["math.Float64bits", "math.Float64frombits"], apart := false, narrowed := true }
def FnExactShrinkListUptoSaid : Prop := fnExactShrinkListUptoRow.holds Try.pinned (OpenSpec.upto fnExactShrinkListSpec)

/-- 'laws.FnExactToSimplex', WHERE WHAT IT READS IS OF BULK AT MOST 1048576: true; the input reads as it did. -/
def fnExactToSimplexUptoRow : OpenClaim := { program := "ytcnfmphokobgiaa", sum := "4c429a6a949ef6bc1cd602e5435635d7fb2c5bfc6797010cfbe607ee81a621b5", func := "loop.example/g01346/laws.FnExactToSimplex", spec := "fnExactToSimplex", inPlace := ["math.Float64bits", "math.Float64frombits"], unfollowed := true, recurses := true, apart := false, narrowed := true }
def FnExactToSimplexUptoSaid : Prop := fnExactToSimplexUptoRow.holds Try.pinned (OpenSpec.upto fnExactToSimplexSpec)

end Rows
end Go.Proofs.Ytcnfmphokobgiaa
