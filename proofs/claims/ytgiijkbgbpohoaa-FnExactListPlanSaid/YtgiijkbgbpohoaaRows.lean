/-
  No cell of these rows narrows 'for every input' (looked for: loops, veiled, ifaces, maps, wideKeys, modest, calm, conditions, laid).
  DERIVED. THE GIVEN ROWS OF THIS SEAT. 12 by the template 'for every input the law returns true; each argument reads behind the call as it read before'; 0 by the template 'total and deterministic' (their statements: YtgiijkbgbpohoaaTotals.lean).
  GIVEN WITH THE SEED: the statements are not yours to turn. If you find one false, say at which input.
  Laid BY PROGRAM, IN A SANDBOX (cutbox-rows.mjs): the forced cells as the released guide's own fill.sh prints them over the translation 0583bac9a0f601f5… (all of the seat's roots in one cut). By AI agents, Wed Nov 11 2026. No macro, syntax, notation, axiom, sorry.
-/
import Derived.Test.YtgiijkbgbpohoaaChecked
import GoSem.Claim
import GoSem.ClaimJoined
import GoSem.ClaimMapViews
import Derived.JoinedTies
import Derived.KernelRfl
namespace Go.Proofs.Ytgiijkbgbpohoaa
/- THE CELL 'sum', in the pinned program and in every row, IS THE sha256 OF THE DUMP (.gsa) THAT YtgiijkbgbpohoaaProg.lean LOADS. Nothing in Lean hashes anything: it is a label: what it is worth is what the hold of that sum in a sandbox is worth. -/
noncomputable def Try.pinned : Pinned := { name := "ytgiijkbgbpohoaa", sum := "0583bac9a0f601f591c01bfd3af200732a838e2a05c5eea83e38f4eeddc33981", checked := Try.checked }
namespace Rows
def none {H : Type} : Left H := { results := [], args := [] }

/-- 'laws.FnExactAreJobs': WHATEVER THE INPUT: true; the input reads as it did. -/
def fnExactAreJobsSpec : ChangeSpec := { name := "fnExactAreJobs", fn := fun _ => fun
  | [d] => { results := [.lit (.bool true)], args := [d] }
  | _ => none }
def fnExactAreJobsRow : OpenClaim := { program := "ytgiijkbgbpohoaa", sum := "0583bac9a0f601f591c01bfd3af200732a838e2a05c5eea83e38f4eeddc33981", func := "loop.example/g01346/laws.FnExactAreJobs", spec := "fnExactAreJobs", unfollowed := true, recurses := true, apart := false }
def FnExactAreJobsSaid : Prop := fnExactAreJobsRow.holds Try.pinned (OpenSpec.ofChange fnExactAreJobsSpec)

/-- ITS FALSE NEIGHBOUR: 'it returns false'. Refute it at one input. -/
def fnExactAreJobsWrong : ChangeSpec := { name := "fnExactAreJobs", fn := fun _ => fun
  | [d] => { results := [.lit (.bool false)], args := [d] }
  | _ => none }
def FnExactAreJobsWrongFalsely : Prop := fnExactAreJobsRow.holds Try.pinned (OpenSpec.ofChange fnExactAreJobsWrong)

/-- 'laws.FnExactEndsOf': WHATEVER THE INPUT: true; the input reads as it did. -/
def fnExactEndsOfSpec : ChangeSpec := { name := "fnExactEndsOf", fn := fun _ => fun
  | [d1, d2] => { results := [.lit (.bool true)], args := [d1, d2] }
  | _ => none }
def fnExactEndsOfRow : OpenClaim := { program := "ytgiijkbgbpohoaa", sum := "0583bac9a0f601f591c01bfd3af200732a838e2a05c5eea83e38f4eeddc33981", func := "loop.example/g01346/laws.FnExactEndsOf", spec := "fnExactEndsOf", unfollowed := true, recurses := true, apart := false }
def FnExactEndsOfSaid : Prop := fnExactEndsOfRow.holds Try.pinned (OpenSpec.ofChange fnExactEndsOfSpec)

/-- ITS FALSE NEIGHBOUR: 'it returns false'. Refute it at one input. -/
def fnExactEndsOfWrong : ChangeSpec := { name := "fnExactEndsOf", fn := fun _ => fun
  | [d1, d2] => { results := [.lit (.bool false)], args := [d1, d2] }
  | _ => none }
def FnExactEndsOfWrongFalsely : Prop := fnExactEndsOfRow.holds Try.pinned (OpenSpec.ofChange fnExactEndsOfWrong)

/-- 'laws.FnExactWeightedEnds': WHATEVER THE INPUT: true; the input reads as it did. -/
def fnExactWeightedEndsSpec : ChangeSpec := { name := "fnExactWeightedEnds", fn := fun _ => fun
  | [d1, d2] => { results := [.lit (.bool true)], args := [d1, d2] }
  | _ => none }
def fnExactWeightedEndsRow : OpenClaim := { program := "ytgiijkbgbpohoaa", sum := "0583bac9a0f601f591c01bfd3af200732a838e2a05c5eea83e38f4eeddc33981", func := "loop.example/g01346/laws.FnExactWeightedEnds", spec := "fnExactWeightedEnds", unfollowed := true, recurses := true, apart := false }
def FnExactWeightedEndsSaid : Prop := fnExactWeightedEndsRow.holds Try.pinned (OpenSpec.ofChange fnExactWeightedEndsSpec)

/-- ITS FALSE NEIGHBOUR: 'it returns false'. Refute it at one input. -/
def fnExactWeightedEndsWrong : ChangeSpec := { name := "fnExactWeightedEnds", fn := fun _ => fun
  | [d1, d2] => { results := [.lit (.bool false)], args := [d1, d2] }
  | _ => none }
def FnExactWeightedEndsWrongFalsely : Prop := fnExactWeightedEndsRow.holds Try.pinned (OpenSpec.ofChange fnExactWeightedEndsWrong)

/-- 'laws.FnExactMostLate': WHATEVER THE INPUT: true; the input reads as it did. -/
def fnExactMostLateSpec : ChangeSpec := { name := "fnExactMostLate", fn := fun _ => fun
  | [d1, d2] => { results := [.lit (.bool true)], args := [d1, d2] }
  | _ => none }
def fnExactMostLateRow : OpenClaim := { program := "ytgiijkbgbpohoaa", sum := "0583bac9a0f601f591c01bfd3af200732a838e2a05c5eea83e38f4eeddc33981", func := "loop.example/g01346/laws.FnExactMostLate", spec := "fnExactMostLate", unfollowed := true, recurses := true, apart := false }
def FnExactMostLateSaid : Prop := fnExactMostLateRow.holds Try.pinned (OpenSpec.ofChange fnExactMostLateSpec)

/-- ITS FALSE NEIGHBOUR: 'it returns false'. Refute it at one input. -/
def fnExactMostLateWrong : ChangeSpec := { name := "fnExactMostLate", fn := fun _ => fun
  | [d1, d2] => { results := [.lit (.bool false)], args := [d1, d2] }
  | _ => none }
def FnExactMostLateWrongFalsely : Prop := fnExactMostLateRow.holds Try.pinned (OpenSpec.ofChange fnExactMostLateWrong)

/-- 'laws.FnExactCountLate': WHATEVER THE INPUT: true; the input reads as it did. -/
def fnExactCountLateSpec : ChangeSpec := { name := "fnExactCountLate", fn := fun _ => fun
  | [d1, d2] => { results := [.lit (.bool true)], args := [d1, d2] }
  | _ => none }
def fnExactCountLateRow : OpenClaim := { program := "ytgiijkbgbpohoaa", sum := "0583bac9a0f601f591c01bfd3af200732a838e2a05c5eea83e38f4eeddc33981", func := "loop.example/g01346/laws.FnExactCountLate", spec := "fnExactCountLate", unfollowed := true, recurses := true, apart := false }
def FnExactCountLateSaid : Prop := fnExactCountLateRow.holds Try.pinned (OpenSpec.ofChange fnExactCountLateSpec)

/-- ITS FALSE NEIGHBOUR: 'it returns false'. Refute it at one input. -/
def fnExactCountLateWrong : ChangeSpec := { name := "fnExactCountLate", fn := fun _ => fun
  | [d1, d2] => { results := [.lit (.bool false)], args := [d1, d2] }
  | _ => none }
def FnExactCountLateWrongFalsely : Prop := fnExactCountLateRow.holds Try.pinned (OpenSpec.ofChange fnExactCountLateWrong)

/-- 'laws.FnExactHeadsBound': WHATEVER THE INPUT: true; the input reads as it did. -/
def fnExactHeadsBoundSpec : ChangeSpec := { name := "fnExactHeadsBound", fn := fun _ => fun
  | [d] => { results := [.lit (.bool true)], args := [d] }
  | _ => none }
def fnExactHeadsBoundRow : OpenClaim := { program := "ytgiijkbgbpohoaa", sum := "0583bac9a0f601f591c01bfd3af200732a838e2a05c5eea83e38f4eeddc33981", func := "loop.example/g01346/laws.FnExactHeadsBound", spec := "fnExactHeadsBound", unfollowed := true, recurses := true, apart := false }
def FnExactHeadsBoundSaid : Prop := fnExactHeadsBoundRow.holds Try.pinned (OpenSpec.ofChange fnExactHeadsBoundSpec)

/-- ITS FALSE NEIGHBOUR: 'it returns false'. Refute it at one input. -/
def fnExactHeadsBoundWrong : ChangeSpec := { name := "fnExactHeadsBound", fn := fun _ => fun
  | [d] => { results := [.lit (.bool false)], args := [d] }
  | _ => none }
def FnExactHeadsBoundWrongFalsely : Prop := fnExactHeadsBoundRow.holds Try.pinned (OpenSpec.ofChange fnExactHeadsBoundWrong)

/-- 'laws.FnExactAreSpans': WHATEVER THE INPUT: true; the input reads as it did. -/
def fnExactAreSpansSpec : ChangeSpec := { name := "fnExactAreSpans", fn := fun _ => fun
  | [d] => { results := [.lit (.bool true)], args := [d] }
  | _ => none }
def fnExactAreSpansRow : OpenClaim := { program := "ytgiijkbgbpohoaa", sum := "0583bac9a0f601f591c01bfd3af200732a838e2a05c5eea83e38f4eeddc33981", func := "loop.example/g01346/laws.FnExactAreSpans", spec := "fnExactAreSpans", unfollowed := true, recurses := true, apart := false }
def FnExactAreSpansSaid : Prop := fnExactAreSpansRow.holds Try.pinned (OpenSpec.ofChange fnExactAreSpansSpec)

/-- ITS FALSE NEIGHBOUR: 'it returns false'. Refute it at one input. -/
def fnExactAreSpansWrong : ChangeSpec := { name := "fnExactAreSpans", fn := fun _ => fun
  | [d] => { results := [.lit (.bool false)], args := [d] }
  | _ => none }
def FnExactAreSpansWrongFalsely : Prop := fnExactAreSpansRow.holds Try.pinned (OpenSpec.ofChange fnExactAreSpansWrong)

/-- 'laws.FnExactRentCost': WHATEVER THE INPUT: true; the input reads as it did. -/
def fnExactRentCostSpec : ChangeSpec := { name := "fnExactRentCost", fn := fun _ => fun
  | [d1, d2, d3] => { results := [.lit (.bool true)], args := [d1, d2, d3] }
  | _ => none }
def fnExactRentCostRow : OpenClaim := { program := "ytgiijkbgbpohoaa", sum := "0583bac9a0f601f591c01bfd3af200732a838e2a05c5eea83e38f4eeddc33981", func := "loop.example/g01346/laws.FnExactRentCost", spec := "fnExactRentCost", apart := false }
def FnExactRentCostSaid : Prop := fnExactRentCostRow.holds Try.pinned (OpenSpec.ofChange fnExactRentCostSpec)

/-- ITS FALSE NEIGHBOUR: 'it returns false'. Refute it at one input. -/
def fnExactRentCostWrong : ChangeSpec := { name := "fnExactRentCost", fn := fun _ => fun
  | [d1, d2, d3] => { results := [.lit (.bool false)], args := [d1, d2, d3] }
  | _ => none }
def FnExactRentCostWrongFalsely : Prop := fnExactRentCostRow.holds Try.pinned (OpenSpec.ofChange fnExactRentCostWrong)

/-- 'laws.FnExactListPlan': WHATEVER THE INPUT: true; the input reads as it did. -/
def fnExactListPlanSpec : ChangeSpec := { name := "fnExactListPlan", fn := fun _ => fun
  | [d1, d2] => { results := [.lit (.bool true)], args := [d1, d2] }
  | _ => none }
def fnExactListPlanRow : OpenClaim := { program := "ytgiijkbgbpohoaa", sum := "0583bac9a0f601f591c01bfd3af200732a838e2a05c5eea83e38f4eeddc33981", func := "loop.example/g01346/laws.FnExactListPlan", spec := "fnExactListPlan", unfollowed := true, recurses := true, apart := false }
def FnExactListPlanSaid : Prop := fnExactListPlanRow.holds Try.pinned (OpenSpec.ofChange fnExactListPlanSpec)

/-- ITS FALSE NEIGHBOUR: 'it returns false'. Refute it at one input. -/
def fnExactListPlanWrong : ChangeSpec := { name := "fnExactListPlan", fn := fun _ => fun
  | [d1, d2] => { results := [.lit (.bool false)], args := [d1, d2] }
  | _ => none }
def FnExactListPlanWrongFalsely : Prop := fnExactListPlanRow.holds Try.pinned (OpenSpec.ofChange fnExactListPlanWrong)

/-- 'laws.FnExactFrontCost': WHATEVER THE INPUT: true; the input reads as it did. -/
def fnExactFrontCostSpec : ChangeSpec := { name := "fnExactFrontCost", fn := fun _ => fun
  | [d1, d2] => { results := [.lit (.bool true)], args := [d1, d2] }
  | _ => none }
def fnExactFrontCostRow : OpenClaim := { program := "ytgiijkbgbpohoaa", sum := "0583bac9a0f601f591c01bfd3af200732a838e2a05c5eea83e38f4eeddc33981", func := "loop.example/g01346/laws.FnExactFrontCost", spec := "fnExactFrontCost", inPlace := ["slices.overlaps[int64]"], unfollowed := true, recurses := true, apart := false }
def FnExactFrontCostSaid : Prop := fnExactFrontCostRow.holds Try.pinned (OpenSpec.ofChange fnExactFrontCostSpec)

/-- ITS FALSE NEIGHBOUR: 'it returns false'. Refute it at one input. -/
def fnExactFrontCostWrong : ChangeSpec := { name := "fnExactFrontCost", fn := fun _ => fun
  | [d1, d2] => { results := [.lit (.bool false)], args := [d1, d2] }
  | _ => none }
def FnExactFrontCostWrongFalsely : Prop := fnExactFrontCostRow.holds Try.pinned (OpenSpec.ofChange fnExactFrontCostWrong)

/-- 'laws.FnExactPickAfter': WHATEVER THE INPUT: true; the input reads as it did. -/
def fnExactPickAfterSpec : ChangeSpec := { name := "fnExactPickAfter", fn := fun _ => fun
  | [d1, d2] => { results := [.lit (.bool true)], args := [d1, d2] }
  | _ => none }
def fnExactPickAfterRow : OpenClaim := { program := "ytgiijkbgbpohoaa", sum := "0583bac9a0f601f591c01bfd3af200732a838e2a05c5eea83e38f4eeddc33981", func := "loop.example/g01346/laws.FnExactPickAfter", spec := "fnExactPickAfter", unfollowed := true, recurses := true, apart := false }
def FnExactPickAfterSaid : Prop := fnExactPickAfterRow.holds Try.pinned (OpenSpec.ofChange fnExactPickAfterSpec)

/-- ITS FALSE NEIGHBOUR: 'it returns false'. Refute it at one input. -/
def fnExactPickAfterWrong : ChangeSpec := { name := "fnExactPickAfter", fn := fun _ => fun
  | [d1, d2] => { results := [.lit (.bool false)], args := [d1, d2] }
  | _ => none }
def FnExactPickAfterWrongFalsely : Prop := fnExactPickAfterRow.holds Try.pinned (OpenSpec.ofChange fnExactPickAfterWrong)

/-- 'laws.FnExactFaultsOf': WHATEVER THE INPUT: true; the input reads as it did. -/
def fnExactFaultsOfSpec : ChangeSpec := { name := "fnExactFaultsOf", fn := fun _ => fun
  | [d1, d2, d3] => { results := [.lit (.bool true)], args := [d1, d2, d3] }
  | _ => none }
def fnExactFaultsOfRow : OpenClaim := { program := "ytgiijkbgbpohoaa", sum := "0583bac9a0f601f591c01bfd3af200732a838e2a05c5eea83e38f4eeddc33981", func := "loop.example/g01346/laws.FnExactFaultsOf", spec := "fnExactFaultsOf", unfollowed := true, recurses := true, apart := false }
def FnExactFaultsOfSaid : Prop := fnExactFaultsOfRow.holds Try.pinned (OpenSpec.ofChange fnExactFaultsOfSpec)

/-- ITS FALSE NEIGHBOUR: 'it returns false'. Refute it at one input. -/
def fnExactFaultsOfWrong : ChangeSpec := { name := "fnExactFaultsOf", fn := fun _ => fun
  | [d1, d2, d3] => { results := [.lit (.bool false)], args := [d1, d2, d3] }
  | _ => none }
def FnExactFaultsOfWrongFalsely : Prop := fnExactFaultsOfRow.holds Try.pinned (OpenSpec.ofChange fnExactFaultsOfWrong)

/- THE SECOND FORM. 'bulk': how many values and letters a reading holds, each counted each time it is reached (what is shared counts as often as it is met; a slice's spare places count too). A statement '..UptoSaid' is the law's where the arguments, and the package variables that the reading takes, are together of bulk at most 1048576: NARROWER than '..Said'. Prove '..Said' where nothing that the law and all that it calls make is longer than what came in: it says more and counts as full. Else prove '..UptoSaid'. A law counts once. -/
mutual
def uptoBulk {H : Type} : DataW H → Nat
  | .lit (.string bytes) => bytes.length + 1
  | .lit _ => 1
  | .nil => 1
  | .ptr d => uptoBulk d + 1
  | .slice elems spare => uptoBulkAll elems + uptoBulkAll spare + 1
  | .agg parts => uptoBulkAll parts + 1
  | .iface _ d => uptoBulk d + 1
  | .map entries => uptoBulkEntries entries + 1
  | .held _ => 1
def uptoBulkAll {H : Type} : List (DataW H) → Nat
  | [] => 0
  | d :: r => uptoBulk d + uptoBulkAll r
def uptoBulkEntries {H : Type} : List (Lit × DataW H) → Nat
  | [] => 0
  | x :: r => uptoBulkEntry x + uptoBulkEntries r
def uptoBulkEntry {H : Type} : Lit × DataW H → Nat
  | (.string bytes, d) => bytes.length + uptoBulk d + 1
  | (_, d) => uptoBulk d + 1
 end
def uptoSmall : (H : Type) → List (DataW H) → Bool := fun _ ds => decide (uptoBulkAll ds ≤ 1048576)
def OpenSpec.upto (s : _root_.Go.ChangeSpec) : _root_.Go.OpenSpec := { _root_.Go.OpenSpec.ofChange s with cond := some uptoSmall }

/-- 'laws.FnExactAreJobs', WHERE WHAT IT READS IS OF BULK AT MOST 1048576: true; the input reads as it did. -/
def fnExactAreJobsUptoRow : OpenClaim := { program := "ytgiijkbgbpohoaa", sum := "0583bac9a0f601f591c01bfd3af200732a838e2a05c5eea83e38f4eeddc33981", func := "loop.example/g01346/laws.FnExactAreJobs", spec := "fnExactAreJobs", unfollowed := true, recurses := true, apart := false, narrowed := true }
def FnExactAreJobsUptoSaid : Prop := fnExactAreJobsUptoRow.holds Try.pinned (OpenSpec.upto fnExactAreJobsSpec)

/-- 'laws.FnExactEndsOf', WHERE WHAT IT READS IS OF BULK AT MOST 1048576: true; the input reads as it did. -/
def fnExactEndsOfUptoRow : OpenClaim := { program := "ytgiijkbgbpohoaa", sum := "0583bac9a0f601f591c01bfd3af200732a838e2a05c5eea83e38f4eeddc33981", func := "loop.example/g01346/laws.FnExactEndsOf", spec := "fnExactEndsOf", unfollowed := true, recurses := true, apart := false, narrowed := true }
def FnExactEndsOfUptoSaid : Prop := fnExactEndsOfUptoRow.holds Try.pinned (OpenSpec.upto fnExactEndsOfSpec)

/-- 'laws.FnExactWeightedEnds', WHERE WHAT IT READS IS OF BULK AT MOST 1048576: true; the input reads as it did. -/
def fnExactWeightedEndsUptoRow : OpenClaim := { program := "ytgiijkbgbpohoaa", sum := "0583bac9a0f601f591c01bfd3af200732a838e2a05c5eea83e38f4eeddc33981", func := "loop.example/g01346/laws.FnExactWeightedEnds", spec := "fnExactWeightedEnds", unfollowed := true, recurses := true, apart := false, narrowed := true }
def FnExactWeightedEndsUptoSaid : Prop := fnExactWeightedEndsUptoRow.holds Try.pinned (OpenSpec.upto fnExactWeightedEndsSpec)

/-- 'laws.FnExactMostLate', WHERE WHAT IT READS IS OF BULK AT MOST 1048576: true; the input reads as it did. -/
def fnExactMostLateUptoRow : OpenClaim := { program := "ytgiijkbgbpohoaa", sum := "0583bac9a0f601f591c01bfd3af200732a838e2a05c5eea83e38f4eeddc33981", func := "loop.example/g01346/laws.FnExactMostLate", spec := "fnExactMostLate", unfollowed := true, recurses := true, apart := false, narrowed := true }
def FnExactMostLateUptoSaid : Prop := fnExactMostLateUptoRow.holds Try.pinned (OpenSpec.upto fnExactMostLateSpec)

/-- 'laws.FnExactCountLate', WHERE WHAT IT READS IS OF BULK AT MOST 1048576: true; the input reads as it did. -/
def fnExactCountLateUptoRow : OpenClaim := { program := "ytgiijkbgbpohoaa", sum := "0583bac9a0f601f591c01bfd3af200732a838e2a05c5eea83e38f4eeddc33981", func := "loop.example/g01346/laws.FnExactCountLate", spec := "fnExactCountLate", unfollowed := true, recurses := true, apart := false, narrowed := true }
def FnExactCountLateUptoSaid : Prop := fnExactCountLateUptoRow.holds Try.pinned (OpenSpec.upto fnExactCountLateSpec)

/-- 'laws.FnExactHeadsBound', WHERE WHAT IT READS IS OF BULK AT MOST 1048576: true; the input reads as it did. -/
def fnExactHeadsBoundUptoRow : OpenClaim := { program := "ytgiijkbgbpohoaa", sum := "0583bac9a0f601f591c01bfd3af200732a838e2a05c5eea83e38f4eeddc33981", func := "loop.example/g01346/laws.FnExactHeadsBound", spec := "fnExactHeadsBound", unfollowed := true, recurses := true, apart := false, narrowed := true }
def FnExactHeadsBoundUptoSaid : Prop := fnExactHeadsBoundUptoRow.holds Try.pinned (OpenSpec.upto fnExactHeadsBoundSpec)

/-- 'laws.FnExactAreSpans', WHERE WHAT IT READS IS OF BULK AT MOST 1048576: true; the input reads as it did. -/
def fnExactAreSpansUptoRow : OpenClaim := { program := "ytgiijkbgbpohoaa", sum := "0583bac9a0f601f591c01bfd3af200732a838e2a05c5eea83e38f4eeddc33981", func := "loop.example/g01346/laws.FnExactAreSpans", spec := "fnExactAreSpans", unfollowed := true, recurses := true, apart := false, narrowed := true }
def FnExactAreSpansUptoSaid : Prop := fnExactAreSpansUptoRow.holds Try.pinned (OpenSpec.upto fnExactAreSpansSpec)

/-- 'laws.FnExactRentCost', WHERE WHAT IT READS IS OF BULK AT MOST 1048576: true; the input reads as it did. -/
def fnExactRentCostUptoRow : OpenClaim := { program := "ytgiijkbgbpohoaa", sum := "0583bac9a0f601f591c01bfd3af200732a838e2a05c5eea83e38f4eeddc33981", func := "loop.example/g01346/laws.FnExactRentCost", spec := "fnExactRentCost", apart := false, narrowed := true }
def FnExactRentCostUptoSaid : Prop := fnExactRentCostUptoRow.holds Try.pinned (OpenSpec.upto fnExactRentCostSpec)

/-- 'laws.FnExactListPlan', WHERE WHAT IT READS IS OF BULK AT MOST 1048576: true; the input reads as it did. -/
def fnExactListPlanUptoRow : OpenClaim := { program := "ytgiijkbgbpohoaa", sum := "0583bac9a0f601f591c01bfd3af200732a838e2a05c5eea83e38f4eeddc33981", func := "loop.example/g01346/laws.FnExactListPlan", spec := "fnExactListPlan", unfollowed := true, recurses := true, apart := false, narrowed := true }
def FnExactListPlanUptoSaid : Prop := fnExactListPlanUptoRow.holds Try.pinned (OpenSpec.upto fnExactListPlanSpec)

/-- 'laws.FnExactFrontCost', WHERE WHAT IT READS IS OF BULK AT MOST 1048576: true; the input reads as it did. -/
def fnExactFrontCostUptoRow : OpenClaim := { program := "ytgiijkbgbpohoaa", sum := "0583bac9a0f601f591c01bfd3af200732a838e2a05c5eea83e38f4eeddc33981", func := "loop.example/g01346/laws.FnExactFrontCost", spec := "fnExactFrontCost", inPlace := ["slices.overlaps[int64]"], unfollowed := true, recurses := true, apart := false, narrowed := true }
def FnExactFrontCostUptoSaid : Prop := fnExactFrontCostUptoRow.holds Try.pinned (OpenSpec.upto fnExactFrontCostSpec)

/-- 'laws.FnExactPickAfter', WHERE WHAT IT READS IS OF BULK AT MOST 1048576: true; the input reads as it did. -/
def fnExactPickAfterUptoRow : OpenClaim := { program := "ytgiijkbgbpohoaa", sum := "0583bac9a0f601f591c01bfd3af200732a838e2a05c5eea83e38f4eeddc33981", func := "loop.example/g01346/laws.FnExactPickAfter", spec := "fnExactPickAfter", unfollowed := true, recurses := true, apart := false, narrowed := true }
def FnExactPickAfterUptoSaid : Prop := fnExactPickAfterUptoRow.holds Try.pinned (OpenSpec.upto fnExactPickAfterSpec)

/-- 'laws.FnExactFaultsOf', WHERE WHAT IT READS IS OF BULK AT MOST 1048576: true; the input reads as it did. -/
def fnExactFaultsOfUptoRow : OpenClaim := { program := "ytgiijkbgbpohoaa", sum := "0583bac9a0f601f591c01bfd3af200732a838e2a05c5eea83e38f4eeddc33981", func := "loop.example/g01346/laws.FnExactFaultsOf", spec := "fnExactFaultsOf", unfollowed := true, recurses := true, apart := false, narrowed := true }
def FnExactFaultsOfUptoSaid : Prop := fnExactFaultsOfUptoRow.holds Try.pinned (OpenSpec.upto fnExactFaultsOfSpec)

end Rows
end Go.Proofs.Ytgiijkbgbpohoaa
