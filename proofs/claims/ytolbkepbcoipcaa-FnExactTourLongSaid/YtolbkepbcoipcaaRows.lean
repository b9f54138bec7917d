/-
  No cell of these rows narrows 'for every input' (looked for: loops, veiled, ifaces, maps, wideKeys, modest, calm, conditions, laid).
  DERIVED. THE GIVEN ROWS OF THIS SEAT. 9 by the template 'for every input the law returns true; each argument reads behind the call as it read before'; 0 by the template 'total and deterministic' (their statements: YtolbkepbcoipcaaTotals.lean).
  GIVEN WITH THE SEED: the statements are not yours to turn. If you find one false, say at which input.
  Laid BY PROGRAM, IN A SANDBOX (cutbox-rows.mjs): the forced cells as the released guide's own fill.sh prints them over the translation bf489e75c540b0d2… (all of the seat's roots in one cut). By AI agents, Wed Nov 11 2026. No macro, syntax, notation, axiom, sorry.
-/
import Derived.Test.YtolbkepbcoipcaaChecked
import GoSem.Claim
import GoSem.ClaimJoined
import GoSem.ClaimMapViews
import Derived.JoinedTies
import Derived.KernelRfl
namespace Go.Proofs.Ytolbkepbcoipcaa
/- THE CELL 'sum', in the pinned program and in every row, IS THE sha256 OF THE DUMP (.gsa) THAT YtolbkepbcoipcaaProg.lean LOADS. Nothing in Lean hashes anything: it is a label: what it is worth is what the hold of that sum in a sandbox is worth. -/
noncomputable def Try.pinned : Pinned := { name := "ytolbkepbcoipcaa", sum := "bf489e75c540b0d2e1b8a0289c77b98ba17f4522e7994e620e22d368aa93b6b4", checked := Try.checked }
namespace Rows
def none {H : Type} : Left H := { results := [], args := [] }

/-- 'laws.FnExactAreSizes': WHATEVER THE INPUT: true; the input reads as it did. -/
def fnExactAreSizesSpec : ChangeSpec := { name := "fnExactAreSizes", fn := fun _ => fun
  | [d] => { results := [.lit (.bool true)], args := [d] }
  | _ => none }
def fnExactAreSizesRow : OpenClaim := { program := "ytolbkepbcoipcaa", sum := "bf489e75c540b0d2e1b8a0289c77b98ba17f4522e7994e620e22d368aa93b6b4", func := "loop.example/g01346/laws.FnExactAreSizes", spec := "fnExactAreSizes", apart := false }
def FnExactAreSizesSaid : Prop := fnExactAreSizesRow.holds Try.pinned (OpenSpec.ofChange fnExactAreSizesSpec)

/-- ITS FALSE NEIGHBOUR: 'it returns false'. Refute it at one input. -/
def fnExactAreSizesWrong : ChangeSpec := { name := "fnExactAreSizes", fn := fun _ => fun
  | [d] => { results := [.lit (.bool false)], args := [d] }
  | _ => none }
def FnExactAreSizesWrongFalsely : Prop := fnExactAreSizesRow.holds Try.pinned (OpenSpec.ofChange fnExactAreSizesWrong)

/-- 'laws.FnExactAreSets': WHATEVER THE INPUT: true; the input reads as it did. -/
def fnExactAreSetsSpec : ChangeSpec := { name := "fnExactAreSets", fn := fun _ => fun
  | [d1, d2] => { results := [.lit (.bool true)], args := [d1, d2] }
  | _ => none }
def fnExactAreSetsRow : OpenClaim := { program := "ytolbkepbcoipcaa", sum := "bf489e75c540b0d2e1b8a0289c77b98ba17f4522e7994e620e22d368aa93b6b4", func := "loop.example/g01346/laws.FnExactAreSets", spec := "fnExactAreSets", apart := false }
def FnExactAreSetsSaid : Prop := fnExactAreSetsRow.holds Try.pinned (OpenSpec.ofChange fnExactAreSetsSpec)

/-- ITS FALSE NEIGHBOUR: 'it returns false'. Refute it at one input. -/
def fnExactAreSetsWrong : ChangeSpec := { name := "fnExactAreSets", fn := fun _ => fun
  | [d1, d2] => { results := [.lit (.bool false)], args := [d1, d2] }
  | _ => none }
def FnExactAreSetsWrongFalsely : Prop := fnExactAreSetsRow.holds Try.pinned (OpenSpec.ofChange fnExactAreSetsWrong)

/-- 'laws.FnExactWaysToFill': WHATEVER THE INPUT: true; the input reads as it did. -/
def fnExactWaysToFillSpec : ChangeSpec := { name := "fnExactWaysToFill", fn := fun _ => fun
  | [d1, d2] => { results := [.lit (.bool true)], args := [d1, d2] }
  | _ => none }
def fnExactWaysToFillRow : OpenClaim := { program := "ytolbkepbcoipcaa", sum := "bf489e75c540b0d2e1b8a0289c77b98ba17f4522e7994e620e22d368aa93b6b4", func := "loop.example/g01346/laws.FnExactWaysToFill", spec := "fnExactWaysToFill", apart := false }
def FnExactWaysToFillSaid : Prop := fnExactWaysToFillRow.holds Try.pinned (OpenSpec.ofChange fnExactWaysToFillSpec)

/-- ITS FALSE NEIGHBOUR: 'it returns false'. Refute it at one input. -/
def fnExactWaysToFillWrong : ChangeSpec := { name := "fnExactWaysToFill", fn := fun _ => fun
  | [d1, d2] => { results := [.lit (.bool false)], args := [d1, d2] }
  | _ => none }
def FnExactWaysToFillWrongFalsely : Prop := fnExactWaysToFillRow.holds Try.pinned (OpenSpec.ofChange fnExactWaysToFillWrong)

/-- 'laws.FnExactBestGains': WHATEVER THE INPUT: true; the input reads as it did. -/
def fnExactBestGainsSpec : ChangeSpec := { name := "fnExactBestGains", fn := fun _ => fun
  | [d1, d2, d3] => { results := [.lit (.bool true)], args := [d1, d2, d3] }
  | _ => none }
def fnExactBestGainsRow : OpenClaim := { program := "ytolbkepbcoipcaa", sum := "bf489e75c540b0d2e1b8a0289c77b98ba17f4522e7994e620e22d368aa93b6b4", func := "loop.example/g01346/laws.FnExactBestGains", spec := "fnExactBestGains", apart := false }
def FnExactBestGainsSaid : Prop := fnExactBestGainsRow.holds Try.pinned (OpenSpec.ofChange fnExactBestGainsSpec)

/-- ITS FALSE NEIGHBOUR: 'it returns false'. Refute it at one input. -/
def fnExactBestGainsWrong : ChangeSpec := { name := "fnExactBestGains", fn := fun _ => fun
  | [d1, d2, d3] => { results := [.lit (.bool false)], args := [d1, d2, d3] }
  | _ => none }
def FnExactBestGainsWrongFalsely : Prop := fnExactBestGainsRow.holds Try.pinned (OpenSpec.ofChange fnExactBestGainsWrong)

/-- 'laws.FnExactAreCities': WHATEVER THE INPUT: true; the input reads as it did. -/
def fnExactAreCitiesSpec : ChangeSpec := { name := "fnExactAreCities", fn := fun _ => fun
  | [d] => { results := [.lit (.bool true)], args := [d] }
  | _ => none }
def fnExactAreCitiesRow : OpenClaim := { program := "ytolbkepbcoipcaa", sum := "bf489e75c540b0d2e1b8a0289c77b98ba17f4522e7994e620e22d368aa93b6b4", func := "loop.example/g01346/laws.FnExactAreCities", spec := "fnExactAreCities", apart := false }
def FnExactAreCitiesSaid : Prop := fnExactAreCitiesRow.holds Try.pinned (OpenSpec.ofChange fnExactAreCitiesSpec)

/-- ITS FALSE NEIGHBOUR: 'it returns false'. Refute it at one input. -/
def fnExactAreCitiesWrong : ChangeSpec := { name := "fnExactAreCities", fn := fun _ => fun
  | [d] => { results := [.lit (.bool false)], args := [d] }
  | _ => none }
def FnExactAreCitiesWrongFalsely : Prop := fnExactAreCitiesRow.holds Try.pinned (OpenSpec.ofChange fnExactAreCitiesWrong)

/-- 'laws.FnExactTourLong': WHATEVER THE INPUT: true; the input reads as it did. -/
def fnExactTourLongSpec : ChangeSpec := { name := "fnExactTourLong", fn := fun _ => fun
  | [d1, d2] => { results := [.lit (.bool true)], args := [d1, d2] }
  | _ => none }
def fnExactTourLongRow : OpenClaim := { program := "ytolbkepbcoipcaa", sum := "bf489e75c540b0d2e1b8a0289c77b98ba17f4522e7994e620e22d368aa93b6b4", func := "loop.example/g01346/laws.FnExactTourLong", spec := "fnExactTourLong", recurses := true, apart := false }
def FnExactTourLongSaid : Prop := fnExactTourLongRow.holds Try.pinned (OpenSpec.ofChange fnExactTourLongSpec)

/-- ITS FALSE NEIGHBOUR: 'it returns false'. Refute it at one input. -/
def fnExactTourLongWrong : ChangeSpec := { name := "fnExactTourLong", fn := fun _ => fun
  | [d1, d2] => { results := [.lit (.bool false)], args := [d1, d2] }
  | _ => none }
def FnExactTourLongWrongFalsely : Prop := fnExactTourLongRow.holds Try.pinned (OpenSpec.ofChange fnExactTourLongWrong)

/-- 'laws.FnExactGreedyCover': WHATEVER THE INPUT: true; the input reads as it did. -/
def fnExactGreedyCoverSpec : ChangeSpec := { name := "fnExactGreedyCover", fn := fun _ => fun
  | [d1, d2] => { results := [.lit (.bool true)], args := [d1, d2] }
  | _ => none }
def fnExactGreedyCoverRow : OpenClaim := { program := "ytolbkepbcoipcaa", sum := "bf489e75c540b0d2e1b8a0289c77b98ba17f4522e7994e620e22d368aa93b6b4", func := "loop.example/g01346/laws.FnExactGreedyCover", spec := "fnExactGreedyCover", apart := false }
def FnExactGreedyCoverSaid : Prop := fnExactGreedyCoverRow.holds Try.pinned (OpenSpec.ofChange fnExactGreedyCoverSpec)

/-- ITS FALSE NEIGHBOUR: 'it returns false'. Refute it at one input. -/
def fnExactGreedyCoverWrong : ChangeSpec := { name := "fnExactGreedyCover", fn := fun _ => fun
  | [d1, d2] => { results := [.lit (.bool false)], args := [d1, d2] }
  | _ => none }
def FnExactGreedyCoverWrongFalsely : Prop := fnExactGreedyCoverRow.holds Try.pinned (OpenSpec.ofChange fnExactGreedyCoverWrong)

/-- 'laws.FnExactPackBound': WHATEVER THE INPUT: true; the input reads as it did. -/
def fnExactPackBoundSpec : ChangeSpec := { name := "fnExactPackBound", fn := fun _ => fun
  | [d1, d2, d3] => { results := [.lit (.bool true)], args := [d1, d2, d3] }
  | _ => none }
def fnExactPackBoundRow : OpenClaim := { program := "ytolbkepbcoipcaa", sum := "bf489e75c540b0d2e1b8a0289c77b98ba17f4522e7994e620e22d368aa93b6b4", func := "loop.example/g01346/laws.FnExactPackBound", spec := "fnExactPackBound", unfollowed := true, recurses := true, apart := false }
def FnExactPackBoundSaid : Prop := fnExactPackBoundRow.holds Try.pinned (OpenSpec.ofChange fnExactPackBoundSpec)

/-- ITS FALSE NEIGHBOUR: 'it returns false'. Refute it at one input. -/
def fnExactPackBoundWrong : ChangeSpec := { name := "fnExactPackBound", fn := fun _ => fun
  | [d1, d2, d3] => { results := [.lit (.bool false)], args := [d1, d2, d3] }
  | _ => none }
def FnExactPackBoundWrongFalsely : Prop := fnExactPackBoundRow.holds Try.pinned (OpenSpec.ofChange fnExactPackBoundWrong)

/-- 'laws.FnExactBestPack': WHATEVER THE INPUT: true; the input reads as it did. -/
def fnExactBestPackSpec : ChangeSpec := { name := "fnExactBestPack", fn := fun _ => fun
  | [d1, d2, d3] => { results := [.lit (.bool true)], args := [d1, d2, d3] }
  | _ => none }
def fnExactBestPackRow : OpenClaim := { program := "ytolbkepbcoipcaa", sum := "bf489e75c540b0d2e1b8a0289c77b98ba17f4522e7994e620e22d368aa93b6b4", func := "loop.example/g01346/laws.FnExactBestPack", spec := "fnExactBestPack", apart := false }
def FnExactBestPackSaid : Prop := fnExactBestPackRow.holds Try.pinned (OpenSpec.ofChange fnExactBestPackSpec)

/-- ITS FALSE NEIGHBOUR: 'it returns false'. Refute it at one input. -/
def fnExactBestPackWrong : ChangeSpec := { name := "fnExactBestPack", fn := fun _ => fun
  | [d1, d2, d3] => { results := [.lit (.bool false)], args := [d1, d2, d3] }
  | _ => none }
def FnExactBestPackWrongFalsely : Prop := fnExactBestPackRow.holds Try.pinned (OpenSpec.ofChange fnExactBestPackWrong)

/- THE SECOND FORM. 'bulk': how many values and letters a reading holds, each counted each time it is reached (what is shared counts as often as it is met; a slice's spare places count too). A statement '..UptoSaid' is the law's where the arguments, and the package variables that the reading takes, are together of bulk at most 1048576: NARROWER than '..Said'. Prove '..Said' where nothing that the law and all that it calls make is longer than what came in: it says more and counts as full. Else prove '..UptoSaid'. A law counts once. -/
mutual
def uptoBulk {H : Type} : DataW H → Nat
  | .lit (.string bytes) => bytes.length + 1
  | .lit _ => 1
  | .nil => 1
  | .ptr d => uptoBulk d + 1
  | .slice elems spare => uptoBulkAll elems + uptoBulkAll spare + 1
  | .agg parts => uptoBulkAll parts + 1
  | .iface _ d => uptoBulk d + 1
  | .map entries => uptoBulkEntries entries + 1
  | .held _ => 1
def uptoBulkAll {H : Type} : List (DataW H) → Nat
  | [] => 0
  | d :: r => uptoBulk d + uptoBulkAll r
def uptoBulkEntries {H : Type} : List (Lit × DataW H) → Nat
  | [] => 0
  | x :: r => uptoBulkEntry x + uptoBulkEntries r
def uptoBulkEntry {H : Type} : Lit × DataW H → Nat
  | (.string bytes, d) => bytes.length + uptoBulk d + 1
  | (_, d) => uptoBulk d + 1
 end
def uptoSmall : (H : Type) → List (DataW H) → Bool := fun _ ds => decide (uptoBulkAll ds ≤ 1048576)
def OpenSpec.upto (s : _root_.Go.ChangeSpec) : _root_.Go.OpenSpec := { _root_.Go.OpenSpec.ofChange s with cond := some uptoSmall }

/-- 'laws.FnExactAreSizes', WHERE WHAT IT READS IS OF BULK AT MOST 1048576: true; the input reads as it did. -/
def fnExactAreSizesUptoRow : OpenClaim := { program := "ytolbkepbcoipcaa", sum := "bf489e75c540b0d2e1b8a0289c77b98ba17f4522e7994e620e22d368aa93b6b4", func := "loop.example/g01346/laws.FnExactAreSizes", spec := "fnExactAreSizes", apart := false, narrowed := true }
def FnExactAreSizesUptoSaid : Prop := fnExactAreSizesUptoRow.holds Try.pinned (OpenSpec.upto fnExactAreSizesSpec)

/-- 'laws.FnExactAreSets', WHERE WHAT IT READS IS OF BULK AT MOST 1048576: true; the input reads as it did. -/
def fnExactAreSetsUptoRow : OpenClaim := { program := "ytolbkepbcoipcaa", sum := "bf489e75c540b0d2e1b8a0289c77b98ba17f4522e7994e620e22d368aa93b6b4", func := "loop.example/g01346/laws.FnExactAreSets", spec := "fnExactAreSets", apart := false, narrowed := true }
def FnExactAreSetsUptoSaid : Prop := fnExactAreSetsUptoRow.holds Try.pinned (OpenSpec.upto fnExactAreSetsSpec)

/-- 'laws.FnExactWaysToFill', WHERE WHAT IT READS IS OF BULK AT MOST 1048576: true; the input reads as it did. -/
def fnExactWaysToFillUptoRow : OpenClaim := { program := "ytolbkepbcoipcaa", sum := "bf489e75c540b0d2e1b8a0289c77b98ba17f4522e7994e620e22d368aa93b6b4", func := "loop.example/g01346/laws.FnExactWaysToFill", spec := "fnExactWaysToFill", apart := false, narrowed := true }
def FnExactWaysToFillUptoSaid : Prop := fnExactWaysToFillUptoRow.holds Try.pinned (OpenSpec.upto fnExactWaysToFillSpec)

/-- 'laws.FnExactBestGains', WHERE WHAT IT READS IS OF BULK AT MOST 1048576: true; the input reads as it did. -/
def fnExactBestGainsUptoRow : OpenClaim := { program := "ytolbkepbcoipcaa", sum := "bf489e75c540b0d2e1b8a0289c77b98ba17f4522e7994e620e22d368aa93b6b4", func := "loop.example/g01346/laws.FnExactBestGains", spec := "fnExactBestGains", apart := false, narrowed := true }
def FnExactBestGainsUptoSaid : Prop := fnExactBestGainsUptoRow.holds Try.pinned (OpenSpec.upto fnExactBestGainsSpec)

/-- 'laws.FnExactAreCities', WHERE WHAT IT READS IS OF BULK AT MOST 1048576: true; the input reads as it did. -/
def fnExactAreCitiesUptoRow : OpenClaim := { program := "ytolbkepbcoipcaa", sum := "bf489e75c540b0d2e1b8a0289c77b98ba17f4522e7994e620e22d368aa93b6b4", func := "loop.example/g01346/laws.FnExactAreCities", spec := "fnExactAreCities", apart := false, narrowed := true }
def FnExactAreCitiesUptoSaid : Prop := fnExactAreCitiesUptoRow.holds Try.pinned (OpenSpec.upto fnExactAreCitiesSpec)

/-- 'laws.FnExactTourLong', WHERE WHAT IT READS IS OF BULK AT MOST 1048576: true; the input reads as it did. -/
def fnExactTourLongUptoRow : OpenClaim := { program := "ytolbkepbcoipcaa", sum := "bf489e75c540b0d2e1b8a0289c77b98ba17f4522e7994e620e22d368aa93b6b4", func := "loop.example/g01346/laws.FnExactTourLong", spec := "fnExactTourLong", recurses := true, apart := false, narrowed := true }
def FnExactTourLongUptoSaid : Prop := fnExactTourLongUptoRow.holds Try.pinned (OpenSpec.upto fnExactTourLongSpec)

/-- 'laws.FnExactGreedyCover', WHERE WHAT IT READS IS OF BULK AT MOST 1048576: true; the input reads as it did. -/
def fnExactGreedyCoverUptoRow : OpenClaim := { program := "ytolbkepbcoipcaa", sum := "bf489e75c540b0d2e1b8a0289c77b98ba17f4522e7994e620e22d368aa93b6b4", func := "loop.example/g01346/laws.FnExactGreedyCover", spec := "fnExactGreedyCover", apart := false, narrowed := true }
def FnExactGreedyCoverUptoSaid : Prop := fnExactGreedyCoverUptoRow.holds Try.pinned (OpenSpec.upto fnExactGreedyCoverSpec)

/-- 'laws.FnExactPackBound', WHERE WHAT IT READS IS OF BULK AT MOST 1048576: true; the input reads as it did. -/
def fnExactPackBoundUptoRow : OpenClaim := { program := "ytolbkepbcoipcaa", sum := "bf489e75c540b0d2e1b8a0289c77b98ba17f4522e7994e620e22d368aa93b6b4", func := "loop.example/g01346/laws.FnExactPackBound", spec := "fnExactPackBound", unfollowed := true, recurses := true, apart := false, narrowed := true }
def FnExactPackBoundUptoSaid : Prop := fnExactPackBoundUptoRow.holds Try.pinned (OpenSpec.upto fnExactPackBoundSpec)

/-- 'laws.FnExactBestPack', WHERE WHAT IT READS IS OF BULK AT MOST 1048576: true; the input reads as it did. -/
def fnExactBestPackUptoRow : OpenClaim := { program := "ytolbkepbcoipcaa", sum := "bf489e75c540b0d2e1b8a0289c77b98ba17f4522e7994e620e22d368aa93b6b4", func := "loop.example/g01346/laws.FnExactBestPack", spec := "fnExactBestPack", apart := false, narrowed := true }
def FnExactBestPackUptoSaid : Prop := fnExactBestPackUptoRow.holds Try.pinned (OpenSpec.upto fnExactBestPackSpec)

end Rows
end Go.Proofs.Ytolbkepbcoipcaa
