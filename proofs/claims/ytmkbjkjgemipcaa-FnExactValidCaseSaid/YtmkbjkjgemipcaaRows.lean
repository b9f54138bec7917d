/-
  No cell of these rows narrows 'for every input' (looked for: loops, veiled, ifaces, maps, wideKeys, modest, calm, conditions, laid).
  DERIVED. THE GIVEN ROWS OF THIS SEAT. 11 by the template 'for every input the law returns true; each argument reads behind the call as it read before'; 0 by the template 'total and deterministic' (their statements: YtmkbjkjgemipcaaTotals.lean).
  GIVEN WITH THE SEED: the statements are not yours to turn. If you find one false, say at which input.
  Laid BY PROGRAM, IN A SANDBOX (cutbox-rows.mjs): the forced cells as the released guide's own fill.sh prints them over the translation 4215750b7a22472d… (all of the seat's roots in one cut). By AI agents, Wed Nov 11 2026. No macro, syntax, notation, axiom, sorry.
-/
import Derived.Test.YtmkbjkjgemipcaaChecked
import GoSem.Claim
import GoSem.ClaimJoined
import GoSem.ClaimMapViews
import Derived.JoinedTies
import Derived.KernelRfl
namespace Go.Proofs.Ytmkbjkjgemipcaa
/- THE CELL 'sum', in the pinned program and in every row, IS THE sha256 OF THE DUMP (.gsa) THAT YtmkbjkjgemipcaaProg.lean LOADS. Nothing in Lean hashes anything: it is a label: what it is worth is what the hold of that sum in a sandbox is worth. -/
noncomputable def Try.pinned : Pinned := { name := "ytmkbjkjgemipcaa", sum := "4215750b7a22472d2242fa1a9b4941b40b985a0cb67a771e7e6413ad9611fd47", checked := Try.checked }
namespace Rows
def none {H : Type} : Left H := { results := [], args := [] }

/-- 'laws.FnExactAreDomains': WHATEVER THE INPUT: true; the input reads as it did. -/
def fnExactAreDomainsSpec : ChangeSpec := { name := "fnExactAreDomains", fn := fun _ => fun
  | [d] => { results := [.lit (.bool true)], args := [d] }
  | _ => none }
def fnExactAreDomainsRow : OpenClaim := { program := "ytmkbjkjgemipcaa", sum := "4215750b7a22472d2242fa1a9b4941b40b985a0cb67a771e7e6413ad9611fd47", func := "loop.example/g01346/laws.FnExactAreDomains", spec := "fnExactAreDomains", unfollowed := true, recurses := true, apart := false }
def FnExactAreDomainsSaid : Prop := fnExactAreDomainsRow.holds Try.pinned (OpenSpec.ofChange fnExactAreDomainsSpec)

/-- ITS FALSE NEIGHBOUR: 'it returns false'. Refute it at one input. -/
def fnExactAreDomainsWrong : ChangeSpec := { name := "fnExactAreDomains", fn := fun _ => fun
  | [d] => { results := [.lit (.bool false)], args := [d] }
  | _ => none }
def FnExactAreDomainsWrongFalsely : Prop := fnExactAreDomainsRow.holds Try.pinned (OpenSpec.ofChange fnExactAreDomainsWrong)

/-- 'laws.FnExactValidTree': WHATEVER THE INPUT: true; the input reads as it did. -/
def fnExactValidTreeSpec : ChangeSpec := { name := "fnExactValidTree", fn := fun _ => fun
  | [d] => { results := [.lit (.bool true)], args := [d] }
  | _ => none }
def fnExactValidTreeRow : OpenClaim := { program := "ytmkbjkjgemipcaa", sum := "4215750b7a22472d2242fa1a9b4941b40b985a0cb67a771e7e6413ad9611fd47", func := "loop.example/g01346/laws.FnExactValidTree", spec := "fnExactValidTree", apart := false }
def FnExactValidTreeSaid : Prop := fnExactValidTreeRow.holds Try.pinned (OpenSpec.ofChange fnExactValidTreeSpec)

/-- ITS FALSE NEIGHBOUR: 'it returns false'. Refute it at one input. -/
def fnExactValidTreeWrong : ChangeSpec := { name := "fnExactValidTree", fn := fun _ => fun
  | [d] => { results := [.lit (.bool false)], args := [d] }
  | _ => none }
def FnExactValidTreeWrongFalsely : Prop := fnExactValidTreeRow.holds Try.pinned (OpenSpec.ofChange fnExactValidTreeWrong)

/-- 'laws.FnExactSameTree': WHATEVER THE INPUT: true; the input reads as it did. -/
def fnExactSameTreeSpec : ChangeSpec := { name := "fnExactSameTree", fn := fun _ => fun
  | [d1, d2] => { results := [.lit (.bool true)], args := [d1, d2] }
  | _ => none }
def fnExactSameTreeRow : OpenClaim := { program := "ytmkbjkjgemipcaa", sum := "4215750b7a22472d2242fa1a9b4941b40b985a0cb67a771e7e6413ad9611fd47", func := "loop.example/g01346/laws.FnExactSameTree", spec := "fnExactSameTree", apart := false }
def FnExactSameTreeSaid : Prop := fnExactSameTreeRow.holds Try.pinned (OpenSpec.ofChange fnExactSameTreeSpec)

/-- ITS FALSE NEIGHBOUR: 'it returns false'. Refute it at one input. -/
def fnExactSameTreeWrong : ChangeSpec := { name := "fnExactSameTree", fn := fun _ => fun
  | [d1, d2] => { results := [.lit (.bool false)], args := [d1, d2] }
  | _ => none }
def FnExactSameTreeWrongFalsely : Prop := fnExactSameTreeRow.holds Try.pinned (OpenSpec.ofChange fnExactSameTreeWrong)

/-- 'laws.FnExactLeavesOf': WHATEVER THE INPUT: true; the input reads as it did. -/
def fnExactLeavesOfSpec : ChangeSpec := { name := "fnExactLeavesOf", fn := fun _ => fun
  | [d] => { results := [.lit (.bool true)], args := [d] }
  | _ => none }
def fnExactLeavesOfRow : OpenClaim := { program := "ytmkbjkjgemipcaa", sum := "4215750b7a22472d2242fa1a9b4941b40b985a0cb67a771e7e6413ad9611fd47", func := "loop.example/g01346/laws.FnExactLeavesOf", spec := "fnExactLeavesOf", apart := false }
def FnExactLeavesOfSaid : Prop := fnExactLeavesOfRow.holds Try.pinned (OpenSpec.ofChange fnExactLeavesOfSpec)

/-- ITS FALSE NEIGHBOUR: 'it returns false'. Refute it at one input. -/
def fnExactLeavesOfWrong : ChangeSpec := { name := "fnExactLeavesOf", fn := fun _ => fun
  | [d] => { results := [.lit (.bool false)], args := [d] }
  | _ => none }
def FnExactLeavesOfWrongFalsely : Prop := fnExactLeavesOfRow.holds Try.pinned (OpenSpec.ofChange fnExactLeavesOfWrong)

/-- 'laws.FnExactBestOfTree': WHATEVER THE INPUT: true; the input reads as it did. -/
def fnExactBestOfTreeSpec : ChangeSpec := { name := "fnExactBestOfTree", fn := fun _ => fun
  | [d] => { results := [.lit (.bool true)], args := [d] }
  | _ => none }
def fnExactBestOfTreeRow : OpenClaim := { program := "ytmkbjkjgemipcaa", sum := "4215750b7a22472d2242fa1a9b4941b40b985a0cb67a771e7e6413ad9611fd47", func := "loop.example/g01346/laws.FnExactBestOfTree", spec := "fnExactBestOfTree", unfollowed := true, recurses := true, apart := false }
def FnExactBestOfTreeSaid : Prop := fnExactBestOfTreeRow.holds Try.pinned (OpenSpec.ofChange fnExactBestOfTreeSpec)

/-- ITS FALSE NEIGHBOUR: 'it returns false'. Refute it at one input. -/
def fnExactBestOfTreeWrong : ChangeSpec := { name := "fnExactBestOfTree", fn := fun _ => fun
  | [d] => { results := [.lit (.bool false)], args := [d] }
  | _ => none }
def FnExactBestOfTreeWrongFalsely : Prop := fnExactBestOfTreeRow.holds Try.pinned (OpenSpec.ofChange fnExactBestOfTreeWrong)

/-- 'laws.FnExactLooksOf': WHATEVER THE INPUT: true; the input reads as it did. -/
def fnExactLooksOfSpec : ChangeSpec := { name := "fnExactLooksOf", fn := fun _ => fun
  | [d] => { results := [.lit (.bool true)], args := [d] }
  | _ => none }
def fnExactLooksOfRow : OpenClaim := { program := "ytmkbjkjgemipcaa", sum := "4215750b7a22472d2242fa1a9b4941b40b985a0cb67a771e7e6413ad9611fd47", func := "loop.example/g01346/laws.FnExactLooksOf", spec := "fnExactLooksOf", unfollowed := true, recurses := true, apart := false }
def FnExactLooksOfSaid : Prop := fnExactLooksOfRow.holds Try.pinned (OpenSpec.ofChange fnExactLooksOfSpec)

/-- ITS FALSE NEIGHBOUR: 'it returns false'. Refute it at one input. -/
def fnExactLooksOfWrong : ChangeSpec := { name := "fnExactLooksOf", fn := fun _ => fun
  | [d] => { results := [.lit (.bool false)], args := [d] }
  | _ => none }
def FnExactLooksOfWrongFalsely : Prop := fnExactLooksOfRow.holds Try.pinned (OpenSpec.ofChange fnExactLooksOfWrong)

/-- 'laws.FnExactRoundedPlan': WHATEVER THE INPUT: true; the input reads as it did. -/
def fnExactRoundedPlanSpec : ChangeSpec := { name := "fnExactRoundedPlan", fn := fun _ => fun
  | [d1, d2] => { results := [.lit (.bool true)], args := [d1, d2] }
  | _ => none }
def fnExactRoundedPlanRow : OpenClaim := { program := "ytmkbjkjgemipcaa", sum := "4215750b7a22472d2242fa1a9b4941b40b985a0cb67a771e7e6413ad9611fd47", func := "loop.example/g01346/laws.FnExactRoundedPlan", spec := "fnExactRoundedPlan", inPlace := ["math.Float64bits", "math.Float64frombits"], apart := false }
def FnExactRoundedPlanSaid : Prop := fnExactRoundedPlanRow.holds Try.pinned (OpenSpec.ofChange fnExactRoundedPlanSpec)

/-- ITS FALSE NEIGHBOUR: 'it returns false'. Refute it at one input. -/
def fnExactRoundedPlanWrong : ChangeSpec := { name := "fnExactRoundedPlan", fn := fun _ => fun
  | [d1, d2] => { results := [.lit (.bool false)], args := [d1, d2] }
  | _ => none }
def FnExactRoundedPlanWrongFalsely : Prop := fnExactRoundedPlanRow.holds Try.pinned (OpenSpec.ofChange fnExactRoundedPlanWrong)

/-- 'laws.FnExactValidCase': WHATEVER THE INPUT: true; the input reads as it did. -/
def fnExactValidCaseSpec : ChangeSpec := { name := "fnExactValidCase", fn := fun _ => fun
  | [d] => { results := [.lit (.bool true)], args := [d] }
  | _ => none }
def fnExactValidCaseRow : OpenClaim := { program := "ytmkbjkjgemipcaa", sum := "4215750b7a22472d2242fa1a9b4941b40b985a0cb67a771e7e6413ad9611fd47", func := "loop.example/g01346/laws.FnExactValidCase", spec := "fnExactValidCase", unfollowed := true, recurses := true, apart := false }
def FnExactValidCaseSaid : Prop := fnExactValidCaseRow.holds Try.pinned (OpenSpec.ofChange fnExactValidCaseSpec)

/-- ITS FALSE NEIGHBOUR: 'it returns false'. Refute it at one input. -/
def fnExactValidCaseWrong : ChangeSpec := { name := "fnExactValidCase", fn := fun _ => fun
  | [d] => { results := [.lit (.bool false)], args := [d] }
  | _ => none }
def FnExactValidCaseWrongFalsely : Prop := fnExactValidCaseRow.holds Try.pinned (OpenSpec.ofChange fnExactValidCaseWrong)

/-- 'laws.FnExactSameCases': WHATEVER THE INPUT: true; the input reads as it did. -/
def fnExactSameCasesSpec : ChangeSpec := { name := "fnExactSameCases", fn := fun _ => fun
  | [d1, d2] => { results := [.lit (.bool true)], args := [d1, d2] }
  | _ => none }
def fnExactSameCasesRow : OpenClaim := { program := "ytmkbjkjgemipcaa", sum := "4215750b7a22472d2242fa1a9b4941b40b985a0cb67a771e7e6413ad9611fd47", func := "loop.example/g01346/laws.FnExactSameCases", spec := "fnExactSameCases", unfollowed := true, recurses := true, apart := false }
def FnExactSameCasesSaid : Prop := fnExactSameCasesRow.holds Try.pinned (OpenSpec.ofChange fnExactSameCasesSpec)

/-- ITS FALSE NEIGHBOUR: 'it returns false'. Refute it at one input. -/
def fnExactSameCasesWrong : ChangeSpec := { name := "fnExactSameCases", fn := fun _ => fun
  | [d1, d2] => { results := [.lit (.bool false)], args := [d1, d2] }
  | _ => none }
def FnExactSameCasesWrongFalsely : Prop := fnExactSameCasesRow.holds Try.pinned (OpenSpec.ofChange fnExactSameCasesWrong)

/-- 'laws.FnExactStoreCase': WHATEVER THE INPUT: true; the input reads as it did. -/
def fnExactStoreCaseSpec : ChangeSpec := { name := "fnExactStoreCase", fn := fun _ => fun
  | [d] => { results := [.lit (.bool true)], args := [d] }
  | _ => none }
def fnExactStoreCaseRow : OpenClaim := { program := "ytmkbjkjgemipcaa", sum := "4215750b7a22472d2242fa1a9b4941b40b985a0cb67a771e7e6413ad9611fd47", func := "loop.example/g01346/laws.FnExactStoreCase", spec := "fnExactStoreCase", unfollowed := true, recurses := true, apart := false }
def FnExactStoreCaseSaid : Prop := fnExactStoreCaseRow.holds Try.pinned (OpenSpec.ofChange fnExactStoreCaseSpec)

/-- ITS FALSE NEIGHBOUR: 'it returns false'. Refute it at one input. -/
def fnExactStoreCaseWrong : ChangeSpec := { name := "fnExactStoreCase", fn := fun _ => fun
  | [d] => { results := [.lit (.bool false)], args := [d] }
  | _ => none }
def FnExactStoreCaseWrongFalsely : Prop := fnExactStoreCaseRow.holds Try.pinned (OpenSpec.ofChange fnExactStoreCaseWrong)

/-- 'laws.FnExactFaultsOf': WHATEVER THE INPUT: true; the input reads as it did. -/
def fnExactFaultsOfSpec : ChangeSpec := { name := "fnExactFaultsOf", fn := fun _ => fun
  | [d1, d2, d3] => { results := [.lit (.bool true)], args := [d1, d2, d3] }
  | _ => none }
def fnExactFaultsOfRow : OpenClaim := { program := "ytmkbjkjgemipcaa", sum := "4215750b7a22472d2242fa1a9b4941b40b985a0cb67a771e7e6413ad9611fd47", func := "loop.example/g01346/laws.FnExactFaultsOf", spec := "fnExactFaultsOf", unfollowed := true, recurses := true, apart := false }
def FnExactFaultsOfSaid : Prop := fnExactFaultsOfRow.holds Try.pinned (OpenSpec.ofChange fnExactFaultsOfSpec)

/-- ITS FALSE NEIGHBOUR: 'it returns false'. Refute it at one input. -/
def fnExactFaultsOfWrong : ChangeSpec := { name := "fnExactFaultsOf", fn := fun _ => fun
  | [d1, d2, d3] => { results := [.lit (.bool false)], args := [d1, d2, d3] }
  | _ => none }
def FnExactFaultsOfWrongFalsely : Prop := fnExactFaultsOfRow.holds Try.pinned (OpenSpec.ofChange fnExactFaultsOfWrong)

/- THE SECOND FORM. 'bulk': how many values and letters a reading holds, each counted each time it is reached (what is shared counts as often as it is met; a slice's spare places count too). A statement '..UptoSaid' is the law's where the arguments, and the package variables that the reading takes, are together of bulk at most 1048576: NARROWER than '..Said'. Prove '..Said' where nothing that the law and all that it calls make is longer than what came in: it says more and counts as full. Else prove '..UptoSaid'. A law counts once. -/
mutual
def uptoBulk {H : Type} : DataW H → Nat
  | .lit (.string bytes) => bytes.length + 1
  | .lit _ => 1
  | .nil => 1
  | .ptr d => uptoBulk d + 1
  | .slice elems spare => uptoBulkAll elems + uptoBulkAll spare + 1
  | .agg parts => uptoBulkAll parts + 1
  | .iface _ d => uptoBulk d + 1
  | .map entries => uptoBulkEntries entries + 1
  | .held _ => 1
def uptoBulkAll {H : Type} : List (DataW H) → Nat
  | [] => 0
  | d :: r => uptoBulk d + uptoBulkAll r
def uptoBulkEntries {H : Type} : List (Lit × DataW H) → Nat
  | [] => 0
  | x :: r => uptoBulkEntry x + uptoBulkEntries r
def uptoBulkEntry {H : Type} : Lit × DataW H → Nat
  | (.string bytes, d) => bytes.length + uptoBulk d + 1
  | (_, d) => uptoBulk d + 1
 end
def uptoSmall : (H : Type) → List (DataW H) → Bool := fun _ ds => decide (uptoBulkAll ds ≤ 1048576)
def OpenSpec.upto (s : _root_.Go.ChangeSpec) : _root_.Go.OpenSpec := { _root_.Go.OpenSpec.ofChange s with cond := some uptoSmall }

/-- 'laws.FnExactAreDomains', WHERE WHAT IT READS IS OF BULK AT MOST 1048576: true; the input reads as it did. -/
def fnExactAreDomainsUptoRow : OpenClaim := { program := "ytmkbjkjgemipcaa", sum := "4215750b7a22472d2242fa1a9b4941b40b985a0cb67a771e7e6413ad9611fd47", func := "loop.example/g01346/laws.FnExactAreDomains", spec := "fnExactAreDomains", unfollowed := true, recurses := true, apart := false, narrowed := true }
def FnExactAreDomainsUptoSaid : Prop := fnExactAreDomainsUptoRow.holds Try.pinned (OpenSpec.upto fnExactAreDomainsSpec)

/-- 'laws.FnExactValidTree', WHERE WHAT IT READS IS OF BULK AT MOST 1048576: true; the input reads as it did. -/
def fnExactValidTreeUptoRow : OpenClaim := { program := "ytmkbjkjgemipcaa", sum := "4215750b7a22472d2242fa1a9b4941b40b985a0cb67a771e7e6413ad9611fd47", func := "loop.example/g01346/laws.FnExactValidTree", spec := "fnExactValidTree", apart := false, narrowed := true }
def FnExactValidTreeUptoSaid : Prop := fnExactValidTreeUptoRow.holds Try.pinned (OpenSpec.upto fnExactValidTreeSpec)

/-- 'laws.FnExactSameTree', WHERE WHAT IT READS IS OF BULK AT MOST 1048576: true; the input reads as it did. -/
def fnExactSameTreeUptoRow : OpenClaim := { program := "ytmkbjkjgemipcaa", sum := "4215750b7a22472d2242fa1a9b4941b40b985a0cb67a771e7e6413ad9611fd47", func := "loop.example/g01346/laws.FnExactSameTree", spec := "fnExactSameTree", apart := false, narrowed := true }
def FnExactSameTreeUptoSaid : Prop := fnExactSameTreeUptoRow.holds Try.pinned (OpenSpec.upto fnExactSameTreeSpec)

/-- 'laws.FnExactLeavesOf', WHERE WHAT IT READS IS OF BULK AT MOST 1048576: true; the input reads as it did. -/
def fnExactLeavesOfUptoRow : OpenClaim := { program := "ytmkbjkjgemipcaa", sum := "4215750b7a22472d2242fa1a9b4941b40b985a0cb67a771e7e6413ad9611fd47", func := "loop.example/g01346/laws.FnExactLeavesOf", spec := "fnExactLeavesOf", apart := false, narrowed := true }
def FnExactLeavesOfUptoSaid : Prop := fnExactLeavesOfUptoRow.holds Try.pinned (OpenSpec.upto fnExactLeavesOfSpec)

/-- 'laws.FnExactBestOfTree', WHERE WHAT IT READS IS OF BULK AT MOST 1048576: true; the input reads as it did. -/
def fnExactBestOfTreeUptoRow : OpenClaim := { program := "ytmkbjkjgemipcaa", sum := "4215750b7a22472d2242fa1a9b4941b40b985a0cb67a771e7e6413ad9611fd47", func := "loop.example/g01346/laws.FnExactBestOfTree", spec := "fnExactBestOfTree", unfollowed := true, recurses := true, apart := false, narrowed := true }
def FnExactBestOfTreeUptoSaid : Prop := fnExactBestOfTreeUptoRow.holds Try.pinned (OpenSpec.upto fnExactBestOfTreeSpec)

/-- 'laws.FnExactLooksOf', WHERE WHAT IT READS IS OF BULK AT MOST 1048576: true; the input reads as it did. -/
def fnExactLooksOfUptoRow : OpenClaim := { program := "ytmkbjkjgemipcaa", sum := "4215750b7a22472d2242fa1a9b4941b40b985a0cb67a771e7e6413ad9611fd47", func := "loop.example/g01346/laws.FnExactLooksOf", spec := "fnExactLooksOf", unfollowed := true, recurses := true, apart := false, narrowed := true }
def FnExactLooksOfUptoSaid : Prop := fnExactLooksOfUptoRow.holds Try.pinned (OpenSpec.upto fnExactLooksOfSpec)

/-- 'laws.FnExactRoundedPlan', WHERE WHAT IT READS IS OF BULK AT MOST 1048576: true; the input reads as it did. -/
def fnExactRoundedPlanUptoRow : OpenClaim := { program := "ytmkbjkjgemipcaa", sum := "4215750b7a22472d2242fa1a9b4941b40b985a0cb67a771e7e6413ad9611fd47", func := "loop.example/g01346/laws.FnExactRoundedPlan", spec := "fnExactRoundedPlan", inPlace := ["math.Float64bits", "math.Float64frombits"], apart := false, narrowed := true }
def FnExactRoundedPlanUptoSaid : Prop := fnExactRoundedPlanUptoRow.holds Try.pinned (OpenSpec.upto fnExactRoundedPlanSpec)

/-- 'laws.FnExactValidCase', WHERE WHAT IT READS IS OF BULK AT MOST 1048576: true; the input reads as it did. -/
def fnExactValidCaseUptoRow : OpenClaim := { program := "ytmkbjkjgemipcaa", sum := "4215750b7a22472d2242fa1a9b4941b40b985a0cb67a771e7e6413ad9611fd47", func := "loop.example/g01346/laws.FnExactValidCase", spec := "fnExactValidCase", unfollowed := true, recurses := true, apart := false, narrowed := true }
def FnExactValidCaseUptoSaid : Prop := fnExactValidCaseUptoRow.holds Try.pinned (OpenSpec.upto fnExactValidCaseSpec)

/-- 'laws.FnExactSameCases', WHERE WHAT IT READS IS OF BULK AT MOST 1048576: true; the input reads as it did. -/
def fnExactSameCasesUptoRow : OpenClaim := { program := "ytmkbjkjgemipcaa", sum := "4215750b7a22472d2242fa1a9b4941b40b985a0cb67a771e7e6413ad9611fd47", func := "loop.example/g01346/laws.FnExactSameCases", spec := "fnExactSameCases", unfollowed := true, recurses := true, apart := false, narrowed := true }
def FnExactSameCasesUptoSaid : Prop := fnExactSameCasesUptoRow.holds Try.pinned (OpenSpec.upto fnExactSameCasesSpec)

/-- 'laws.FnExactStoreCase', WHERE WHAT IT READS IS OF BULK AT MOST 1048576: true; the input reads as it did. -/
def fnExactStoreCaseUptoRow : OpenClaim := { program := "ytmkbjkjgemipcaa", sum := "4215750b7a22472d2242fa1a9b4941b40b985a0cb67a771e7e6413ad9611fd47", func := "loop.example/g01346/laws.FnExactStoreCase", spec := "fnExactStoreCase", unfollowed := true, recurses := true, apart := false, narrowed := true }
def FnExactStoreCaseUptoSaid : Prop := fnExactStoreCaseUptoRow.holds Try.pinned (OpenSpec.upto fnExactStoreCaseSpec)

/-- 'laws.FnExactFaultsOf', WHERE WHAT IT READS IS OF BULK AT MOST 1048576: true; the input reads as it did. -/
def fnExactFaultsOfUptoRow : OpenClaim := { program := "ytmkbjkjgemipcaa", sum := "4215750b7a22472d2242fa1a9b4941b40b985a0cb67a771e7e6413ad9611fd47", func := "loop.example/g01346/laws.FnExactFaultsOf", spec := "fnExactFaultsOf", unfollowed := true, recurses := true, apart := false, narrowed := true }
def FnExactFaultsOfUptoSaid : Prop := fnExactFaultsOfUptoRow.holds Try.pinned (OpenSpec.upto fnExactFaultsOfSpec)

end Rows
end Go.Proofs.Ytmkbjkjgemipcaa
