/-
  No cell of these rows narrows 'for every input' (looked for: loops, veiled, ifaces, maps, wideKeys, modest, calm, conditions, laid).
  DERIVED. THE GIVEN ROWS OF THIS SEAT. 10 by the template 'for every input the law returns true; each argument reads behind the call as it read before'; 0 by the template 'total and deterministic' (their statements: YtnakpfbeeekmiaaTotals.lean).
  GIVEN WITH THE SEED: the statements are not yours to turn. If you find one false, say at which input.
  Laid BY PROGRAM, IN A SANDBOX (cutbox-rows.mjs): the forced cells as the released guide's own fill.sh prints them over the translation 45013bf402ca45ed… (all of the seat's roots in one cut). By AI agents, Wed Nov 11 2026. No macro, syntax, notation, axiom, sorry.
-/
import Derived.Test.YtnakpfbeeekmiaaChecked
import GoSem.Claim
import GoSem.ClaimJoined
import GoSem.ClaimMapViews
import Derived.JoinedTies
import Derived.KernelRfl
namespace Go.Proofs.Ytnakpfbeeekmiaa
/- THE CELL 'sum', in the pinned program and in every row, IS THE sha256 OF THE DUMP (.gsa) THAT YtnakpfbeeekmiaaProg.lean LOADS. Nothing in Lean hashes anything: it is a label: what it is worth is what the hold of that sum in a sandbox is worth. -/
noncomputable def Try.pinned : Pinned := { name := "ytnakpfbeeekmiaa", sum := "45013bf402ca45ed8247b3b288451715f33f71f0c65332cf51297d3440bc2c03", checked := Try.checked }
namespace Rows
def none {H : Type} : Left H := { results := [], args := [] }

/-- 'laws.FnExactUnitsOf': WHATEVER THE INPUT: true; the input reads as it did. -/
def fnExactUnitsOfSpec : ChangeSpec := { name := "fnExactUnitsOf", fn := fun _ => fun
  | [d1, d2] => { results := [.lit (.bool true)], args := [d1, d2] }
  | _ => none }
def fnExactUnitsOfRow : OpenClaim := { program := "ytnakpfbeeekmiaa", sum := "45013bf402ca45ed8247b3b288451715f33f71f0c65332cf51297d3440bc2c03", func := "loop.example/g01346/laws.FnExactUnitsOf", spec := "fnExactUnitsOf", unfollowed := true, recurses := true, apart := false }
def FnExactUnitsOfSaid : Prop := fnExactUnitsOfRow.holds Try.pinned (OpenSpec.ofChange fnExactUnitsOfSpec)

/-- ITS FALSE NEIGHBOUR: 'it returns false'. Refute it at one input. -/
def fnExactUnitsOfWrong : ChangeSpec := { name := "fnExactUnitsOf", fn := fun _ => fun
  | [d1, d2] => { results := [.lit (.bool false)], args := [d1, d2] }
  | _ => none }
def FnExactUnitsOfWrongFalsely : Prop := fnExactUnitsOfRow.holds Try.pinned (OpenSpec.ofChange fnExactUnitsOfWrong)

/-- 'laws.FnExactIsProof': WHATEVER THE INPUT: true; the input reads as it did. -/
def fnExactIsProofSpec : ChangeSpec := { name := "fnExactIsProof", fn := fun _ => fun
  | [d1, d2] => { results := [.lit (.bool true)], args := [d1, d2] }
  | _ => none }
def fnExactIsProofRow : OpenClaim := { program := "ytnakpfbeeekmiaa", sum := "45013bf402ca45ed8247b3b288451715f33f71f0c65332cf51297d3440bc2c03", func := "loop.example/g01346/laws.FnExactIsProof", spec := "fnExactIsProof", unfollowed := true, recurses := true, apart := false }
def FnExactIsProofSaid : Prop := fnExactIsProofRow.holds Try.pinned (OpenSpec.ofChange fnExactIsProofSpec)

/-- ITS FALSE NEIGHBOUR: 'it returns false'. Refute it at one input. -/
def fnExactIsProofWrong : ChangeSpec := { name := "fnExactIsProof", fn := fun _ => fun
  | [d1, d2] => { results := [.lit (.bool false)], args := [d1, d2] }
  | _ => none }
def FnExactIsProofWrongFalsely : Prop := fnExactIsProofRow.holds Try.pinned (OpenSpec.ofChange fnExactIsProofWrong)

/-- 'laws.FnExactProveNo': WHATEVER THE INPUT: true; the input reads as it did. -/
def fnExactProveNoSpec : ChangeSpec := { name := "fnExactProveNo", fn := fun _ => fun
  | [d] => { results := [.lit (.bool true)], args := [d] }
  | _ => none }
def fnExactProveNoRow : OpenClaim := { program := "ytnakpfbeeekmiaa", sum := "45013bf402ca45ed8247b3b288451715f33f71f0c65332cf51297d3440bc2c03", func := "loop.example/g01346/laws.FnExactProveNo", spec := "fnExactProveNo", unfollowed := true, recurses := true, apart := false }
def FnExactProveNoSaid : Prop := fnExactProveNoRow.holds Try.pinned (OpenSpec.ofChange fnExactProveNoSpec)

/-- ITS FALSE NEIGHBOUR: 'it returns false'. Refute it at one input. -/
def fnExactProveNoWrong : ChangeSpec := { name := "fnExactProveNo", fn := fun _ => fun
  | [d] => { results := [.lit (.bool false)], args := [d] }
  | _ => none }
def FnExactProveNoWrongFalsely : Prop := fnExactProveNoRow.holds Try.pinned (OpenSpec.ofChange fnExactProveNoWrong)

/-- 'laws.FnExactLearnFrom': WHATEVER THE INPUT: true; the input reads as it did. -/
def fnExactLearnFromSpec : ChangeSpec := { name := "fnExactLearnFrom", fn := fun _ => fun
  | [d1, d2] => { results := [.lit (.bool true)], args := [d1, d2] }
  | _ => none }
def fnExactLearnFromRow : OpenClaim := { program := "ytnakpfbeeekmiaa", sum := "45013bf402ca45ed8247b3b288451715f33f71f0c65332cf51297d3440bc2c03", func := "loop.example/g01346/laws.FnExactLearnFrom", spec := "fnExactLearnFrom", unfollowed := true, recurses := true, apart := false }
def FnExactLearnFromSaid : Prop := fnExactLearnFromRow.holds Try.pinned (OpenSpec.ofChange fnExactLearnFromSpec)

/-- ITS FALSE NEIGHBOUR: 'it returns false'. Refute it at one input. -/
def fnExactLearnFromWrong : ChangeSpec := { name := "fnExactLearnFrom", fn := fun _ => fun
  | [d1, d2] => { results := [.lit (.bool false)], args := [d1, d2] }
  | _ => none }
def FnExactLearnFromWrongFalsely : Prop := fnExactLearnFromRow.holds Try.pinned (OpenSpec.ofChange fnExactLearnFromWrong)

/-- 'laws.FnExactGiveForm': WHATEVER THE INPUT: true; the input reads as it did. -/
def fnExactGiveFormSpec : ChangeSpec := { name := "fnExactGiveForm", fn := fun _ => fun
  | [d1, d2] => { results := [.lit (.bool true)], args := [d1, d2] }
  | _ => none }
def fnExactGiveFormRow : OpenClaim := { program := "ytnakpfbeeekmiaa", sum := "45013bf402ca45ed8247b3b288451715f33f71f0c65332cf51297d3440bc2c03", func := "loop.example/g01346/laws.FnExactGiveForm", spec := "fnExactGiveForm", unfollowed := true, recurses := true, apart := false }
def FnExactGiveFormSaid : Prop := fnExactGiveFormRow.holds Try.pinned (OpenSpec.ofChange fnExactGiveFormSpec)

/-- ITS FALSE NEIGHBOUR: 'it returns false'. Refute it at one input. -/
def fnExactGiveFormWrong : ChangeSpec := { name := "fnExactGiveForm", fn := fun _ => fun
  | [d1, d2] => { results := [.lit (.bool false)], args := [d1, d2] }
  | _ => none }
def FnExactGiveFormWrongFalsely : Prop := fnExactGiveFormRow.holds Try.pinned (OpenSpec.ofChange fnExactGiveFormWrong)

/-- 'laws.FnExactThinForm': WHATEVER THE INPUT: true; the input reads as it did. -/
def fnExactThinFormSpec : ChangeSpec := { name := "fnExactThinForm", fn := fun _ => fun
  | [d] => { results := [.lit (.bool true)], args := [d] }
  | _ => none }
def fnExactThinFormRow : OpenClaim := { program := "ytnakpfbeeekmiaa", sum := "45013bf402ca45ed8247b3b288451715f33f71f0c65332cf51297d3440bc2c03", func := "loop.example/g01346/laws.FnExactThinForm", spec := "fnExactThinForm", unfollowed := true, recurses := true, apart := false }
def FnExactThinFormSaid : Prop := fnExactThinFormRow.holds Try.pinned (OpenSpec.ofChange fnExactThinFormSpec)

/-- ITS FALSE NEIGHBOUR: 'it returns false'. Refute it at one input. -/
def fnExactThinFormWrong : ChangeSpec := { name := "fnExactThinForm", fn := fun _ => fun
  | [d] => { results := [.lit (.bool false)], args := [d] }
  | _ => none }
def FnExactThinFormWrongFalsely : Prop := fnExactThinFormRow.holds Try.pinned (OpenSpec.ofChange fnExactThinFormWrong)

/-- 'laws.FnExactAtMostForm': WHATEVER THE INPUT: true; the input reads as it did. -/
def fnExactAtMostFormSpec : ChangeSpec := { name := "fnExactAtMostForm", fn := fun _ => fun
  | [d1, d2] => { results := [.lit (.bool true)], args := [d1, d2] }
  | _ => none }
def fnExactAtMostFormRow : OpenClaim := { program := "ytnakpfbeeekmiaa", sum := "45013bf402ca45ed8247b3b288451715f33f71f0c65332cf51297d3440bc2c03", func := "loop.example/g01346/laws.FnExactAtMostForm", spec := "fnExactAtMostForm", recurses := true, apart := false }
def FnExactAtMostFormSaid : Prop := fnExactAtMostFormRow.holds Try.pinned (OpenSpec.ofChange fnExactAtMostFormSpec)

/-- ITS FALSE NEIGHBOUR: 'it returns false'. Refute it at one input. -/
def fnExactAtMostFormWrong : ChangeSpec := { name := "fnExactAtMostForm", fn := fun _ => fun
  | [d1, d2] => { results := [.lit (.bool false)], args := [d1, d2] }
  | _ => none }
def FnExactAtMostFormWrongFalsely : Prop := fnExactAtMostFormRow.holds Try.pinned (OpenSpec.ofChange fnExactAtMostFormWrong)

/-- 'laws.FnExactResolve': WHATEVER THE INPUT: true; the input reads as it did. -/
def fnExactResolveSpec : ChangeSpec := { name := "fnExactResolve", fn := fun _ => fun
  | [d1, d2, d3, d4] => { results := [.lit (.bool true)], args := [d1, d2, d3, d4] }
  | _ => none }
def fnExactResolveRow : OpenClaim := { program := "ytnakpfbeeekmiaa", sum := "45013bf402ca45ed8247b3b288451715f33f71f0c65332cf51297d3440bc2c03", func := "loop.example/g01346/laws.FnExactResolve", spec := "fnExactResolve", unfollowed := true, recurses := true, apart := false }
def FnExactResolveSaid : Prop := fnExactResolveRow.holds Try.pinned (OpenSpec.ofChange fnExactResolveSpec)

/-- ITS FALSE NEIGHBOUR: 'it returns false'. Refute it at one input. -/
def fnExactResolveWrong : ChangeSpec := { name := "fnExactResolve", fn := fun _ => fun
  | [d1, d2, d3, d4] => { results := [.lit (.bool false)], args := [d1, d2, d3, d4] }
  | _ => none }
def FnExactResolveWrongFalsely : Prop := fnExactResolveRow.holds Try.pinned (OpenSpec.ofChange fnExactResolveWrong)

/-- 'laws.FnExactPureIn': WHATEVER THE INPUT: true; the input reads as it did. -/
def fnExactPureInSpec : ChangeSpec := { name := "fnExactPureIn", fn := fun _ => fun
  | [d] => { results := [.lit (.bool true)], args := [d] }
  | _ => none }
def fnExactPureInRow : OpenClaim := { program := "ytnakpfbeeekmiaa", sum := "45013bf402ca45ed8247b3b288451715f33f71f0c65332cf51297d3440bc2c03", func := "loop.example/g01346/laws.FnExactPureIn", spec := "fnExactPureIn", unfollowed := true, recurses := true, apart := false }
def FnExactPureInSaid : Prop := fnExactPureInRow.holds Try.pinned (OpenSpec.ofChange fnExactPureInSpec)

/-- ITS FALSE NEIGHBOUR: 'it returns false'. Refute it at one input. -/
def fnExactPureInWrong : ChangeSpec := { name := "fnExactPureIn", fn := fun _ => fun
  | [d] => { results := [.lit (.bool false)], args := [d] }
  | _ => none }
def FnExactPureInWrongFalsely : Prop := fnExactPureInRow.holds Try.pinned (OpenSpec.ofChange fnExactPureInWrong)

/-- 'laws.FnExactFrontCost': WHATEVER THE INPUT: true; the input reads as it did. -/
def fnExactFrontCostSpec : ChangeSpec := { name := "fnExactFrontCost", fn := fun _ => fun
  | [d1, d2] => { results := [.lit (.bool true)], args := [d1, d2] }
  | _ => none }
def fnExactFrontCostRow : OpenClaim := { program := "ytnakpfbeeekmiaa", sum := "45013bf402ca45ed8247b3b288451715f33f71f0c65332cf51297d3440bc2c03", func := "loop.example/g01346/laws.FnExactFrontCost", spec := "fnExactFrontCost", inPlace := ["slices.overlaps[int64]"], unfollowed := true, recurses := true, apart := false }
def FnExactFrontCostSaid : Prop := fnExactFrontCostRow.holds Try.pinned (OpenSpec.ofChange fnExactFrontCostSpec)

/-- ITS FALSE NEIGHBOUR: 'it returns false'. Refute it at one input. -/
def fnExactFrontCostWrong : ChangeSpec := { name := "fnExactFrontCost", fn := fun _ => fun
  | [d1, d2] => { results := [.lit (.bool false)], args := [d1, d2] }
  | _ => none }
def FnExactFrontCostWrongFalsely : Prop := fnExactFrontCostRow.holds Try.pinned (OpenSpec.ofChange fnExactFrontCostWrong)

/- THE SECOND FORM. 'bulk': how many values and letters a reading holds, each counted each time it is reached (what is shared counts as often as it is met; a slice's spare places count too). A statement '..UptoSaid' is the law's where the arguments, and the package variables that the reading takes, are together of bulk at most 1048576: NARROWER than '..Said'. Prove '..Said' where nothing that the law and all that it calls make is longer than what came in: it says more and counts as full. Else prove '..UptoSaid'. A law counts once. -/
mutual
def uptoBulk {H : Type} : DataW H → Nat
  | .lit (.string bytes) => bytes.length + 1
  | .lit _ => 1
  | .nil => 1
  | .ptr d => uptoBulk d + 1
  | .slice elems spare => uptoBulkAll elems + uptoBulkAll spare + 1
  | .agg parts => uptoBulkAll parts + 1
  | .iface _ d => uptoBulk d + 1
  | .map entries => uptoBulkEntries entries + 1
  | .held _ => 1
def uptoBulkAll {H : Type} : List (DataW H) → Nat
  | [] => 0
  | d :: r => uptoBulk d + uptoBulkAll r
def uptoBulkEntries {H : Type} : List (Lit × DataW H) → Nat
  | [] => 0
  | x :: r => uptoBulkEntry x + uptoBulkEntries r
def uptoBulkEntry {H : Type} : Lit × DataW H → Nat
  | (.string bytes, d) => bytes.length + uptoBulk d + 1
  | (_, d) => uptoBulk d + 1
 end
def uptoSmall : (H : Type) → List (DataW H) → Bool := fun _ ds => decide (uptoBulkAll ds ≤ 1048576)
def OpenSpec.upto (s : _root_.Go.ChangeSpec) : _root_.Go.OpenSpec := { _root_.Go.OpenSpec.ofChange s with cond := some uptoSmall }

/-- 'laws.FnExactUnitsOf', WHERE WHAT IT READS IS OF BULK AT MOST 1048576: true; the input reads as it did. -/
def fnExactUnitsOfUptoRow : OpenClaim := { program := "ytnakpfbeeekmiaa", sum := "45013bf402ca45ed8247b3b288451715f33f71f0c65332cf51297d3440bc2c03", func := "loop.example/g01346/laws.FnExactUnitsOf", spec := "fnExactUnitsOf", unfollowed := true, recurses := true, apart := false, narrowed := true }
def FnExactUnitsOfUptoSaid : Prop := fnExactUnitsOfUptoRow.holds Try.pinned (OpenSpec.upto fnExactUnitsOfSpec)

/-- 'laws.FnExactIsProof', WHERE WHAT IT READS IS OF BULK AT MOST 1048576: true; the input reads as it did. -/
def fnExactIsProofUptoRow : OpenClaim := { program := "ytnakpfbeeekmiaa", sum := "45013bf402ca45ed8247b3b288451715f33f71f0c65332cf51297d3440bc2c03", func := "loop.example/g01346/laws.FnExactIsProof", spec := "fnExactIsProof", unfollowed := true, recurses := true, apart := false, narrowed := true }
def FnExactIsProofUptoSaid : Prop := fnExactIsProofUptoRow.holds Try.pinned (OpenSpec.upto fnExactIsProofSpec)

/-- 'laws.FnExactProveNo', WHERE WHAT IT READS IS OF BULK AT MOST 1048576: true; the input reads as it did. -/
def fnExactProveNoUptoRow : OpenClaim := { program := "ytnakpfbeeekmiaa", sum := "45013bf402ca45ed8247b3b288451715f33f71f0c65332cf51297d3440bc2c03", func := "loop.example/g01346/laws.FnExactProveNo", spec := "fnExactProveNo", unfollowed := true, recurses := true, apart := false, narrowed := true }
def FnExactProveNoUptoSaid : Prop := fnExactProveNoUptoRow.holds Try.pinned (OpenSpec.upto fnExactProveNoSpec)

/-- 'laws.FnExactLearnFrom', WHERE WHAT IT READS IS OF BULK AT MOST 1048576: true; the input reads as it did. -/
def fnExactLearnFromUptoRow : OpenClaim := { program := "ytnakpfbeeekmiaa", sum := "45013bf402ca45ed8247b3b288451715f33f71f0c65332cf51297d3440bc2c03", func := "loop.example/g01346/laws.FnExactLearnFrom", spec := "fnExactLearnFrom", unfollowed := true, recurses := true, apart := false, narrowed := true }
def FnExactLearnFromUptoSaid : Prop := fnExactLearnFromUptoRow.holds Try.pinned (OpenSpec.upto fnExactLearnFromSpec)

/-- 'laws.FnExactGiveForm', WHERE WHAT IT READS IS OF BULK AT MOST 1048576: true; the input reads as it did. -/
def fnExactGiveFormUptoRow : OpenClaim := { program := "ytnakpfbeeekmiaa", sum := "45013bf402ca45ed8247b3b288451715f33f71f0c65332cf51297d3440bc2c03", func := "loop.example/g01346/laws.FnExactGiveForm", spec := "fnExactGiveForm", unfollowed := true, recurses := true, apart := false, narrowed := true }
def FnExactGiveFormUptoSaid : Prop := fnExactGiveFormUptoRow.holds Try.pinned (OpenSpec.upto fnExactGiveFormSpec)

/-- 'laws.FnExactThinForm', WHERE WHAT IT READS IS OF BULK AT MOST 1048576: true; the input reads as it did. -/
def fnExactThinFormUptoRow : OpenClaim := { program := "ytnakpfbeeekmiaa", sum := "45013bf402ca45ed8247b3b288451715f33f71f0c65332cf51297d3440bc2c03", func := "loop.example/g01346/laws.FnExactThinForm", spec := "fnExactThinForm", unfollowed := true, recurses := true, apart := false, narrowed := true }
def FnExactThinFormUptoSaid : Prop := fnExactThinFormUptoRow.holds Try.pinned (OpenSpec.upto fnExactThinFormSpec)

/-- 'laws.FnExactAtMostForm', WHERE WHAT IT READS IS OF BULK AT MOST 1048576: true; the input reads as it did. -/
def fnExactAtMostFormUptoRow : OpenClaim := { program := "ytnakpfbeeekmiaa", sum := "45013bf402ca45ed8247b3b288451715f33f71f0c65332cf51297d3440bc2c03", func := "loop.example/g01346/laws.FnExactAtMostForm", spec := "fnExactAtMostForm", recurses := true, apart := false, narrowed := true }
def FnExactAtMostFormUptoSaid : Prop := fnExactAtMostFormUptoRow.holds Try.pinned (OpenSpec.upto fnExactAtMostFormSpec)

/-- 'laws.FnExactResolve', WHERE WHAT IT READS IS OF BULK AT MOST 1048576: true; the input reads as it did. -/
def fnExactResolveUptoRow : OpenClaim := { program := "ytnakpfbeeekmiaa", sum := "45013bf402ca45ed8247b3b288451715f33f71f0c65332cf51297d3440bc2c03", func := "loop.example/g01346/laws.FnExactResolve", spec := "fnExactResolve", unfollowed := true, recurses := true, apart := false, narrowed := true }
def FnExactResolveUptoSaid : Prop := fnExactResolveUptoRow.holds Try.pinned (OpenSpec.upto fnExactResolveSpec)

/-- 'laws.FnExactPureIn', WHERE WHAT IT READS IS OF BULK AT MOST 1048576: true; the input reads as it did. -/
def fnExactPureInUptoRow : OpenClaim := { program := "ytnakpfbeeekmiaa", sum := "45013bf402ca45ed8247b3b288451715f33f71f0c65332cf51297d3440bc2c03", func := "loop.example/g01346/laws.FnExactPureIn", spec := "fnExactPureIn", unfollowed := true, recurses := true, apart := false, narrowed := true }
def FnExactPureInUptoSaid : Prop := fnExactPureInUptoRow.holds Try.pinned (OpenSpec.upto fnExactPureInSpec)

/-- 'laws.FnExactFrontCost', WHERE WHAT IT READS IS OF BULK AT MOST 1048576: true; the input reads as it did. -/
def fnExactFrontCostUptoRow : OpenClaim := { program := "ytnakpfbeeekmiaa", sum := "45013bf402ca45ed8247b3b288451715f33f71f0c65332cf51297d3440bc2c03", func := "loop.example/g01346/laws.FnExactFrontCost", spec := "fnExactFrontCost", inPlace := ["slices.overlaps[int64]"], unfollowed := true, recurses := true, apart := false, narrowed := true }
def FnExactFrontCostUptoSaid : Prop := fnExactFrontCostUptoRow.holds Try.pinned (OpenSpec.upto fnExactFrontCostSpec)

end Rows
end Go.Proofs.Ytnakpfbeeekmiaa
