/-
  No cell of these rows narrows 'for every input' (looked for: loops, veiled, ifaces, maps, wideKeys, modest, calm, conditions, laid).
  DERIVED. THE GIVEN ROWS OF THIS SEAT. 4 by the template 'for every input the law returns true; each argument reads behind the call as it read before'; 0 by the template 'total and deterministic' (their statements: YtaghnkmcnomegaaTotals.lean).
  GIVEN WITH THE SEED: the statements are not yours to turn. If you find one false, say at which input.
  Laid BY PROGRAM, IN A SANDBOX (cutbox-rows.mjs): the forced cells as the released guide's own fill.sh prints them over the translation a1449256133cc2aa… (all of the seat's roots in one cut). By AI agents, Wed Nov 11 2026. No macro, syntax, notation, axiom, sorry.
-/
import Derived.Test.YtaghnkmcnomegaaChecked
import GoSem.Claim
import GoSem.ClaimJoined
import GoSem.ClaimMapViews
import Derived.JoinedTies
import Derived.KernelRfl
namespace Go.Proofs.Ytaghnkmcnomegaa
/- THE CELL 'sum', in the pinned program and in every row, IS THE sha256 OF THE DUMP (.gsa) THAT YtaghnkmcnomegaaProg.lean LOADS. Nothing in Lean hashes anything: it is a label: what it is worth is what the hold of that sum in a sandbox is worth. -/
noncomputable def Try.pinned : Pinned := { name := "ytaghnkmcnomegaa", sum := "a1449256133cc2aaa21f7dbdafa4a7eccba5e5cc1bfadba058f1107fde51be02", checked := Try.checked }
namespace Rows
def none {H : Type} : Left H := { results := [], args := [] }

/-- 'laws.FnExactOddModel': WHATEVER THE INPUT: true; the input reads as it did. -/
def fnExactOddModelSpec : ChangeSpec := { name := "fnExactOddModel", fn := fun _ => fun
  | [d1, d2, d3] => { results := [.lit (.bool true)], args := [d1, d2, d3] }
  | _ => none }
def fnExactOddModelRow : OpenClaim := { program := "ytaghnkmcnomegaa", sum := "a1449256133cc2aaa21f7dbdafa4a7eccba5e5cc1bfadba058f1107fde51be02", func := "loop.example/g01346/laws.FnExactOddModel", spec := "fnExactOddModel", unfollowed := true, recurses := true, apart := false }
def FnExactOddModelSaid : Prop := fnExactOddModelRow.holds Try.pinned (OpenSpec.ofChange fnExactOddModelSpec)

/-- ITS FALSE NEIGHBOUR: 'it returns false'. Refute it at one input. -/
def fnExactOddModelWrong : ChangeSpec := { name := "fnExactOddModel", fn := fun _ => fun
  | [d1, d2, d3] => { results := [.lit (.bool false)], args := [d1, d2, d3] }
  | _ => none }
def FnExactOddModelWrongFalsely : Prop := fnExactOddModelRow.holds Try.pinned (OpenSpec.ofChange fnExactOddModelWrong)

/-- 'laws.FnExactAtMostForm': WHATEVER THE INPUT: true; the input reads as it did. -/
def fnExactAtMostFormSpec : ChangeSpec := { name := "fnExactAtMostForm", fn := fun _ => fun
  | [d1, d2] => { results := [.lit (.bool true)], args := [d1, d2] }
  | _ => none }
def fnExactAtMostFormRow : OpenClaim := { program := "ytaghnkmcnomegaa", sum := "a1449256133cc2aaa21f7dbdafa4a7eccba5e5cc1bfadba058f1107fde51be02", func := "loop.example/g01346/laws.FnExactAtMostForm", spec := "fnExactAtMostForm", recurses := true, apart := false }
def FnExactAtMostFormSaid : Prop := fnExactAtMostFormRow.holds Try.pinned (OpenSpec.ofChange fnExactAtMostFormSpec)

/-- ITS FALSE NEIGHBOUR: 'it returns false'. Refute it at one input. -/
def fnExactAtMostFormWrong : ChangeSpec := { name := "fnExactAtMostForm", fn := fun _ => fun
  | [d1, d2] => { results := [.lit (.bool false)], args := [d1, d2] }
  | _ => none }
def FnExactAtMostFormWrongFalsely : Prop := fnExactAtMostFormRow.holds Try.pinned (OpenSpec.ofChange fnExactAtMostFormWrong)

/-- 'laws.FnExactThinForm': WHATEVER THE INPUT: true; the input reads as it did. -/
def fnExactThinFormSpec : ChangeSpec := { name := "fnExactThinForm", fn := fun _ => fun
  | [d] => { results := [.lit (.bool true)], args := [d] }
  | _ => none }
def fnExactThinFormRow : OpenClaim := { program := "ytaghnkmcnomegaa", sum := "a1449256133cc2aaa21f7dbdafa4a7eccba5e5cc1bfadba058f1107fde51be02", func := "loop.example/g01346/laws.FnExactThinForm", spec := "fnExactThinForm", unfollowed := true, recurses := true, apart := false }
def FnExactThinFormSaid : Prop := fnExactThinFormRow.holds Try.pinned (OpenSpec.ofChange fnExactThinFormSpec)

/-- ITS FALSE NEIGHBOUR: 'it returns false'. Refute it at one input. -/
def fnExactThinFormWrong : ChangeSpec := { name := "fnExactThinForm", fn := fun _ => fun
  | [d] => { results := [.lit (.bool false)], args := [d] }
  | _ => none }
def FnExactThinFormWrongFalsely : Prop := fnExactThinFormRow.holds Try.pinned (OpenSpec.ofChange fnExactThinFormWrong)

/-- 'laws.FnExactCountOn': WHATEVER THE INPUT: true; the input reads as it did. -/
def fnExactCountOnSpec : ChangeSpec := { name := "fnExactCountOn", fn := fun _ => fun
  | [d1, d2] => { results := [.lit (.bool true)], args := [d1, d2] }
  | _ => none }
def fnExactCountOnRow : OpenClaim := { program := "ytaghnkmcnomegaa", sum := "a1449256133cc2aaa21f7dbdafa4a7eccba5e5cc1bfadba058f1107fde51be02", func := "loop.example/g01346/laws.FnExactCountOn", spec := "fnExactCountOn", unfollowed := true, recurses := true, apart := false }
def FnExactCountOnSaid : Prop := fnExactCountOnRow.holds Try.pinned (OpenSpec.ofChange fnExactCountOnSpec)

/-- ITS FALSE NEIGHBOUR: 'it returns false'. Refute it at one input. -/
def fnExactCountOnWrong : ChangeSpec := { name := "fnExactCountOn", fn := fun _ => fun
  | [d1, d2] => { results := [.lit (.bool false)], args := [d1, d2] }
  | _ => none }
def FnExactCountOnWrongFalsely : Prop := fnExactCountOnRow.holds Try.pinned (OpenSpec.ofChange fnExactCountOnWrong)

/- THE SECOND FORM. 'bulk': how many values and letters a reading holds, each counted each time it is reached (what is shared counts as often as it is met; a slice's spare places count too). A statement '..UptoSaid' is the law's where the arguments, and the package variables that the reading takes, are together of bulk at most 1048576: NARROWER than '..Said'. Prove '..Said' where nothing that the law and all that it calls make is longer than what came in: it says more and counts as full. Else prove '..UptoSaid'. A law counts once. -/
mutual
def uptoBulk {H : Type} : DataW H → Nat
  | .lit (.string bytes) => bytes.length + 1
  | .lit _ => 1
  | .nil => 1
  | .ptr d => uptoBulk d + 1
  | .slice elems spare => uptoBulkAll elems + uptoBulkAll spare + 1
  | .agg parts => uptoBulkAll parts + 1
  | .iface _ d => uptoBulk d + 1
  | .map entries => uptoBulkEntries entries + 1
  | .held _ => 1
def uptoBulkAll {H : Type} : List (DataW H) → Nat
  | [] => 0
  | d :: r => uptoBulk d + uptoBulkAll r
def uptoBulkEntries {H : Type} : List (Lit × DataW H) → Nat
  | [] => 0
  | x :: r => uptoBulkEntry x + uptoBulkEntries r
def uptoBulkEntry {H : Type} : Lit × DataW H → Nat
  | (.string bytes, d) => bytes.length + uptoBulk d + 1
  | (_, d) => uptoBulk d + 1
 end
def uptoSmall : (H : Type) → List (DataW H) → Bool := fun _ ds => decide (uptoBulkAll ds ≤ 1048576)
def OpenSpec.upto (s : _root_.Go.ChangeSpec) : _root_.Go.OpenSpec := { _root_.Go.OpenSpec.ofChange s with cond := some uptoSmall }

/-- 'laws.FnExactOddModel', WHERE WHAT IT READS IS OF BULK AT MOST 1048576: true; the input reads as it did. -/
def fnExactOddModelUptoRow : OpenClaim := { program := "ytaghnkmcnomegaa", sum := "a1449256133cc2aaa21f7dbdafa4a7eccba5e5cc1bfadba058f1107fde51be02", func := "loop.example/g01346/laws.FnExactOddModel", spec := "fnExactOddModel", unfollowed := true, recurses := true, apart := false, narrowed := true }
def FnExactOddModelUptoSaid : Prop := fnExactOddModelUptoRow.holds Try.pinned (OpenSpec.upto fnExactOddModelSpec)

/-- 'laws.FnExactAtMostForm', WHERE WHAT IT READS IS OF BULK AT MOST 1048576: true; the input reads as it did. -/
def fnExactAtMostFormUptoRow : OpenClaim := { program := "ytaghnkmcnomegaa", sum := "a1449256133cc2aaa21f7dbdafa4a7eccba5e5cc1bfadba058f1107fde51be02", func := "loop.example/g01346/laws.FnExactAtMostForm", spec := "fnExactAtMostForm", recurses := true, apart := false, narrowed := true }
def FnExactAtMostFormUptoSaid : Prop := fnExactAtMostFormUptoRow.holds Try.pinned (OpenSpec.upto fnExactAtMostFormSpec)

/-- 'laws.FnExactThinForm', WHERE WHAT IT READS IS OF BULK AT MOST 1048576: true; the input reads as it did. -/
def fnExactThinFormUptoRow : OpenClaim := { program := "ytaghnkmcnomegaa", sum := "a1449256133cc2aaa21f7dbdafa4a7eccba5e5cc1bfadba058f1107fde51be02", func := "loop.example/g01346/laws.FnExactThinForm", spec := "fnExactThinForm", unfollowed := true, recurses := true, apart := false, narrowed := true }
def FnExactThinFormUptoSaid : Prop := fnExactThinFormUptoRow.holds Try.pinned (OpenSpec.upto fnExactThinFormSpec)

/-- 'laws.FnExactCountOn', WHERE WHAT IT READS IS OF BULK AT MOST 1048576: true; the input reads as it did. -/
def fnExactCountOnUptoRow : OpenClaim := { program := "ytaghnkmcnomegaa", sum := "a1449256133cc2aaa21f7dbdafa4a7eccba5e5cc1bfadba058f1107fde51be02", func := "loop.example/g01346/laws.FnExactCountOn", spec := "fnExactCountOn", unfollowed := true, recurses := true, apart := false, narrowed := true }
def FnExactCountOnUptoSaid : Prop := fnExactCountOnUptoRow.holds Try.pinned (OpenSpec.upto fnExactCountOnSpec)

end Rows
end Go.Proofs.Ytaghnkmcnomegaa
