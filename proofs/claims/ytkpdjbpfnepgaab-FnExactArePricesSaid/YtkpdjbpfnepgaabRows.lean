/-
  No cell of these rows narrows 'for every input' (looked for: loops, veiled, ifaces, maps, wideKeys, modest, calm, conditions, laid).
  DERIVED. THE GIVEN ROWS OF THIS SEAT. 12 by the template 'for every input the law returns true; each argument reads behind the call as it read before'; 0 by the template 'total and deterministic' (their statements: YtkpdjbpfnepgaabTotals.lean).
  GIVEN WITH THE SEED: the statements are not yours to turn. If you find one false, say at which input.
  Laid BY PROGRAM, IN A SANDBOX (cutbox-rows.mjs): the forced cells as the released guide's own fill.sh prints them over the translation 8d3d0c7398e3dfd2… (all of the seat's roots in one cut). By AI agents, Wed Nov 11 2026. No macro, syntax, notation, axiom, sorry.
-/
import Derived.Test.YtkpdjbpfnepgaabChecked
import GoSem.Claim
import GoSem.ClaimJoined
import GoSem.ClaimMapViews
import Derived.JoinedTies
import Derived.KernelRfl
namespace Go.Proofs.Ytkpdjbpfnepgaab
/- THE CELL 'sum', in the pinned program and in every row, IS THE sha256 OF THE DUMP (.gsa) THAT YtkpdjbpfnepgaabProg.lean LOADS. Nothing in Lean hashes anything: it is a label: what it is worth is what the hold of that sum in a sandbox is worth. -/
noncomputable def Try.pinned : Pinned := { name := "ytkpdjbpfnepgaab", sum := "8d3d0c7398e3dfd283a30aed0759e2f7dad0d1beb725afc869ce91beeb3465d4", checked := Try.checked }
namespace Rows
def none {H : Type} : Left H := { results := [], args := [] }

/-- 'laws.FnExactIsRay': WHATEVER THE INPUT: true; the input reads as it did. -/
def fnExactIsRaySpec : ChangeSpec := { name := "fnExactIsRay", fn := fun _ => fun
  | [d1, d2, d3] => { results := [.lit (.bool true)], args := [d1, d2, d3] }
  | _ => none }
def fnExactIsRayRow : OpenClaim := { program := "ytkpdjbpfnepgaab", sum := "8d3d0c7398e3dfd283a30aed0759e2f7dad0d1beb725afc869ce91beeb3465d4", func := "loop.example/g01346/laws.FnExactIsRay", spec := "fnExactIsRay", inPlace := ["math.Float64bits", "math.Float64frombits"], apart := false }
def FnExactIsRaySaid : Prop := fnExactIsRayRow.holds Try.pinned (OpenSpec.ofChange fnExactIsRaySpec)

/-- ITS FALSE NEIGHBOUR: 'it returns false'. Refute it at one input. -/
def fnExactIsRayWrong : ChangeSpec := { name := "fnExactIsRay", fn := fun _ => fun
  | [d1, d2, d3] => { results := [.lit (.bool false)], args := [d1, d2, d3] }
  | _ => none }
def FnExactIsRayWrongFalsely : Prop := fnExactIsRayRow.holds Try.pinned (OpenSpec.ofChange fnExactIsRayWrong)

/-- 'laws.FnExactArePrices': WHATEVER THE INPUT: true; the input reads as it did. -/
def fnExactArePricesSpec : ChangeSpec := { name := "fnExactArePrices", fn := fun _ => fun
  | [d1, d2, d3] => { results := [.lit (.bool true)], args := [d1, d2, d3] }
  | _ => none }
def fnExactArePricesRow : OpenClaim := { program := "ytkpdjbpfnepgaab", sum := "8d3d0c7398e3dfd283a30aed0759e2f7dad0d1beb725afc869ce91beeb3465d4", func := "loop.example/g01346/laws.FnExactArePrices", spec := "fnExactArePrices", inPlace := ["math.Float64bits", "math.Float64frombits"], apart := false }
def FnExactArePricesSaid : Prop := fnExactArePricesRow.holds Try.pinned (OpenSpec.ofChange fnExactArePricesSpec)

/-- ITS FALSE NEIGHBOUR: 'it returns false'. Refute it at one input. -/
def fnExactArePricesWrong : ChangeSpec := { name := "fnExactArePrices", fn := fun _ => fun
  | [d1, d2, d3] => { results := [.lit (.bool false)], args := [d1, d2, d3] }
  | _ => none }
def FnExactArePricesWrongFalsely : Prop := fnExactArePricesRow.holds Try.pinned (OpenSpec.ofChange fnExactArePricesWrong)

/-- 'laws.FnExactTableOf': WHATEVER THE INPUT: true; the input reads as it did. -/
def fnExactTableOfSpec : ChangeSpec := { name := "fnExactTableOf", fn := fun _ => fun
  | [d] => { results := [.lit (.bool true)], args := [d] }
  | _ => none }
def fnExactTableOfRow : OpenClaim := { program := "ytkpdjbpfnepgaab", sum := "8d3d0c7398e3dfd283a30aed0759e2f7dad0d1beb725afc869ce91beeb3465d4", func := "loop.example/g01346/laws.FnExactTableOf", spec := "fnExactTableOf", inPlace := ["math.Float64bits", "math.Float64frombits"], apart := false }
def FnExactTableOfSaid : Prop := fnExactTableOfRow.holds Try.pinned (OpenSpec.ofChange fnExactTableOfSpec)

/-- ITS FALSE NEIGHBOUR: 'it returns false'. Refute it at one input. -/
def fnExactTableOfWrong : ChangeSpec := { name := "fnExactTableOf", fn := fun _ => fun
  | [d] => { results := [.lit (.bool false)], args := [d] }
  | _ => none }
def FnExactTableOfWrongFalsely : Prop := fnExactTableOfRow.holds Try.pinned (OpenSpec.ofChange fnExactTableOfWrong)

/-- 'laws.FnExactLeaveOf': WHATEVER THE INPUT: true; the input reads as it did. -/
def fnExactLeaveOfSpec : ChangeSpec := { name := "fnExactLeaveOf", fn := fun _ => fun
  | [d1, d2, d3] => { results := [.lit (.bool true)], args := [d1, d2, d3] }
  | _ => none }
def fnExactLeaveOfRow : OpenClaim := { program := "ytkpdjbpfnepgaab", sum := "8d3d0c7398e3dfd283a30aed0759e2f7dad0d1beb725afc869ce91beeb3465d4", func := "loop.example/g01346/laws.FnExactLeaveOf", spec := "fnExactLeaveOf", inPlace := ["math.Float64bits", "math.Float64frombits"], unfollowed := true, recurses := true, apart := false }
def FnExactLeaveOfSaid : Prop := fnExactLeaveOfRow.holds Try.pinned (OpenSpec.ofChange fnExactLeaveOfSpec)

/-- ITS FALSE NEIGHBOUR: 'it returns false'. Refute it at one input. -/
def fnExactLeaveOfWrong : ChangeSpec := { name := "fnExactLeaveOf", fn := fun _ => fun
  | [d1, d2, d3] => { results := [.lit (.bool false)], args := [d1, d2, d3] }
  | _ => none }
def FnExactLeaveOfWrongFalsely : Prop := fnExactLeaveOfRow.holds Try.pinned (OpenSpec.ofChange fnExactLeaveOfWrong)

/-- 'laws.FnExactAddRow': WHATEVER THE INPUT: true; the input reads as it did. -/
def fnExactAddRowSpec : ChangeSpec := { name := "fnExactAddRow", fn := fun _ => fun
  | [d1, d2, d3] => { results := [.lit (.bool true)], args := [d1, d2, d3] }
  | _ => none }
def fnExactAddRowRow : OpenClaim := { program := "ytkpdjbpfnepgaab", sum := "8d3d0c7398e3dfd283a30aed0759e2f7dad0d1beb725afc869ce91beeb3465d4", func := "loop.example/g01346/laws.FnExactAddRow", spec := "fnExactAddRow", inPlace := ["math.Float64bits", "math.Float64frombits"], apart := false }
def FnExactAddRowSaid : Prop := fnExactAddRowRow.holds Try.pinned (OpenSpec.ofChange fnExactAddRowSpec)

/-- ITS FALSE NEIGHBOUR: 'it returns false'. Refute it at one input. -/
def fnExactAddRowWrong : ChangeSpec := { name := "fnExactAddRow", fn := fun _ => fun
  | [d1, d2, d3] => { results := [.lit (.bool false)], args := [d1, d2, d3] }
  | _ => none }
def FnExactAddRowWrongFalsely : Prop := fnExactAddRowRow.holds Try.pinned (OpenSpec.ofChange fnExactAddRowWrong)

/-- 'laws.FnExactDropRow': WHATEVER THE INPUT: true; the input reads as it did. -/
def fnExactDropRowSpec : ChangeSpec := { name := "fnExactDropRow", fn := fun _ => fun
  | [d1, d2] => { results := [.lit (.bool true)], args := [d1, d2] }
  | _ => none }
def fnExactDropRowRow : OpenClaim := { program := "ytkpdjbpfnepgaab", sum := "8d3d0c7398e3dfd283a30aed0759e2f7dad0d1beb725afc869ce91beeb3465d4", func := "loop.example/g01346/laws.FnExactDropRow", spec := "fnExactDropRow", inPlace := ["math.Float64bits", "math.Float64frombits"], apart := false }
def FnExactDropRowSaid : Prop := fnExactDropRowRow.holds Try.pinned (OpenSpec.ofChange fnExactDropRowSpec)

/-- ITS FALSE NEIGHBOUR: 'it returns false'. Refute it at one input. -/
def fnExactDropRowWrong : ChangeSpec := { name := "fnExactDropRow", fn := fun _ => fun
  | [d1, d2] => { results := [.lit (.bool false)], args := [d1, d2] }
  | _ => none }
def FnExactDropRowWrongFalsely : Prop := fnExactDropRowRow.holds Try.pinned (OpenSpec.ofChange fnExactDropRowWrong)

/-- 'laws.FnExactScaleRows': WHATEVER THE INPUT: true; the input reads as it did. -/
def fnExactScaleRowsSpec : ChangeSpec := { name := "fnExactScaleRows", fn := fun _ => fun
  | [d] => { results := [.lit (.bool true)], args := [d] }
  | _ => none }
def fnExactScaleRowsRow : OpenClaim := { program := "ytkpdjbpfnepgaab", sum := "8d3d0c7398e3dfd283a30aed0759e2f7dad0d1beb725afc869ce91beeb3465d4", func := "loop.example/g01346/laws.FnExactScaleRows", spec := "fnExactScaleRows", inPlace := ["math.Float64bits", "math.Float64frombits"], apart := false }
def FnExactScaleRowsSaid : Prop := fnExactScaleRowsRow.holds Try.pinned (OpenSpec.ofChange fnExactScaleRowsSpec)

/-- ITS FALSE NEIGHBOUR: 'it returns false'. Refute it at one input. -/
def fnExactScaleRowsWrong : ChangeSpec := { name := "fnExactScaleRows", fn := fun _ => fun
  | [d] => { results := [.lit (.bool false)], args := [d] }
  | _ => none }
def FnExactScaleRowsWrongFalsely : Prop := fnExactScaleRowsRow.holds Try.pinned (OpenSpec.ofChange fnExactScaleRowsWrong)

/-- 'laws.FnExactPivotTable': WHATEVER THE INPUT: true; the input reads as it did. -/
def fnExactPivotTableSpec : ChangeSpec := { name := "fnExactPivotTable", fn := fun _ => fun
  | [d1, d2, d3] => { results := [.lit (.bool true)], args := [d1, d2, d3] }
  | _ => none }
def fnExactPivotTableRow : OpenClaim := { program := "ytkpdjbpfnepgaab", sum := "8d3d0c7398e3dfd283a30aed0759e2f7dad0d1beb725afc869ce91beeb3465d4", func := "loop.example/g01346/laws.FnExactPivotTable", spec := "fnExactPivotTable", inPlace := ["math.Float64bits", "math.Float64frombits"], apart := false }
def FnExactPivotTableSaid : Prop := fnExactPivotTableRow.holds Try.pinned (OpenSpec.ofChange fnExactPivotTableSpec)

/-- ITS FALSE NEIGHBOUR: 'it returns false'. Refute it at one input. -/
def fnExactPivotTableWrong : ChangeSpec := { name := "fnExactPivotTable", fn := fun _ => fun
  | [d1, d2, d3] => { results := [.lit (.bool false)], args := [d1, d2, d3] }
  | _ => none }
def FnExactPivotTableWrongFalsely : Prop := fnExactPivotTableRow.holds Try.pinned (OpenSpec.ofChange fnExactPivotTableWrong)

/-- 'laws.FnExactSolveTable': WHATEVER THE INPUT: true; the input reads as it did. -/
def fnExactSolveTableSpec : ChangeSpec := { name := "fnExactSolveTable", fn := fun _ => fun
  | [d1, d2, d3] => { results := [.lit (.bool true)], args := [d1, d2, d3] }
  | _ => none }
def fnExactSolveTableRow : OpenClaim := { program := "ytkpdjbpfnepgaab", sum := "8d3d0c7398e3dfd283a30aed0759e2f7dad0d1beb725afc869ce91beeb3465d4", func := "loop.example/g01346/laws.FnExactSolveTable", spec := "fnExactSolveTable", inPlace := ["math.Float64bits", "math.Float64frombits"], unfollowed := true, recurses := true, apart := false }
def FnExactSolveTableSaid : Prop := fnExactSolveTableRow.holds Try.pinned (OpenSpec.ofChange fnExactSolveTableSpec)

/-- ITS FALSE NEIGHBOUR: 'it returns false'. Refute it at one input. -/
def fnExactSolveTableWrong : ChangeSpec := { name := "fnExactSolveTable", fn := fun _ => fun
  | [d1, d2, d3] => { results := [.lit (.bool false)], args := [d1, d2, d3] }
  | _ => none }
def FnExactSolveTableWrongFalsely : Prop := fnExactSolveTableRow.holds Try.pinned (OpenSpec.ofChange fnExactSolveTableWrong)

/-- 'laws.FnExactSolveRows': WHATEVER THE INPUT: true; the input reads as it did. -/
def fnExactSolveRowsSpec : ChangeSpec := { name := "fnExactSolveRows", fn := fun _ => fun
  | [d1, d2, d3] => { results := [.lit (.bool true)], args := [d1, d2, d3] }
  | _ => none }
def fnExactSolveRowsRow : OpenClaim := { program := "ytkpdjbpfnepgaab", sum := "8d3d0c7398e3dfd283a30aed0759e2f7dad0d1beb725afc869ce91beeb3465d4", func := "loop.example/g01346/laws.FnExactSolveRows", spec := "fnExactSolveRows", inPlace := ["math.Float64bits", "math.Float64frombits"], unfollowed := true, recurses := true, apart := false }
def FnExactSolveRowsSaid : Prop := fnExactSolveRowsRow.holds Try.pinned (OpenSpec.ofChange fnExactSolveRowsSpec)

/-- ITS FALSE NEIGHBOUR: 'it returns false'. Refute it at one input. -/
def fnExactSolveRowsWrong : ChangeSpec := { name := "fnExactSolveRows", fn := fun _ => fun
  | [d1, d2, d3] => { results := [.lit (.bool false)], args := [d1, d2, d3] }
  | _ => none }
def FnExactSolveRowsWrongFalsely : Prop := fnExactSolveRowsRow.holds Try.pinned (OpenSpec.ofChange fnExactSolveRowsWrong)

/-- 'laws.FnExactRayOf': WHATEVER THE INPUT: true; the input reads as it did. -/
def fnExactRayOfSpec : ChangeSpec := { name := "fnExactRayOf", fn := fun _ => fun
  | [d1, d2, d3] => { results := [.lit (.bool true)], args := [d1, d2, d3] }
  | _ => none }
def fnExactRayOfRow : OpenClaim := { program := "ytkpdjbpfnepgaab", sum := "8d3d0c7398e3dfd283a30aed0759e2f7dad0d1beb725afc869ce91beeb3465d4", func := "loop.example/g01346/laws.FnExactRayOf", spec := "fnExactRayOf", inPlace := ["math.Float64bits", "math.Float64frombits"], unfollowed := true, recurses := true, apart := false }
def FnExactRayOfSaid : Prop := fnExactRayOfRow.holds Try.pinned (OpenSpec.ofChange fnExactRayOfSpec)

/-- ITS FALSE NEIGHBOUR: 'it returns false'. Refute it at one input. -/
def fnExactRayOfWrong : ChangeSpec := { name := "fnExactRayOf", fn := fun _ => fun
  | [d1, d2, d3] => { results := [.lit (.bool false)], args := [d1, d2, d3] }
  | _ => none }
def FnExactRayOfWrongFalsely : Prop := fnExactRayOfRow.holds Try.pinned (OpenSpec.ofChange fnExactRayOfWrong)

/-- 'laws.FnExactBoundRange': WHATEVER THE INPUT: true; the input reads as it did. -/
def fnExactBoundRangeSpec : ChangeSpec := { name := "fnExactBoundRange", fn := fun _ => fun
  | [d1, d2, d3, d4] => { results := [.lit (.bool true)], args := [d1, d2, d3, d4] }
  | _ => none }
def fnExactBoundRangeRow : OpenClaim := { program := "ytkpdjbpfnepgaab", sum := "8d3d0c7398e3dfd283a30aed0759e2f7dad0d1beb725afc869ce91beeb3465d4", func := "loop.example/g01346/laws.FnExactBoundRange", spec := "fnExactBoundRange", inPlace := ["math.Float64bits", "math.Float64frombits"], unfollowed := true, recurses := true, apart := false }
def FnExactBoundRangeSaid : Prop := fnExactBoundRangeRow.holds Try.pinned (OpenSpec.ofChange fnExactBoundRangeSpec)

/-- ITS FALSE NEIGHBOUR: 'it returns false'. Refute it at one input. -/
def fnExactBoundRangeWrong : ChangeSpec := { name := "fnExactBoundRange", fn := fun _ => fun
  | [d1, d2, d3, d4] => { results := [.lit (.bool false)], args := [d1, d2, d3, d4] }
  | _ => none }
def FnExactBoundRangeWrongFalsely : Prop := fnExactBoundRangeRow.holds Try.pinned (OpenSpec.ofChange fnExactBoundRangeWrong)

/- THE SECOND FORM. 'bulk': how many values and letters a reading holds, each counted each time it is reached (what is shared counts as often as it is met; a slice's spare places count too). A statement '..UptoSaid' is the law's where the arguments, and the package variables that the reading takes, are together of bulk at most 1048576: NARROWER than '..Said'. Prove '..Said' where nothing that the law and all that it calls make is longer than what came in: it says more and counts as full. Else prove '..UptoSaid'. A law counts once. -/
mutual
def uptoBulk {H : Type} : DataW H → Nat
  | .lit (.string bytes) => bytes.length + 1
  | .lit _ => 1
  | .nil => 1
  | .ptr d => uptoBulk d + 1
  | .slice elems spare => uptoBulkAll elems + uptoBulkAll spare + 1
  | .agg parts => uptoBulkAll parts + 1
  | .iface _ d => uptoBulk d + 1
  | .map entries => uptoBulkEntries entries + 1
  | .held _ => 1
def uptoBulkAll {H : Type} : List (DataW H) → Nat
  | [] => 0
  | d :: r => uptoBulk d + uptoBulkAll r
def uptoBulkEntries {H : Type} : List (Lit × DataW H) → Nat
  | [] => 0
  | x :: r => uptoBulkEntry x + uptoBulkEntries r
def uptoBulkEntry {H : Type} : Lit × DataW H → Nat
  | (.string bytes, d) => bytes.length + uptoBulk d + 1
  | (_, d) => uptoBulk d + 1
 end
def uptoSmall : (H : Type) → List (DataW H) → Bool := fun _ ds => decide (uptoBulkAll ds ≤ 1048576)
def OpenSpec.upto (s : _root_.Go.ChangeSpec) : _root_.Go.OpenSpec := { _root_.Go.OpenSpec.ofChange s with cond := some uptoSmall }

/-- 'laws.FnExactIsRay', WHERE WHAT IT READS IS OF BULK AT MOST 1048576: true; the input reads as it did. -/
def fnExactIsRayUptoRow : OpenClaim := { program := "ytkpdjbpfnepgaab", sum := "8d3d0c7398e3dfd283a30aed0759e2f7dad0d1beb725afc869ce91beeb3465d4", func := "loop.example/g01346/laws.FnExactIsRay", spec := "fnExactIsRay", inPlace := ["math.Float64bits", "math.Float64frombits"], apart := false, narrowed := true }
def FnExactIsRayUptoSaid : Prop := fnExactIsRayUptoRow.holds Try.pinned (OpenSpec.upto fnExactIsRaySpec)

/-- 'laws.FnExactArePrices', WHERE WHAT IT READS IS OF BULK AT MOST 1048576: true; the input reads as it did. -/
def fnExactArePricesUptoRow : OpenClaim := { program := "ytkpdjbpfnepgaab", sum := "8d3d0c7398e3dfd283a30aed0759e2f7dad0d1beb725afc869ce91beeb3465d4", func := "loop.example/g01346/laws.FnExactArePrices", spec := "fnExactArePrices", inPlace := ["math.Float64bits", "math.Float64frombits"], apart := false, narrowed := true }
def FnExactArePricesUptoSaid : Prop := fnExactArePricesUptoRow.holds Try.pinned (OpenSpec.upto fnExactArePricesSpec)

/-- 'laws.FnExactTableOf', WHERE WHAT IT READS IS OF BULK AT MOST 1048576: true; the input reads as it did. -/
def fnExactTableOfUptoRow : OpenClaim := { program := "ytkpdjbpfnepgaab", sum := "8d3d0c7398e3dfd283a30aed0759e2f7dad0d1beb725afc869ce91beeb3465d4", func := "loop.example/g01346/laws.FnExactTableOf", spec := "fnExactTableOf", inPlace := ["math.Float64bits", "math.Float64frombits"], apart := false, narrowed := true }
def FnExactTableOfUptoSaid : Prop := fnExactTableOfUptoRow.holds Try.pinned (OpenSpec.upto fnExactTableOfSpec)

/-- 'laws.FnExactLeaveOf', WHERE WHAT IT READS IS OF BULK AT MOST 1048576: true; the input reads as it did. -/
def fnExactLeaveOfUptoRow : OpenClaim := { program := "ytkpdjbpfnepgaab", sum := "8d3d0c7398e3dfd283a30aed0759e2f7dad0d1beb725afc869ce91beeb3465d4", func := "loop.example/g01346/laws.FnExactLeaveOf", spec := "fnExactLeaveOf", inPlace := ["math.Float64bits", "math.Float64frombits"], unfollowed := true, recurses := true, apart := false, narrowed := true }
def FnExactLeaveOfUptoSaid : Prop := fnExactLeaveOfUptoRow.holds Try.pinned (OpenSpec.upto fnExactLeaveOfSpec)

/-- 'laws.FnExactAddRow', WHERE WHAT IT READS IS OF BULK AT MOST 1048576: true; the input reads as it did. -/
def fnExactAddRowUptoRow : OpenClaim := { program := "ytkpdjbpfnepgaab", sum := "8d3d0c7398e3dfd283a30aed0759e2f7dad0d1beb725afc869ce91beeb3465d4", func := "loop.example/g01346/laws.FnExactAddRow", spec := "fnExactAddRow", inPlace := ["math.Float64bits", "math.Float64frombits"], apart := false, narrowed := true }
def FnExactAddRowUptoSaid : Prop := fnExactAddRowUptoRow.holds Try.pinned (OpenSpec.upto fnExactAddRowSpec)

/-- 'laws.FnExactDropRow', WHERE WHAT IT READS IS OF BULK AT MOST 1048576: true; the input reads as it did. -/
def fnExactDropRowUptoRow : OpenClaim := { program := "ytkpdjbpfnepgaab", sum := "8d3d0c7398e3dfd283a30aed0759e2f7dad0d1beb725afc869ce91beeb3465d4", func := "loop.example/g01346/laws.FnExactDropRow", spec := "fnExactDropRow", inPlace := ["math.Float64bits", "math.Float64frombits"], apart := false, narrowed := true }
def FnExactDropRowUptoSaid : Prop := fnExactDropRowUptoRow.holds Try.pinned (OpenSpec.upto fnExactDropRowSpec)

/-- 'laws.FnExactScaleRows', WHERE WHAT IT READS IS OF BULK AT MOST 1048576: true; the input reads as it did. -/
def fnExactScaleRowsUptoRow : OpenClaim := { program := "ytkpdjbpfnepgaab", sum := "8d3d0c7398e3dfd283a30aed0759e2f7dad0d1beb725afc869ce91beeb3465d4", func := "loop.example/g01346/laws.FnExactScaleRows", spec := "fnExactScaleRows", inPlace := ["math.Float64bits", "math.Float64frombits"], apart := false, narrowed := true }
def FnExactScaleRowsUptoSaid : Prop := fnExactScaleRowsUptoRow.holds Try.pinned (OpenSpec.upto fnExactScaleRowsSpec)

/-- 'laws.FnExactPivotTable', WHERE WHAT IT READS IS OF BULK AT MOST 1048576: true; the input reads as it did. -/
def fnExactPivotTableUptoRow : OpenClaim := { program := "ytkpdjbpfnepgaab", sum := "8d3d0c7398e3dfd283a30aed0759e2f7dad0d1beb725afc869ce91beeb3465d4", func := "loop.example/g01346/laws.FnExactPivotTable", spec := "fnExactPivotTable", inPlace := ["math.Float64bits", "math.Float64frombits"], apart := false, narrowed := true }
def FnExactPivotTableUptoSaid : Prop := fnExactPivotTableUptoRow.holds Try.pinned (OpenSpec.upto fnExactPivotTableSpec)

/-- 'laws.FnExactSolveTable', WHERE WHAT IT READS IS OF BULK AT MOST 1048576: true; the input reads as it did. -/
def fnExactSolveTableUptoRow : OpenClaim := { program := "ytkpdjbpfnepgaab", sum := "8d3d0c7398e3dfd283a30aed0759e2f7dad0d1beb725afc869ce91beeb3465d4", func := "loop.example/g01346/laws.FnExactSolveTable", spec := "fnExactSolveTable", inPlace := ["math.Float64bits", "math.Float64frombits"], unfollowed := true, recurses := true, apart := false, narrowed := true }
def FnExactSolveTableUptoSaid : Prop := fnExactSolveTableUptoRow.holds Try.pinned (OpenSpec.upto fnExactSolveTableSpec)

/-- 'laws.FnExactSolveRows', WHERE WHAT IT READS IS OF BULK AT MOST 1048576: true; the input reads as it did. -/
def fnExactSolveRowsUptoRow : OpenClaim := { program := "ytkpdjbpfnepgaab", sum := "8d3d0c7398e3dfd283a30aed0759e2f7dad0d1beb725afc869ce91beeb3465d4", func := "loop.example/g01346/laws.FnExactSolveRows", spec := "fnExactSolveRows", inPlace := ["math.Float64bits", "math.Float64frombits"], unfollowed := true, recurses := true, apart := false, narrowed := true }
def FnExactSolveRowsUptoSaid : Prop := fnExactSolveRowsUptoRow.holds Try.pinned (OpenSpec.upto fnExactSolveRowsSpec)

/-- 'laws.FnExactRayOf', WHERE WHAT IT READS IS OF BULK AT MOST 1048576: true; the input reads as it did. -/
def fnExactRayOfUptoRow : OpenClaim := { program := "ytkpdjbpfnepgaab", sum := "8d3d0c7398e3dfd283a30aed0759e2f7dad0d1beb725afc869ce91beeb3465d4", func := "loop.example/g01346/laws.FnExactRayOf", spec := "fnExactRayOf", inPlace := ["math.Float64bits", "math.Float64frombits"], unfollowed := true, recurses := true, apart := false, narrowed := true }
def FnExactRayOfUptoSaid : Prop := fnExactRayOfUptoRow.holds Try.pinned (OpenSpec.upto fnExactRayOfSpec)

/-- 'laws.FnExactBoundRange', WHERE WHAT IT READS IS OF BULK AT MOST 1048576: true; the input reads as it did. -/
def fnExactBoundRangeUptoRow : OpenClaim := { program := "ytkpdjbpfnepgaab", sum := "8d3d0c7398e3dfd283a30aed0759e2f7dad0d1beb725afc869ce91beeb3465d4", func := "loop.example/g01346/laws.FnExactBoundRange", spec := "fnExactBoundRange", inPlace := ["math.Float64bits", "math.Float64frombits"], unfollowed := true, recurses := true, apart := false, narrowed := true }
def FnExactBoundRangeUptoSaid : Prop := fnExactBoundRangeUptoRow.holds Try.pinned (OpenSpec.upto fnExactBoundRangeSpec)

end Rows
end Go.Proofs.Ytkpdjbpfnepgaab
