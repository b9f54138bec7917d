/-
  DERIVED. GIVEN WITH THE SEED: THE CARDS: each row of YtnakpfbeeekmiaaDoorRows.lean that lists a variable, with what it lists TIED to the program's text (the seventh form; the later family's looks); each row that meets fmt, with fmt's text TOLD by the authors' own Lean function (tested against real Go, not proved from fmt's source: count such statements apart). THE CARD IS WHAT COUNTS. Prove the row's statement (the work); the ties are given (YtnakpfbeeekmiaaDoorTie.lean); close each card by the builder's one call (the guide's Derived/Test/ToyasCard.lean, 'card_holds'). Laid BY PROGRAM, IN A SANDBOX (cutbox-door.mjs). By AI agents, Wed Nov 11 2026. No macro, syntax, notation, axiom, sorry.
-/
import Derived.Test.YtnakpfbeeekmiaaDoorRows
import GoSem.ClaimSeven
namespace Go.Proofs.YtnakpfbeeekmiaaDoor
namespace Rows

/-- THE TIED CARD OF 'laws.FnExactLeastLate'. -/
def fnExactLeastLateCard : Claim7 := { stood := { row := fnExactLeastLateRow, standIns := [], harness := (true, "06abfca45ea33f0308632d02c6543eee74f4c988b0941ddc1c1b1deef2b3de7e"), looks := false }, kinds := [], alts := [], laidByText := true, laidKinds := [.data, .data], laidTests := true, laidLooks := .later }
def FnExactLeastLateCardSaid : Prop := Claim7.holds Tryd.pinned (.plain (OpenSpec.ofChange fnExactLeastLateSpec)) fnExactLeastLateCard

/-- THE TIED CARD OF 'laws.FnExactTightSets'. -/
def fnExactTightSetsCard : Claim7 := { stood := { row := fnExactTightSetsRow, standIns := [], harness := (true, "06abfca45ea33f0308632d02c6543eee74f4c988b0941ddc1c1b1deef2b3de7e"), looks := false }, kinds := [], alts := [], laidByText := true, laidKinds := [.data, .data], laidTests := true, laidLooks := .later }
def FnExactTightSetsCardSaid : Prop := Claim7.holds Tryd.pinned (.plain (OpenSpec.ofChange fnExactTightSetsSpec)) fnExactTightSetsCard

/-- THE SECOND FORM's CARD OF 'laws.FnExactLeastLate'. -/
def fnExactLeastLateUptoCard : Claim7 := { stood := { row := fnExactLeastLateUptoRow, standIns := [], harness := (true, "06abfca45ea33f0308632d02c6543eee74f4c988b0941ddc1c1b1deef2b3de7e"), looks := false }, kinds := [], alts := [], laidByText := true, laidKinds := [.data, .data], laidTests := true, laidLooks := .later }
def FnExactLeastLateUptoCardSaid : Prop := Claim7.holds Tryd.pinned (.plain (OpenSpec.upto fnExactLeastLateSpec)) fnExactLeastLateUptoCard

/-- THE SECOND FORM's CARD OF 'laws.FnExactTightSets'. -/
def fnExactTightSetsUptoCard : Claim7 := { stood := { row := fnExactTightSetsUptoRow, standIns := [], harness := (true, "06abfca45ea33f0308632d02c6543eee74f4c988b0941ddc1c1b1deef2b3de7e"), looks := false }, kinds := [], alts := [], laidByText := true, laidKinds := [.data, .data], laidTests := true, laidLooks := .later }
def FnExactTightSetsUptoCardSaid : Prop := Claim7.holds Tryd.pinned (.plain (OpenSpec.upto fnExactTightSetsSpec)) fnExactTightSetsUptoCard
end Rows
end Go.Proofs.YtnakpfbeeekmiaaDoor
