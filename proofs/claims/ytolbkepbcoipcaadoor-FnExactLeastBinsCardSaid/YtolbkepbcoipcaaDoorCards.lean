/-
  DERIVED. GIVEN WITH THE SEED: THE CARDS: each row of YtolbkepbcoipcaaDoorRows.lean that lists a variable, with what it lists TIED to the program's text (the seventh form; the later family's looks); each row that meets fmt, with fmt's text TOLD by the authors' own Lean function (tested against real Go, not proved from fmt's source: count such statements apart). THE CARD IS WHAT COUNTS. Prove the row's statement (the work); the ties are given (YtolbkepbcoipcaaDoorTie.lean); close each card by the builder's one call (the guide's Derived/Test/ToyasCard.lean, 'card_holds'). Laid BY PROGRAM, IN A SANDBOX (cutbox-door.mjs). By AI agents, Wed Nov 11 2026. No macro, syntax, notation, axiom, sorry.
-/
import Derived.Test.YtolbkepbcoipcaaDoorRows
import GoSem.ClaimSeven
namespace Go.Proofs.YtolbkepbcoipcaaDoor
namespace Rows

/-- THE TIED CARD OF 'laws.FnExactLeastBins'. -/
def fnExactLeastBinsCard : Claim7 := { stood := { row := fnExactLeastBinsRow, standIns := [], harness := (true, "24d2a6cfaecc648dc097d66038d73d2d23fc7c1db55491d689f34609f8ad486f"), looks := false }, kinds := [], alts := [], laidByText := true, laidKinds := [.data, .data], laidTests := true, laidLooks := .later }
def FnExactLeastBinsCardSaid : Prop := Claim7.holds Tryd.pinned (.plain (OpenSpec.ofChange fnExactLeastBinsSpec)) fnExactLeastBinsCard

/-- THE TIED CARD OF 'laws.FnExactBestHalves'. -/
def fnExactBestHalvesCard : Claim7 := { stood := { row := fnExactBestHalvesRow, standIns := [], harness := (true, "24d2a6cfaecc648dc097d66038d73d2d23fc7c1db55491d689f34609f8ad486f"), looks := false }, kinds := [], alts := [], laidByText := true, laidKinds := [.data, .data], laidTests := true, laidLooks := .later }
def FnExactBestHalvesCardSaid : Prop := Claim7.holds Tryd.pinned (.plain (OpenSpec.ofChange fnExactBestHalvesSpec)) fnExactBestHalvesCard

/-- THE TIED CARD OF 'laws.FnExactLeastCover'. -/
def fnExactLeastCoverCard : Claim7 := { stood := { row := fnExactLeastCoverRow, standIns := [], harness := (true, "24d2a6cfaecc648dc097d66038d73d2d23fc7c1db55491d689f34609f8ad486f"), looks := false }, kinds := [], alts := [], laidByText := true, laidKinds := [.data, .data], laidTests := true, laidLooks := .later }
def FnExactLeastCoverCardSaid : Prop := Claim7.holds Tryd.pinned (.plain (OpenSpec.ofChange fnExactLeastCoverSpec)) fnExactLeastCoverCard

/-- THE SECOND FORM's CARD OF 'laws.FnExactLeastBins'. -/
def fnExactLeastBinsUptoCard : Claim7 := { stood := { row := fnExactLeastBinsUptoRow, standIns := [], harness := (true, "24d2a6cfaecc648dc097d66038d73d2d23fc7c1db55491d689f34609f8ad486f"), looks := false }, kinds := [], alts := [], laidByText := true, laidKinds := [.data, .data], laidTests := true, laidLooks := .later }
def FnExactLeastBinsUptoCardSaid : Prop := Claim7.holds Tryd.pinned (.plain (OpenSpec.upto fnExactLeastBinsSpec)) fnExactLeastBinsUptoCard

/-- THE SECOND FORM's CARD OF 'laws.FnExactBestHalves'. -/
def fnExactBestHalvesUptoCard : Claim7 := { stood := { row := fnExactBestHalvesUptoRow, standIns := [], harness := (true, "24d2a6cfaecc648dc097d66038d73d2d23fc7c1db55491d689f34609f8ad486f"), looks := false }, kinds := [], alts := [], laidByText := true, laidKinds := [.data, .data], laidTests := true, laidLooks := .later }
def FnExactBestHalvesUptoCardSaid : Prop := Claim7.holds Tryd.pinned (.plain (OpenSpec.upto fnExactBestHalvesSpec)) fnExactBestHalvesUptoCard

/-- THE SECOND FORM's CARD OF 'laws.FnExactLeastCover'. -/
def fnExactLeastCoverUptoCard : Claim7 := { stood := { row := fnExactLeastCoverUptoRow, standIns := [], harness := (true, "24d2a6cfaecc648dc097d66038d73d2d23fc7c1db55491d689f34609f8ad486f"), looks := false }, kinds := [], alts := [], laidByText := true, laidKinds := [.data, .data], laidTests := true, laidLooks := .later }
def FnExactLeastCoverUptoCardSaid : Prop := Claim7.holds Tryd.pinned (.plain (OpenSpec.upto fnExactLeastCoverSpec)) fnExactLeastCoverUptoCard
end Rows
end Go.Proofs.YtolbkepbcoipcaaDoor
