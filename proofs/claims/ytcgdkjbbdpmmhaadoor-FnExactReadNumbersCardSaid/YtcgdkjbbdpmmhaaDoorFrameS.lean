/- The door of the laws that split texts: two of utf8's tables are laid, one of them pinned. -/
import Derived.Test.YtcgdkjbbdpmmhaaDoorFrameV
namespace Go.Proofs.YtcgdkjbbdpmmhaaDoor
open Go.ChangeShapes Go.WideShapes Go.ChangeAt Go.RowKit

abbrev laidU : List (String × DataW Unit) := [("unicode/utf8.acceptRanges", Rows.laid_unicode_utf8_acceptRanges), ("unicode/utf8.first", Rows.laid_unicode_utf8_first)]
/-- A start in which the variables hold what is listed: pinned tables too, which the door's own run does not lay. -/
theorem laidU_met (os : Os) (args : Array Value) : laidMetH Tryd.prog laidU ((World.laidAll Tryd.prog os laidU).forCall (fun _ _ => 0) ⟨#[], args, []⟩).memory := by
  rw [MakeChecks.laidMetH_plain _ _ _ (by kernel_rfl)]
  exact laidMet_laidAll _ (by kernel_rfl) (by kernel_rfl)
end Go.Proofs.YtcgdkjbbdpmmhaaDoor
