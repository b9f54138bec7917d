/- A mark: what the texts of this seat share. -/
import Derived.Test.YtnakpfbeeekmiaaDoorBox
namespace Go.Proofs.YtnakpfbeeekmiaaDoor
end Go.Proofs.YtnakpfbeeekmiaaDoor
