/- The gain of a plan: the program's side. -/
import Derived.Test.YtajekehidofkiaaGain0
import Derived.Test.YtajekehidofkiaaPtI
namespace Go.Proofs.Ytajekehidofkiaa
open Go.RowKit Go.ChangeShapes Go.WideShapes

end Go.Proofs.Ytajekehidofkiaa
