/- A mark: what the texts of this seat share. -/
import Derived.Test.YtolbkepbcoipcaaDoorBox
namespace Go.Proofs.YtolbkepbcoipcaaDoor
end Go.Proofs.YtolbkepbcoipcaaDoor
