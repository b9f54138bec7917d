/- slices.Delete laid at this program: its code is the shelf's own, number by number. -/
import Derived.Shelf.SlGeneric
import Derived.Shelf.SlicesG.Delete
import Derived.Test.YtknonlbbakbpiaaChecked
namespace Go.Proofs.Ytknonlbbakbpiaa
open Go.Shelf
def Try.slDelete_ren : Go.Shelf.Ren := ⟨fun | 45 => 147 | n => n, fun | 22 => 35 | 23 => 2 | 3 => 3 | 4 => 4 | 0 => 0 | n => n, fun | n => n⟩
theorem Try.slDelete : Go.Proofs.SlLaysN.n45 Try.prog Try.slDelete_ren := {
  mixed := by kernel_rfl
  f45 := ⟨Try.f147.name, by decide, Try.func147.trans (congrArg some (by kernel_rfl))⟩
  t0 := Try.underlying0
  a0 := Try.isAgg0
  z0 := Try.sizeOf0
  v0 := Try.zeroValue0
  t3 := Try.underlying3
  a3 := Try.isAgg3
  z3 := Try.sizeOf3
  v3 := Try.zeroValue3
  t4 := Try.underlying4
  a4 := Try.isAgg4
  z4 := Try.sizeOf4
  v4 := Try.zeroValue4
  t22 := Try.underlying35
  a22 := Try.isAgg35
  z22 := Try.sizeOf35
  v22 := Try.zeroValue35
  t23 := Try.underlying2
  a23 := Try.isAgg2
  z23 := Try.sizeOf2
  v23 := Try.zeroValue2
  i23 := by kernel_rfl }
end Go.Proofs.Ytknonlbbakbpiaa
