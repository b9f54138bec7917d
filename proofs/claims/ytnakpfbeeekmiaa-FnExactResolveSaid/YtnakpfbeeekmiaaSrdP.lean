/- slices.Sorted laid at this program: its code is the shelf's own, number by number. -/
import Derived.Shelf.SlGeneric
import Derived.Shelf.SlIterI.Nil
import Derived.Test.YtnakpfbeeekmiaaChecked
namespace Go.Proofs.Ytnakpfbeeekmiaa
open Go.Shelf
def Try.sortedP_ren : Go.Shelf.Ren := ⟨fun | 6 => 104 | 8 => 125 | 9 => 126 | 11 => 136 | 13 => 131 | 12 => 137 | 23 => 147 | 24 => 148 | 14 => 150 | 15 => 151 | 16 => 152 | 17 => 153 | 18 => 154 | 19 => 155 | 20 => 156 | 21 => 157 | 22 => 158 | 25 => 164 | 26 => 160 | 27 => 161 | 28 => 165 | 29 => 166 | 30 => 132 | 31 => 168 | n => n, fun | 26 => 2 | 28 => 112 | 24 => 25 | 0 => 0 | 3 => 3 | 37 => 129 | 48 => 146 | 50 => 118 | 4 => 4 | 40 => 139 | 39 => 138 | 45 => 143 | 5 => 5 | 9 => 9 | 51 => 152 | 55 => 156 | 57 => 160 | 58 => 161 | 33 => 85 | n => n, fun | n => n⟩
theorem Try.sortedP : Go.Proofs.SlLaysZI.n6 Try.prog Try.sortedP_ren := {
  mixed := by kernel_rfl
  f6 := ⟨Try.f104.name, by decide, Try.func104.trans (congrArg some (by kernel_rfl))⟩
  f8 := ⟨Try.f125.name, by decide, Try.func125.trans (congrArg some (by kernel_rfl))⟩
  f11 := ⟨Try.f136.name, by decide, Try.func136.trans (congrArg some (by kernel_rfl))⟩
  t0 := Try.underlying0
  a0 := Try.isAgg0
  z0 := Try.sizeOf0
  v0 := Try.zeroValue0
  t24 := Try.underlying25
  a24 := Try.isAgg25
  z24 := Try.sizeOf25
  v24 := Try.zeroValue25
  t26 := Try.underlying2
  a26 := Try.isAgg2
  z26 := Try.sizeOf2
  v26 := Try.zeroValue2
  t28 := Try.underlying112
  a28 := Try.isAgg112
  z28 := Try.sizeOf112
  v28 := Try.zeroValue112
  i26 := by kernel_rfl }
end Go.Proofs.Ytnakpfbeeekmiaa
