/- slices.Insert, slices.Delete, sort.Search at this program, by the shelf's contracts. -/
import Derived.Test.YtpdmdcnangldcaaProg
import Derived.Shelf.Slices.Delete
import Derived.Shelf.Spec.SlicesInsertGrow
import Derived.Shelf.SlSorted.Search
namespace Go.Proofs.Ytpdmdcnangldcaa
open Go.Shelf Go.RowKit

def insertA_ren : Go.Shelf.Ren := ⟨fun | 21 => 20 | 27 => 25 | 28 => 26 | 35 => 28 | 39 => 29 | n => n, fun | 22 => 25 | 3 => 3 | 4 => 4 | 0 => 0 | n => n, fun | n => n⟩
theorem insertA : Lays2.n21 Try.prog insertA_ren := {
  mixed := by kernel_rfl
  f21 := Try.func20.trans (congrArg some (by kernel_rfl))
  f27 := Try.func25.trans (congrArg some (by kernel_rfl))
  f28 := Try.func26.trans (congrArg some (by kernel_rfl))
  f35 := Try.func28.trans (congrArg some (by kernel_rfl))
  f39 := Try.func29.trans (congrArg some (by kernel_rfl))
  t0 := Try.underlying0
  a0 := Try.isAgg0
  z0 := Try.sizeOf0
  v0 := Try.zeroValue0
  t3 := Try.underlying3
  a3 := Try.isAgg3
  z3 := Try.sizeOf3
  v3 := Try.zeroValue3
  t4 := Try.underlying4
  a4 := Try.isAgg4
  z4 := Try.sizeOf4
  v4 := Try.zeroValue4
  t22 := Try.underlying25
  a22 := Try.isAgg25
  z22 := Try.sizeOf25
  v22 := Try.zeroValue25
  i3 := by kernel_rfl }
def deleteA_ren : Go.Shelf.Ren := ⟨fun | 23 => 22 | n => n, fun | 22 => 25 | 3 => 3 | 4 => 4 | 0 => 0 | n => n, fun | n => n⟩
theorem deleteA : Lays2.n23 Try.prog deleteA_ren := {
  mixed := by kernel_rfl
  f23 := Try.func22.trans (congrArg some (by kernel_rfl))
  t0 := Try.underlying0
  a0 := Try.isAgg0
  z0 := Try.sizeOf0
  v0 := Try.zeroValue0
  t3 := Try.underlying3
  a3 := Try.isAgg3
  z3 := Try.sizeOf3
  v3 := Try.zeroValue3
  t4 := Try.underlying4
  a4 := Try.isAgg4
  z4 := Try.sizeOf4
  v4 := Try.zeroValue4
  t22 := Try.underlying25
  a22 := Try.isAgg25
  z22 := Try.sizeOf25
  v22 := Try.zeroValue25
  i3 := by kernel_rfl }
def searchA_ren : Go.Shelf.Ren := ⟨fun | 16 => 23 | n => n, fun | 3 => 3 | 35 => 33 | 4 => 4 | 38 => 52 | n => n, fun | n => n⟩
theorem searchA : SlLaysO.n16 Try.prog searchA_ren := {
  mixed := by kernel_rfl
  f16 := Try.func23.trans (congrArg some (by kernel_rfl))
  t3 := Try.underlying3
  a3 := Try.isAgg3
  z3 := Try.sizeOf3
  v3 := Try.zeroValue3
  t4 := Try.underlying4
  a4 := Try.isAgg4
  z4 := Try.sizeOf4
  v4 := Try.zeroValue4
  t35 := Try.underlying33
  a35 := Try.isAgg33
  z35 := Try.sizeOf33
  v35 := Try.zeroValue33
  t38 := Try.underlying52
  a38 := Try.isAgg52
  z38 := Try.sizeOf52
  v38 := Try.zeroValue52 }

end Go.Proofs.Ytpdmdcnangldcaa
