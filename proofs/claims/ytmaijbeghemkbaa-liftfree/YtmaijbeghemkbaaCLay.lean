/- The numbers at which the contracts of the library lie in this program. -/
import Derived.Shelf.SlicesQ.IndexFunc
import Derived.Test.YtmaijbeghemkbaaProg
namespace Go.Proofs.Ytmaijbeghemkbaa
open Go.Shelf
def hasC_ren : Go.Shelf.Ren := ⟨fun | 8 => 79 | 6 => 87 | n => n, fun | 22 => 22 | 23 => 48 | 25 => 102 | 4 => 4 | 3 => 3 | 0 => 0 | n => n, fun | n => n⟩
theorem hasC : Go.Proofs.SlLaysH0.n8 Try.prog hasC_ren := {
  mixed := by kernel_rfl
  f6 := ⟨Try.f87.name, by decide, Try.func87.trans (congrArg some (by kernel_rfl))⟩
  f8 := ⟨Try.f79.name, by decide, Try.func79.trans (congrArg some (by kernel_rfl))⟩
  t0 := Try.underlying0
  a0 := Try.isAgg0
  z0 := Try.sizeOf0
  v0 := Try.zeroValue0
  t3 := Try.underlying3
  a3 := Try.isAgg3
  z3 := Try.sizeOf3
  v3 := Try.zeroValue3
  t4 := Try.underlying4
  a4 := Try.isAgg4
  z4 := Try.sizeOf4
  v4 := Try.zeroValue4
  t22 := Try.underlying22
  a22 := Try.isAgg22
  z22 := Try.sizeOf22
  v22 := Try.zeroValue22
  t25 := Try.underlying102
  a25 := Try.isAgg102
  z25 := Try.sizeOf102
  v25 := Try.zeroValue102 }
end Go.Proofs.Ytmaijbeghemkbaa
