/- The numbers at which the contracts of the library lie in this program. -/
import Derived.Shelf.SlicesQ.IndexFunc
import Derived.Test.YtfgmhhkhggfmdaaProg
namespace Go.Proofs.Ytfgmhhkhggfmdaa
open Go.Shelf
def hasC_ren : Go.Shelf.Ren := ⟨fun | 8 => 84 | 6 => 91 | n => n, fun | 22 => 27 | 23 => 58 | 25 => 87 | 4 => 4 | 3 => 3 | 0 => 0 | n => n, fun | n => n⟩
theorem hasC : Go.Proofs.SlLaysH0.n8 Try.prog hasC_ren := {
  mixed := by kernel_rfl
  f6 := ⟨Try.f91.name, by decide, Try.func91.trans (congrArg some (by kernel_rfl))⟩
  f8 := ⟨Try.f84.name, by decide, Try.func84.trans (congrArg some (by kernel_rfl))⟩
  t0 := Try.underlying0
  a0 := Try.isAgg0
  z0 := Try.sizeOf0
  v0 := Try.zeroValue0
  t3 := Try.underlying3
  a3 := Try.isAgg3
  z3 := Try.sizeOf3
  v3 := Try.zeroValue3
  t4 := Try.underlying4
  a4 := Try.isAgg4
  z4 := Try.sizeOf4
  v4 := Try.zeroValue4
  t22 := Try.underlying27
  a22 := Try.isAgg27
  z22 := Try.sizeOf27
  v22 := Try.zeroValue27
  t25 := Try.underlying87
  a25 := Try.isAgg87
  z25 := Try.sizeOf87
  v25 := Try.zeroValue87 }
end Go.Proofs.Ytfgmhhkhggfmdaa
