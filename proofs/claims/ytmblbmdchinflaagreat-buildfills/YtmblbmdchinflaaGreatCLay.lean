/- The numbers at which the contracts of the library lie in this program. -/
import Derived.Shelf.SlicesQ.IndexFunc
import Derived.Test.YtmblbmdchinflaaGreatProg
namespace Go.Proofs.YtmblbmdchinflaaGreat
open Go.Shelf
def hasC_ren : Go.Shelf.Ren := ⟨fun | 8 => 130 | 6 => 168 | n => n, fun | 22 => 22 | 23 => 48 | 25 => 130 | 4 => 4 | 3 => 3 | 0 => 0 | n => n, fun | n => n⟩
theorem hasC : Go.Proofs.SlLaysH0.n8 Tryz.prog hasC_ren := {
  mixed := by kernel_rfl
  f6 := ⟨Tryz.f168.name, by decide, Tryz.func168.trans (congrArg some (by kernel_rfl))⟩
  f8 := ⟨Tryz.f130.name, by decide, Tryz.func130.trans (congrArg some (by kernel_rfl))⟩
  t0 := Tryz.underlying0
  a0 := Tryz.isAgg0
  z0 := Tryz.sizeOf0
  v0 := Tryz.zeroValue0
  t3 := Tryz.underlying3
  a3 := Tryz.isAgg3
  z3 := Tryz.sizeOf3
  v3 := Tryz.zeroValue3
  t4 := Tryz.underlying4
  a4 := Tryz.isAgg4
  z4 := Tryz.sizeOf4
  v4 := Tryz.zeroValue4
  t22 := Tryz.underlying22
  a22 := Tryz.isAgg22
  z22 := Tryz.sizeOf22
  v22 := Tryz.zeroValue22
  t25 := Tryz.underlying130
  a25 := Tryz.isAgg130
  z25 := Tryz.sizeOf130
  v25 := Tryz.zeroValue130 }
end Go.Proofs.YtmblbmdchinflaaGreat
