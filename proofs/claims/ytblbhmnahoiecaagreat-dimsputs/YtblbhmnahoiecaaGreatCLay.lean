/- The numbers at which the contracts of the library lie in this program. -/
import Derived.Shelf.SlicesQ.IndexFunc
import Derived.Test.YtblbhmnahoiecaaGreatProg
namespace Go.Proofs.YtblbhmnahoiecaaGreat
open Go.Shelf
def hasC_ren : Go.Shelf.Ren := ⟨fun | 8 => 143 | 6 => 187 | n => n, fun | 22 => 22 | 23 => 38 | 25 => 146 | 4 => 4 | 3 => 3 | 0 => 0 | n => n, fun | n => n⟩
theorem hasC : Go.Proofs.SlLaysH0.n8 Tryz.prog hasC_ren := {
  mixed := by kernel_rfl
  f6 := ⟨Tryz.f187.name, by decide, Tryz.func187.trans (congrArg some (by kernel_rfl))⟩
  f8 := ⟨Tryz.f143.name, by decide, Tryz.func143.trans (congrArg some (by kernel_rfl))⟩
  t0 := Tryz.underlying0
  a0 := Tryz.isAgg0
  z0 := Tryz.sizeOf0
  v0 := Tryz.zeroValue0
  t3 := Tryz.underlying3
  a3 := Tryz.isAgg3
  z3 := Tryz.sizeOf3
  v3 := Tryz.zeroValue3
  t4 := Tryz.underlying4
  a4 := Tryz.isAgg4
  z4 := Tryz.sizeOf4
  v4 := Tryz.zeroValue4
  t22 := Tryz.underlying22
  a22 := Tryz.isAgg22
  z22 := Tryz.sizeOf22
  v22 := Tryz.zeroValue22
  t25 := Tryz.underlying146
  a25 := Tryz.isAgg146
  z25 := Tryz.sizeOf146
  v25 := Tryz.zeroValue146 }
end Go.Proofs.YtblbhmnahoiecaaGreat
