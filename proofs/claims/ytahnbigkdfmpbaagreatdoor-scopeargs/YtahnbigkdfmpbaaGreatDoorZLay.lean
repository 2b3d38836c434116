/- The numbers at which the contracts of the library lie in this program. -/
import Derived.Shelf.SlicesQ.Reverse
import Derived.Test.YtahnbigkdfmpbaaGreatDoorProg
namespace Go.Proofs.YtahnbigkdfmpbaaGreatDoor
open Go.Shelf
def revT_ren : Go.Shelf.Ren := ⟨fun | 35 => 93 | n => n, fun | 22 => 24 | 23 => 26 | 3 => 3 | 4 => 4 | 0 => 0 | n => n, fun | n => n⟩
theorem revT : Go.Proofs.SlLaysE0.n35 Tryz.prog revT_ren := {
  mixed := by kernel_rfl
  f35 := ⟨Tryz.f93.name, by decide, Tryz.func93.trans (congrArg some (by kernel_rfl))⟩
  t0 := Tryz.underlying0
  a0 := Tryz.isAgg0
  z0 := Tryz.sizeOf0
  v0 := Tryz.zeroValue0
  t3 := Tryz.underlying3
  a3 := Tryz.isAgg3
  z3 := Tryz.sizeOf3
  v3 := Tryz.zeroValue3
  t4 := Tryz.underlying4
  a4 := Tryz.isAgg4
  z4 := Tryz.sizeOf4
  v4 := Tryz.zeroValue4
  t22 := Tryz.underlying24
  a22 := Tryz.isAgg24
  z22 := Tryz.sizeOf24
  v22 := Tryz.zeroValue24 }
end Go.Proofs.YtahnbigkdfmpbaaGreatDoor
