/- The numbers at which the contracts of the library lie in this program. -/
import Derived.Shelf.SlicesQ.IndexFunc
import Derived.Test.YthhnkpgagfjdbaaProg
namespace Go.Proofs.Ythhnkpgagfjdbaa
open Go.Shelf
def hasC_ren : Go.Shelf.Ren := ⟨fun | 8 => 106 | 6 => 116 | n => n, fun | 22 => 22 | 23 => 55 | 25 => 101 | 4 => 4 | 3 => 3 | 0 => 0 | n => n, fun | n => n⟩
theorem hasC : Go.Proofs.SlLaysH0.n8 Try.prog hasC_ren := {
  mixed := by kernel_rfl
  f6 := ⟨Try.f116.name, by decide, Try.func116.trans (congrArg some (by kernel_rfl))⟩
  f8 := ⟨Try.f106.name, by decide, Try.func106.trans (congrArg some (by kernel_rfl))⟩
  t0 := Try.underlying0
  a0 := Try.isAgg0
  z0 := Try.sizeOf0
  v0 := Try.zeroValue0
  t3 := Try.underlying3
  a3 := Try.isAgg3
  z3 := Try.sizeOf3
  v3 := Try.zeroValue3
  t4 := Try.underlying4
  a4 := Try.isAgg4
  z4 := Try.sizeOf4
  v4 := Try.zeroValue4
  t22 := Try.underlying22
  a22 := Try.isAgg22
  z22 := Try.sizeOf22
  v22 := Try.zeroValue22
  t25 := Try.underlying101
  a25 := Try.isAgg101
  z25 := Try.sizeOf101
  v25 := Try.zeroValue101 }
end Go.Proofs.Ythhnkpgagfjdbaa
