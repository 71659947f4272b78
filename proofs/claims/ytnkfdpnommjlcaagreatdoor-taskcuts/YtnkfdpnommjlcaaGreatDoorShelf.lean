import Derived.Test.YtnkfdpnommjlcaaGreatDoorNext
import Derived.Shelf.SlicesQ.IndexFunc
import Derived.Lib.SmallJoins
import Derived.Lib.Hide
namespace Go.Proofs
open Go.Shelf
def Tryz.laysH6_ren : Go.Shelf.Ren := ⟨fun | 6 => 98 | n => n, fun | 22 => 22 | 23 => 58 | 25 => 153 | 0 => 0 | 3 => 3 | 4 => 4 | n => n, fun | n => n⟩
theorem Tryz.laysH6 : Go.Proofs.SlLaysH0.n6 Tryz.prog Tryz.laysH6_ren := {
  mixed := by kernel_rfl
  f6 := ⟨Tryz.f98.name, by kernel_rfl, Tryz.func98.trans (congrArg some (by kernel_rfl))⟩
  t0 := Tryz.underlying0
  a0 := Tryz.isAgg0
  z0 := Tryz.sizeOf0
  v0 := Tryz.zeroValue0
  t3 := Tryz.underlying3
  a3 := Tryz.isAgg3
  z3 := Tryz.sizeOf3
  v3 := Tryz.zeroValue3
  t4 := Tryz.underlying4
  a4 := Tryz.isAgg4
  z4 := Tryz.sizeOf4
  v4 := Tryz.zeroValue4
  t22 := Tryz.underlying22
  a22 := Tryz.isAgg22
  z22 := Tryz.sizeOf22
  v22 := Tryz.zeroValue22
  t25 := Tryz.underlying153
  a25 := Tryz.isAgg153
  z25 := Tryz.sizeOf153
  v25 := Tryz.zeroValue153 }
end Go.Proofs
