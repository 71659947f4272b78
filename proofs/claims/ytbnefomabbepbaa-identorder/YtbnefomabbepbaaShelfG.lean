/-
  DERIVED: THE SHELF's CONTRACTS AT THIS DUMP, IN PLAIN WORDS (tools/lay-plain.mjs out of 'TryShelfG.lean', which tools/lay-shelf.mjs wrote): THE SAME DECLARATIONS UNDER THE SAME NAMES: 'import', 'namespace', 'open', 'def', 'theorem' AND NOTHING ELSE: no command of the shelf's: FOR A HAND-IN. Each laying: the table of numbers ('.._ren') and one theorem, a field a fact of the dump's own or the kernel's comparison; each contract: ONE APPLICATION.
-/
import Derived.Shelf.SlGeneric
import Derived.Shelf.SlLaysN
import Derived.Ground.SlgnProg
import Derived.Shelf.SlicesG.Clone
import Derived.Shelf.SlicesG.CompactS
import Derived.Shelf.SortG.Plain
import Derived.Shelf.SortG.SortNone
import Derived.Test.YtbnefomabbepbaaProg
namespace Go.Proofs
open Go.Shelf
def Try.laysG42_ren : Go.Shelf.Ren := ⟨fun | 42 => 26 | n => n, fun | 25 => 32 | 26 => 22 | 4 => 4 | n => n, fun | n => n⟩
theorem Try.laysG42 : Go.Proofs.SlLaysN.n42 Try.prog Try.laysG42_ren := {
  mixed := by kernel_rfl
  f42 := ⟨Try.f26.name, by decide, Try.func26.trans (congrArg some (by kernel_rfl))⟩
  t4 := Try.underlying4
  a4 := Try.isAgg4
  z4 := Try.sizeOf4
  v4 := Try.zeroValue4
  t25 := Try.underlying32
  a25 := Try.isAgg32
  z25 := Try.sizeOf32
  v25 := Try.zeroValue32
  t26 := Try.underlying22
  a26 := Try.isAgg22
  z26 := Try.sizeOf22
  v26 := Try.zeroValue22
  i26 := by kernel_rfl }
def Try.laysG54_ren : Go.Shelf.Ren := ⟨fun | 54 => 27 | 64 => 35 | 65 => 34 | 78 => 48 | 79 => 49 | 80 => 39 | 81 => 40 | 82 => 41 | 83 => 42 | 84 => 43 | 85 => 44 | 61 => 45 | 86 => 46 | 87 => 47 | 93 => 50 | 89 => 51 | 90 => 52 | 94 => 53 | 95 => 54 | 69 => 55 | 97 => 56 | n => n, fun | 25 => 32 | 26 => 22 | 3 => 3 | 51 => 53 | 0 => 0 | 67 => 64 | 69 => 66 | 4 => 4 | 61 => 57 | 60 => 56 | 44 => 61 | 5 => 5 | 9 => 9 | 75 => 68 | 79 => 72 | 83 => 74 | 84 => 75 | n => n, fun | n => n⟩
theorem Try.laysG54 : Go.Proofs.SlLaysN.n54 Try.prog Try.laysG54_ren := {
  mixed := by kernel_rfl
  f54 := ⟨Try.f27.name, by decide, Try.func27.trans (congrArg some (by kernel_rfl))⟩
  f61 := ⟨Try.f45.name, by decide, Try.func45.trans (congrArg some (by kernel_rfl))⟩
  f64 := Try.func35.trans (congrArg some (by kernel_rfl))
  f65 := ⟨Try.f34.name, by decide, Try.func34.trans (congrArg some (by kernel_rfl))⟩
  f69 := ⟨Try.f55.name, by decide, Try.func55.trans (congrArg some (by kernel_rfl))⟩
  f78 := Try.func48.trans (congrArg some (by kernel_rfl))
  f79 := Try.func49.trans (congrArg some (by kernel_rfl))
  f80 := ⟨Try.f39.name, by decide, Try.func39.trans (congrArg some (by kernel_rfl))⟩
  f81 := ⟨Try.f40.name, by decide, Try.func40.trans (congrArg some (by kernel_rfl))⟩
  f82 := ⟨Try.f41.name, by decide, Try.func41.trans (congrArg some (by kernel_rfl))⟩
  f83 := ⟨Try.f42.name, by decide, Try.func42.trans (congrArg some (by kernel_rfl))⟩
  f84 := ⟨Try.f43.name, by decide, Try.func43.trans (congrArg some (by kernel_rfl))⟩
  f85 := ⟨Try.f44.name, by decide, Try.func44.trans (congrArg some (by kernel_rfl))⟩
  f86 := ⟨Try.f46.name, by decide, Try.func46.trans (congrArg some (by kernel_rfl))⟩
  f87 := ⟨Try.f47.name, by decide, Try.func47.trans (congrArg some (by kernel_rfl))⟩
  f89 := Try.func51.trans (congrArg some (by kernel_rfl))
  f90 := Try.func52.trans (congrArg some (by kernel_rfl))
  f93 := ⟨Try.f50.name, by decide, Try.func50.trans (congrArg some (by kernel_rfl))⟩
  f94 := ⟨Try.f53.name, by decide, Try.func53.trans (congrArg some (by kernel_rfl))⟩
  f95 := ⟨Try.f54.name, by decide, Try.func54.trans (congrArg some (by kernel_rfl))⟩
  f97 := ⟨Try.f56.name, by decide, Try.func56.trans (congrArg some (by kernel_rfl))⟩
  t0 := Try.underlying0
  a0 := Try.isAgg0
  z0 := Try.sizeOf0
  v0 := Try.zeroValue0
  t3 := Try.underlying3
  a3 := Try.isAgg3
  z3 := Try.sizeOf3
  v3 := Try.zeroValue3
  t4 := Try.underlying4
  a4 := Try.isAgg4
  z4 := Try.sizeOf4
  v4 := Try.zeroValue4
  t5 := Try.underlying5
  a5 := Try.isAgg5
  z5 := Try.sizeOf5
  v5 := Try.zeroValue5
  t9 := Try.underlying9
  a9 := Try.isAgg9
  z9 := Try.sizeOf9
  v9 := Try.zeroValue9
  t25 := Try.underlying32
  a25 := Try.isAgg32
  z25 := Try.sizeOf32
  v25 := Try.zeroValue32
  t26 := Try.underlying22
  a26 := Try.isAgg22
  z26 := Try.sizeOf22
  v26 := Try.zeroValue22
  t44 := Try.underlying61
  a44 := Try.isAgg61
  z44 := Try.sizeOf61
  v44 := Try.zeroValue61
  t51 := Try.underlying53
  a51 := Try.isAgg53
  z51 := Try.sizeOf53
  v51 := Try.zeroValue53
  t60 := Try.underlying56
  a60 := Try.isAgg56
  z60 := Try.sizeOf56
  v60 := Try.zeroValue56
  t61 := Try.underlying57
  a61 := Try.isAgg57
  z61 := Try.sizeOf57
  v61 := Try.zeroValue57
  t67 := Try.underlying64
  a67 := Try.isAgg64
  z67 := Try.sizeOf64
  v67 := Try.zeroValue64
  t69 := Try.underlying66
  a69 := Try.isAgg66
  z69 := Try.sizeOf66
  v69 := Try.zeroValue66
  t75 := Try.underlying68
  a75 := Try.isAgg68
  z75 := Try.sizeOf68
  v75 := Try.zeroValue68
  t79 := Try.underlying72
  a79 := Try.isAgg72
  z79 := Try.sizeOf72
  v79 := Try.zeroValue72
  t83 := Try.underlying74
  a83 := Try.isAgg74
  z83 := Try.sizeOf74
  v83 := Try.zeroValue74
  t84 := Try.underlying75
  a84 := Try.isAgg75
  z84 := Try.sizeOf75
  v84 := Try.zeroValue75 }
def Try.laysG44_ren : Go.Shelf.Ren := ⟨fun | 44 => 28 | n => n, fun | 25 => 32 | 26 => 22 | 3 => 3 | 4 => 4 | 0 => 0 | n => n, fun | n => n⟩
theorem Try.laysG44 : Go.Proofs.SlLaysN.n44 Try.prog Try.laysG44_ren := {
  mixed := by kernel_rfl
  f44 := ⟨Try.f28.name, by decide, Try.func28.trans (congrArg some (by kernel_rfl))⟩
  t0 := Try.underlying0
  a0 := Try.isAgg0
  z0 := Try.sizeOf0
  v0 := Try.zeroValue0
  t3 := Try.underlying3
  a3 := Try.isAgg3
  z3 := Try.sizeOf3
  v3 := Try.zeroValue3
  t4 := Try.underlying4
  a4 := Try.isAgg4
  z4 := Try.sizeOf4
  v4 := Try.zeroValue4
  t25 := Try.underlying32
  a25 := Try.isAgg32
  z25 := Try.sizeOf32
  v25 := Try.zeroValue32
  t26 := Try.underlying22
  a26 := Try.isAgg22
  z26 := Try.sizeOf22
  v26 := Try.zeroValue22
  i26 := by kernel_rfl }
end Go.Proofs
