/-
  THE LIBRARY's CONTRACTS on slices.Insert and slices.Clone of numbers, laid at this program in plain words.
-/
import Derived.Shelf.Spec.SlicesInsert
import Derived.Shelf.Spec.SlicesInsertGrow
import Derived.Test.YtiglenomigipmaaRows
namespace Go.Proofs.Ytiglenomigipmaa
open Go.Shelf
def sh_ins_ren : Go.Shelf.Ren := ⟨fun | 21 => 50 | 27 => 52 | 28 => 53 | 35 => 54 | 39 => 55 | n => n, fun | 22 => 86 | n => n, fun | n => n⟩
theorem sh_ins : Go.Proofs.Lays2.n21 Try.prog sh_ins_ren := {
  mixed := by kernel_rfl
  f21 := Try.func50.trans (congrArg some (by kernel_rfl))
  f27 := Try.func52.trans (congrArg some (by kernel_rfl))
  f28 := Try.func53.trans (congrArg some (by kernel_rfl))
  f35 := Try.func54.trans (congrArg some (by kernel_rfl))
  f39 := Try.func55.trans (congrArg some (by kernel_rfl))
  t0 := Try.underlying0
  a0 := Try.isAgg0
  z0 := Try.sizeOf0
  v0 := Try.zeroValue0
  t3 := Try.underlying3
  a3 := Try.isAgg3
  z3 := Try.sizeOf3
  v3 := Try.zeroValue3
  t4 := Try.underlying4
  a4 := Try.isAgg4
  z4 := Try.sizeOf4
  v4 := Try.zeroValue4
  t22 := Try.underlying86
  a22 := Try.isAgg86
  z22 := Try.sizeOf86
  v22 := Try.zeroValue86
  i3 := by kernel_rfl }
end Go.Proofs.Ytiglenomigipmaa
