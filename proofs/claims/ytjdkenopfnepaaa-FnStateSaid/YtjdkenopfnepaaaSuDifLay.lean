/- The shelf's contract of maps.Clone, laid at this program. -/
import Derived.Shelf.SlMaps.Clone
import Derived.Test.YtjdkenopfnepaaaProg
namespace Go.Proofs
open Go.Shelf
def Try.cloneS_ren : Go.Shelf.Ren := ⟨fun | 5 => 117 | 7 => 135 | n => n, fun | 23 => 103 | 25 => 114 | 3 => 2 | 4 => 4 | 20 => 20 | n => n, fun | n => n⟩
theorem Try.cloneS : Go.Proofs.SlLaysW.n5 Try.prog Try.cloneS_ren := {
  mixed := by kernel_rfl
  f5 := ⟨Try.f117.name, by decide, Try.func117.trans (congrArg some (by kernel_rfl))⟩
  f7 := Try.func135.trans (congrArg some (by kernel_rfl))
  t4 := Try.underlying4
  a4 := Try.isAgg4
  z4 := Try.sizeOf4
  v4 := Try.zeroValue4
  t20 := Try.underlying20
  a20 := Try.isAgg20
  z20 := Try.sizeOf20
  v20 := Try.zeroValue20
  t23 := Try.underlying103
  a23 := Try.isAgg103
  z23 := Try.sizeOf103
  v23 := Try.zeroValue103 }
end Go.Proofs
