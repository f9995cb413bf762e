/- What slices.Sorted(maps.Keys(m)) gives at a map of integer keys that is not nil: its keys, sorted, in memory of the call's own. Conditions: the map's block lies in memory. -/
import Derived.Test.YtkicfneikbiklaaBaseA
import Derived.Test.YtkicfneikbiklaaLayP
import Derived.Maps.Own
namespace Go.Proofs.Ytkicfneikbiklaa
open Go.RowKit Go.Maps Go.Sort Go.Shelf
set_option linter.unusedVariables false

theorem sortsA (m : Nat) : AnyZI.SortsIn Try.prog lsorted_ren Fence.wide m :=
  ⟨fun blk off cap ss W hH hblk hsz => callsIn_wide.2 (AnyM.slices_Sort_int lsort blk off cap ss W hH hblk hsz),
   fun p cap W => callsIn_wide.2 (AnyM.slices_Sort_int_none lsort p cap W)⟩

end Go.Proofs.Ytkicfneikbiklaa
