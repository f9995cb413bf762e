/- A slice of integers that came in, with its room. No conditions. -/
import Derived.Test.YtgklkceoafohmaaDoorBaseA
namespace Go.Proofs.YtgklkceoafohmaaDoor
open Go.RowKit

/-- A proof of growth that came in. -/
structure GrowthAt (w : World) (X : Option Addr) (cz : Nat) (zs : List Int) : Prop where
  ints : IntsAt w w.heap.size X zs
  le : zs.length ≤ cz
  most : cz ≤ maxLen
theorem GrowthAt.below {w w' : World} {X : Option Addr} {cz : Nat} {zs : List Int} (h : GrowthAt w X cz zs) (hb : Below w.heap.size w w') : GrowthAt w' X cz zs := ⟨h.ints.belowS hb, h.le, h.most⟩

end Go.Proofs.YtgklkceoafohmaaDoor
