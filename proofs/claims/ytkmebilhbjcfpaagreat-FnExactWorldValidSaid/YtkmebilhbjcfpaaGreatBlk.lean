/- The words for blocks that are known whole, for seats that fill the texts of trees. No conditions. -/
import Derived.Test.YtkmebilhbjcfpaaGreatBaseH
import Derived.Test.YtkmebilhbjcfpaaGreatBaseE
import Derived.Deep.RegionHeld3
import Derived.Deep.AppendLies
import Derived.Laws.Pointers
namespace Go.Proofs.YtkmebilhbjcfpaaGreat
theorem blk_same (w : World) (g : Nat) (t : TypeId) (cs : Array Value) (h : Blk w g t cs) : w.heap[g]? = some (.cells cs t (0, 0)) := h
end Go.Proofs.YtkmebilhbjcfpaaGreat
