/- l11Leaves hands back a slice that is not nil; the growth of few leaves is short. Conditions: the texts lie in memory and are short. -/
import Derived.Test.YtkmebilhbjcfpaaBaseH
import Derived.Test.YtkmebilhbjcfpaaBaseC
import Derived.Test.YtkmebilhbjcfpaaBaseG
namespace Go.Proofs.Ytkmebilhbjcfpaa
open Go.RowKit
set_option linter.unusedVariables false

def RetSome (w : World) (zs : List Int) (e : Ending) (w' : World) : Prop :=
  ∃ b cap, e = .returned (.slice (some ⟨b, 0, none⟩) zs.length cap) ∧ OwnInts w' w.heap.size (some ⟨b, 0, none⟩) cap zs ∧ Below w.heap.size w w'



end Go.Proofs.Ytkmebilhbjcfpaa
