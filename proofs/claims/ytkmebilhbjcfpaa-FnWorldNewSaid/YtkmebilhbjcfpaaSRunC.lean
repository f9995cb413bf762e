/- Contract of the model's l51Piece: it answers as the data say. Conditions: the run and the block in transit lie in memory, the blocks of the writer are short and as many as its head says. -/
import Derived.Test.YtkmebilhbjcfpaaSRunB
import Derived.Test.YtkmebilhbjcfpaaSSame
import Derived.Test.YtkmebilhbjcfpaaFeedProve
import Derived.Deep.RegionHeld3
namespace Go.Proofs.Ytkmebilhbjcfpaa
open Go.RowKit
set_option linter.unusedVariables false

/-- Does a block in transit suit a run of n peers, whose writer has blocks bs and a head of length l0? -/
def pieceB (n : Nat) (l0 : Int) (bs : List ByteArray) (p : PcD) : Bool :=
  (decide (0 ≤ p.fr) && decide (p.fr ≤ (n : Int) - 1)) && ((decide (0 ≤ p.to) && decide (p.to ≤ (n : Int) - 1)) && ((decide (1 ≤ p.ln) && decide (p.ln ≤ l0)) && ((decide (0 ≤ p.ix) && decide (p.ix ≤ p.ln - 1)) && (decide (p.tx.size ≤ 8) && decide (p.pf = proofOr (leafL (bs.take p.ln.toNat)) p.ix)))))
theorem pieceB_iff (W : WD) (p : PcD) : pieceB W.fs.length (fth W.fs 0).l (fth W.fs 0).bs p = true ↔ PieceW W p := by
  unfold pieceB
  simp only [Bool.and_eq_true, decide_eq_true_eq]
  constructor
  · rintro ⟨⟨a1, a2⟩, ⟨a3, a4⟩, ⟨a5, a6⟩, ⟨a7, a8⟩, a9, a10⟩
    exact ⟨⟨a1, by omega⟩, ⟨a3, by omega⟩, ⟨a5, a6⟩, ⟨a7, by omega⟩, a9, a10⟩
  · rintro ⟨⟨a1, a2⟩, ⟨a3, a4⟩, ⟨a5, a6⟩, ⟨a7, a8⟩, a9, a10⟩
    exact ⟨⟨a1, by omega⟩, ⟨a3, by omega⟩, ⟨a5, a6⟩, ⟨a7, by omega⟩, a9, a10⟩

end Go.Proofs.Ytkmebilhbjcfpaa
