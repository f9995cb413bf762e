/- Contracts of FeedProve and of its model: the proof of a block of a whole feed in memory of its own; nothing that was there is changed. Condition: the feed lies in memory. -/
import Derived.Test.YtkmebilhbjcfpaaGreatSFeedValid
import Derived.Test.YtkmebilhbjcfpaaGreatBaseF
namespace Go.Proofs.YtkmebilhbjcfpaaGreat
open Go.RowKit
set_option linter.unusedVariables false

def proveOk (f : FD) (i : Int) : Bool := okB f && (wholeB f.hs && decide (0 ≤ i ∧ i < f.bs.length))
def proveL (f : FD) (i : Int) : List Int := if proveOk f i = true then proofOr (leafL f.bs) i else []
theorem proveOk_iff (f : FD) (i : Int) : proveOk f i = true ↔ FeedOk f ∧ wholeB f.hs = true ∧ 0 ≤ i ∧ i < f.bs.length := by
  unfold proveOk; rw [Bool.and_eq_true, Bool.and_eq_true, okB_iff, decide_eq_true_eq]
theorem proveOk_no {f : FD} {i : Int} (h : ¬ (FeedOk f ∧ wholeB f.hs = true ∧ 0 ≤ i ∧ i < f.bs.length)) : proveOk f i = false := by
  rw [Bool.eq_false_iff]; exact fun e => h ((proveOk_iff f i).1 e)
theorem proveL_no {f : FD} {i : Int} (h : proveOk f i = false) : proveL f i = [] := by unfold proveL; rw [h]; rfl
theorem proveL_yes {f : FD} {i : Int} (h : proveOk f i = true) : proveL f i = proofOr (leafL f.bs) i := by unfold proveL; rw [h]; rfl
/-- What FeedProve hands back. -/
def ProveRet (w : World) (zs : List Int) (R : Bool) (e : Ending) (w' : World) : Prop :=
  ∃ X c, e = .returned (.tuple #[.slice X zs.length c, .bool R]) ∧ OwnInts w' w.heap.size X c zs ∧ Below w.heap.size w w'

/-- TreeProof at a row of the call's own that is not empty. -/
theorem tproof_own {w : World} {base : Nat} {X : Option Addr} {c n : Nat} {zs : List Int} (h : OwnInts w base X c zs) (hl : zs.length = n) (hn : ¬ n = 0) (i : Int) :
    Calls Tryz.prog 133 #[.slice X n c, .int .i64 i] w (RetInts w (proofOr zs i)) := by
  obtain ⟨g, c', hv, _, _⟩ := World.ownsRow.form h (by omega)
  injection hv with hA _ _
  subst hA
  have := proof_any zs i g 0 c w h.ints h.le.1 h.le.2
  rw [hl] at this
  exact this

/-- TreeProof at a row of the call's own that is not empty. -/
theorem stproof_own {w : World} {base : Nat} {X : Option Addr} {c n : Nat} {zs : List Int} (h : OwnInts w base X c zs) (hl : zs.length = n) (hn : ¬ n = 0) (i : Int) :
    Calls Tryz.prog 67 #[.slice X n c, .int .i64 i] w (RetInts w (proofOr zs i)) := by
  obtain ⟨g, c', hv, _, _⟩ := World.ownsRow.form h (by omega)
  injection hv with hA _ _
  subst hA
  have := sproof_any zs i g 0 c w h.ints h.le.1 h.le.2
  rw [hl] at this
  exact this



















theorem whole_none {hs : List Bool} (h : 0 < hs.length) : wholeB hs = noneF hs := by rw [wholeB_eq, decide_eq_true h]; rfl





end Go.Proofs.YtkmebilhbjcfpaaGreat
