/- Contracts of l91Digest and DrawDigestPair: they return integers from -1 to 991, move the reader on, and change nothing that was there before. Condition: the reader's place is at most 100000; the code's bytes lie in memory. Contracts of l91Leaves and of the draws of leaves: at most 28 integers from -1 to 991 in memory of the call's own; the reader moves on. Condition: the reader's place is at most  -/
import Derived.Test.YtkmebilhbjcfpaaGreatBaseA
namespace Go.Proofs.YtkmebilhbjcfpaaGreat
open Go.RowKit







end Go.Proofs.YtkmebilhbjcfpaaGreat

namespace Go.Proofs.YtkmebilhbjcfpaaGreat
open Go.RowKit
set_option linter.unusedVariables false

/-- Numbers that may be drawn. -/
def Near (zs : List Int) : Prop := ∀ x ∈ zs, -1 ≤ x ∧ x ≤ 991
theorem Near.snoc {zs : List Int} (h : Near zs) {x : Int} (hx : -1 ≤ x ∧ x ≤ 991) : Near (zs ++ [x]) := by
  intro y hy
  rcases List.mem_append.1 hy with e | e
  · exact h y e
  · have : y = x := by simpa using e
    subst this; exact hx
theorem Near.zeros {zs : List Int} (h : Near zs) (k : Nat) : Near (zs ++ zerosZ k) := by
  intro y hy
  rcases List.mem_append.1 hy with e | e
  · exact h y e
  · have := (List.mem_replicate.1 e).2
    subst this; omega
theorem Near.set {zs : List Int} (h : Near zs) (k : Nat) {x : Int} (hx : -1 ≤ x ∧ x ≤ 991) : Near (zs.set k x) := by
  intro y hy
  rcases List.mem_or_eq_of_mem_set hy with e | e
  · exact h y e
  · subst e; exact hx
theorem OwnInts.some_ {w : World} {base : Nat} {A : Option Addr} {cap : Nat} {zs : List Int} (h : OwnInts w base A cap zs) (hn : 0 < zs.length) : ∃ b, A = some ⟨b, 0, none⟩ := by
  obtain ⟨g, c, hv, _, _⟩ := World.ownsRow.form h hn
  injection hv with hA _ _
  exact ⟨g, hA⟩
/-- A row of the call's own is kept where another block has turned. -/
theorem OwnInts.keep {w w' : World} {base : Nat} {A : Option Addr} {cap : Nat} {zs : List Int} (h : OwnInts w base A cap zs) {row : Option Nat} (hg : w.grownBy w' row) (hr : ∀ k, row = some k → k < base) : OwnInts w' base A cap zs := by
  refine World.ownsRow.kept h hg ?_
  rcases h.2 with ⟨hv, _⟩ | ⟨g, c, cur, hv, hb, _⟩
  · left; rw [hv]; rfl
  · right
    rw [hv]
    intro e
    have := hr g (by simpa [Value.ownBlock] using e.symm)
    omega
theorem OwnInts.stored {w : World} {base b cap : Nat} {zs : List Int} (h : OwnInts w base (some ⟨b, 0, none⟩) cap zs) (j : Nat) (x : Int) : OwnInts (w.setCell ⟨b, j, none⟩ (.int .i64 x)) base (some ⟨b, 0, none⟩) cap (zs.set j x) := by
  have := (World.ownsRow.stored h j (.int .i64 x)).1
  unfold OwnInts
  rw [List.length_set]
  have e : vals (zs.set j x) = (vals zs).set j (i64 x) := by unfold vals; rw [List.map_set]
  rw [e]
  exact this











/-- What a draw of leaves hands back. -/
def ListDrawn (w : World) (e : Ending) (w' : World) : Prop :=
  ∃ b c zs, e = .returned (.slice (some ⟨b, 0, none⟩) zs.length c) ∧ zs.length ≤ 28 ∧ Near zs ∧ OwnInts w' w.heap.size (some ⟨b, 0, none⟩) c zs ∧ Below w.heap.size w w'

end Go.Proofs.YtkmebilhbjcfpaaGreat
