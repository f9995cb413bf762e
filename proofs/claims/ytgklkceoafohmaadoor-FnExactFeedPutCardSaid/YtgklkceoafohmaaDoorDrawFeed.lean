/- Contracts of DrawFeedValid and DrawFeedProve: a small feed in memory of the call's own, and a number; nothing that was there is changed. Condition: the code's bytes lie in memory. -/
import Derived.Test.YtgklkceoafohmaaDoorDrawSpoilt
namespace Go.Proofs.YtgklkceoafohmaaDoor
open Go.RowKit
set_option linter.unusedVariables false

theorem in_alloc {w : World} {A : Option Addr} {len cap : Nat} (h : In w A len cap) (o : Obj) : In (w.alloc o) A len cap :=
  ⟨fun k hk => by
    obtain ⟨b, o', z, hA, hb, hc, h0, h1⟩ := h.bytes k hk
    exact ⟨b, o', z, hA, by simp; omega, (World.cell?_of_block (a := ⟨b, o' + k, none⟩) (Below.heap_alloc w o b hb)).trans hc, h0, h1⟩, h.le, h.most⟩
def FeedDrawn (w : World) (e : Ending) (w' : World) : Prop :=
  ∃ p l d s A1 c1 A2 c2 bs hs, e = .returned (feedV p l d s A1 (List.length bs) c1 A2 (List.length hs) c2) ∧ OwnFeed w' w.heap.size A1 c1 A2 c2 bs hs ∧ bs.length ≤ 16 ∧ hs.length ≤ 17 ∧ Below w.heap.size w w'
def FeedNumDrawn (w : World) (e : Ending) (w' : World) : Prop :=
  ∃ p l d s A1 c1 A2 c2 bs hs i, e = .returned (.tuple #[feedV p l d s A1 (List.length bs) c1 A2 (List.length hs) c2, .int .i64 i]) ∧ OwnFeed w' w.heap.size A1 c1 A2 c2 bs hs ∧ bs.length ≤ 16 ∧ hs.length ≤ 17 ∧ -100 ≤ i ∧ i ≤ 100 ∧ Below w.heap.size w w'
/-- Six cells of a block are written that is no row's. -/
theorem own_six {W : World} {base g : Nat} {A1 A2 : Option Addr} {c1 c2 : Nat} {bs : List ByteArray} {hs : List Bool} {cs : Array Value} (h : OwnFeed W base A1 c1 A2 c2 bs hs) (hk : Blk W g 28 cs) (v0 v1 v2 v3 v4 v5 : Value) : OwnFeed ((((((W.setCell ⟨g, 0, none⟩ v0).setCell ⟨g, 1, none⟩ v1).setCell ⟨g, 2, none⟩ v2).setCell ⟨g, 3, none⟩ v3).setCell ⟨g, 4, none⟩ v4).setCell ⟨g, 5, none⟩ v5) base A1 c1 A2 c2 bs hs := by
  have hn : ∀ i, i ≠ g → ((((((W.setCell ⟨g, 0, none⟩ v0).setCell ⟨g, 1, none⟩ v1).setCell ⟨g, 2, none⟩ v2).setCell ⟨g, 3, none⟩ v3).setCell ⟨g, 4, none⟩ v4).setCell ⟨g, 5, none⟩ v5).heap[i]? = W.heap[i]? := fun i hi => by
    rw [Below.heap_setCell _ ⟨g, 5, none⟩ _ i hi, Below.heap_setCell _ ⟨g, 4, none⟩ _ i hi, Below.heap_setCell _ ⟨g, 3, none⟩ _ i hi, Below.heap_setCell _ ⟨g, 2, none⟩ _ i hi, Below.heap_setCell _ ⟨g, 1, none⟩ _ i hi, Below.heap_setCell _ ⟨g, 0, none⟩ _ i hi]
  exact ⟨owns_block h.strs fun x hx => hn x (strs_ne_blk h.strs hk x hx), ownb_block h.bits fun x hx => hn x (bits_ne_blk h.bits hk x hx), h.fit⟩





end Go.Proofs.YtgklkceoafohmaaDoor
