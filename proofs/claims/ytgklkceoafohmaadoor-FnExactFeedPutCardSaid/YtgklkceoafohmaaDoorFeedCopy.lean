/- How a feed in a block of its own is lengthened by a text or a bit, and the contract of l11Copy. Conditions: the lengths stay small. -/
import Derived.Test.YtgklkceoafohmaaDoorDrawBlocks
import Derived.Test.YtgklkceoafohmaaDoorBaseH
import Derived.Test.YtgklkceoafohmaaDoorBaseL
import Derived.Deep.RegionHeld3
namespace Go.Proofs.YtgklkceoafohmaaDoor
open Go.RowKit
set_option linter.unusedVariables false

theorem strs_ne_blk {w : World} {base : Nat} {A : Option Addr} {c : Nat} {bs : List ByteArray} {g : Nat} {cs : Array Value} (h : OwnStrs w base A c bs) (hk : Blk w g 28 cs) : ∀ x, A = some ⟨x, 0, none⟩ → x ≠ g := by
  intro x e1 e
  subst e
  rcases h.2 with ⟨hv, _⟩ | ⟨y, c', cur, hv, _, hb, _⟩
  · injection hv with hA _ _; rw [hA] at e1; cases e1
  · injection hv with hA _ _
    rw [e1] at hA
    injection hA with hA
    injection hA with hA _ _
    subst hA
    unfold Blk at hk
    rw [hb] at hk
    injection hk with hk
    injection hk with _ ht _
    exact absurd ht (by decide)
theorem bits_ne_blk {w : World} {base : Nat} {A : Option Addr} {c : Nat} {bs : List Bool} {g : Nat} {cs : Array Value} (h : OwnBools w base A c bs) (hk : Blk w g 28 cs) : ∀ x, A = some ⟨x, 0, none⟩ → x ≠ g := by
  intro x e1 e
  subst e
  rcases h.2 with ⟨hv, _⟩ | ⟨y, c', cur, hv, _, hb, _⟩
  · injection hv with hA _ _; rw [hA] at e1; cases e1
  · injection hv with hA _ _
    rw [e1] at hA
    injection hA with hA
    injection hA with hA _ _
    subst hA
    unfold Blk at hk
    rw [hb] at hk
    injection hk with hk
    injection hk with _ ht _
    exact absurd ht (by decide)
theorem ownBlock_some {A : Option Addr} {n c g : Nat} (h : Value.ownBlock (.slice A n c) = some g) : ∃ o s, A = some ⟨g, o, s⟩ := by
  cases A with
  | none => cases h
  | some a => obtain ⟨b, o, s⟩ := a; simp [Value.ownBlock] at h; subst h; exact ⟨o, s, rfl⟩

/-- A feed in the block g, its rows of the call's own. -/
structure Fd (w : World) (base g : Nat) (p l d s : Int) (A1 : Option Addr) (c1 : Nat) (A2 : Option Addr) (c2 : Nat) (bs : List ByteArray) (hs : List Bool) : Prop where
  strs : OwnStrs w base A1 c1 bs
  bits : OwnBools w base A2 c2 hs
  blk : Blk w g 28 (feedC p l d s A1 bs.length c1 A2 hs.length c2)
  big : base ≤ g
section
variable {w w' : World} {base g : Nat} {p l d s : Int} {A1 A2 : Option Addr} {c1 c2 : Nat} {bs : List ByteArray} {hs : List Bool}
theorem Fd.keep (h : Fd w base g p l d s A1 c1 A2 c2 bs hs) (hk : ∀ i, base ≤ i → i < w.heap.size → w'.heap[i]? = w.heap[i]?) : Fd w' base g p l d s A1 c1 A2 c2 bs hs := by
  refine ⟨owns_block h.strs fun x hx => ?_, ownb_block h.bits fun x hx => ?_, (hk g h.big h.blk.lt).trans h.blk, h.big⟩
  · have := owns_lt h.strs x hx; exact hk x this.1 this.2
  · have := ownb_lt h.bits x hx; exact hk x this.1 this.2
theorem Fd.below (h : Fd w base g p l d s A1 c1 A2 c2 bs hs) (hb : Below w.heap.size w w') : Fd w' base g p l d s A1 c1 A2 c2 bs hs := h.keep fun i _ hi => hb.block i hi
theorem Fd.picked (h : Fd w base g p l d s A1 c1 A2 c2 bs hs) {r : Nat} (hg : w.grownBy w' (some r)) (hr : r < base) : Fd w' base g p l d s A1 c1 A2 c2 bs hs := h.keep fun i hi hl => hg.block i hl (fun e => by injection e with e; omega)
theorem Fd.alloc (h : Fd w base g p l d s A1 c1 A2 c2 bs hs) (o : Obj) : Fd (w.alloc o) base g p l d s A1 c1 A2 c2 bs hs := h.keep fun i _ hl => Below.heap_alloc w o i hl

/-- A bit is appended to the row of bits, and the slice stored. -/
theorem Fd.bit (h : Fd w base g p l d s A1 c1 A2 c2 bs hs) (hb : base ≤ w.heap.size) (x : Bool) (o : Obj) {v : Value} {w4 : World} (hA : AppendedB (w.alloc o) base A2 hs.length c2 (hs ++ [x]) v w4) :
    ∃ A' c', v = .slice A' (hs.length + 1) c' ∧ Blk w4 g 28 (feedC p l d s A1 bs.length c1 A2 hs.length c2) ∧ Fd (w4.setCell ⟨g, 5, none⟩ (.slice A' (hs.length + 1) c')) base g p l d s A1 c1 A' c' bs (hs ++ [x]) ∧ Below base w (w4.setCell ⟨g, 5, none⟩ (.slice A' (hs.length + 1) c')) := by
  obtain ⟨⟨A', c', hv, ho⟩, hg, hbl⟩ := hA
  rw [List.length_append] at hv
  have h1 := h.alloc o
  have hne := bits_ne_blk h1.bits h1.blk
  have hpt := rows_part h1.strs h1.bits
  have hk4 : Blk w4 g 28 (feedC p l d s A1 bs.length c1 A2 hs.length c2) := (hg.block g h1.blk.lt (fun e => by
    obtain ⟨o', s', eA⟩ := ownBlock_some e.symm
    rcases ownb_form h1.bits with hn | ⟨y, hy⟩
    · rw [hn] at eA; cases eA
    · rw [hy] at eA; injection eA with eA; injection eA with eA _ _; exact hne y hy eA)).trans h1.blk
  have hs4 : OwnStrs w4 base A1 c1 bs := owns_block h1.strs fun x' hx => hg.block x' (owns_lt h1.strs x' hx).2 (fun e => by
    obtain ⟨o', s', eA⟩ := ownBlock_some e.symm
    rcases ownb_form h1.bits with hn | ⟨y, hy⟩
    · rw [hn] at eA; cases eA
    · rw [hy] at eA; injection eA with eA; injection eA with eA _ _; exact hpt x' y hx hy eA.symm)
  refine ⟨A', c', hv, hk4, ⟨owns_block hs4 fun x' hx => Below.heap_setCell w4 _ _ x' (strs_ne_blk hs4 hk4 x' hx), ?_, ?_, h.big⟩, ?_⟩
  · refine ownb_block ho fun x' hx => Below.heap_setCell w4 _ _ x' (bits_ne_blk ho hk4 x' hx)
  · have := hk4.setOwn 5 (.slice A' (hs.length + 1) c')
    rw [List.length_append]
    exact this
  · exact (((Below.refl base w).alloc hb o).trans hbl).setCell (p := ⟨g, 5, none⟩) h.big _
/-- A text is appended to the row of texts, and the slice stored. -/
theorem Fd.text (h : Fd w base g p l d s A1 c1 A2 c2 bs hs) (hb : base ≤ w.heap.size) (x : ByteArray) (o : Obj) {v : Value} {w4 : World} (hA : AppendedS (w.alloc o) base A1 bs.length c1 (bs ++ [x]) v w4) :
    ∃ A' c', v = .slice A' (bs.length + 1) c' ∧ Blk w4 g 28 (feedC p l d s A1 bs.length c1 A2 hs.length c2) ∧ Fd (w4.setCell ⟨g, 4, none⟩ (.slice A' (bs.length + 1) c')) base g p l d s A' c' A2 c2 (bs ++ [x]) hs ∧ Below base w (w4.setCell ⟨g, 4, none⟩ (.slice A' (bs.length + 1) c')) := by
  obtain ⟨⟨A', c', hv, ho⟩, hg, hbl⟩ := hA
  rw [List.length_append] at hv
  have h1 := h.alloc o
  have hne := strs_ne_blk h1.strs h1.blk
  have hpt := rows_part h1.strs h1.bits
  have hk4 : Blk w4 g 28 (feedC p l d s A1 bs.length c1 A2 hs.length c2) := (hg.block g h1.blk.lt (fun e => by
    obtain ⟨o', s', eA⟩ := ownBlock_some e.symm
    rcases owns_form h1.strs with hn | ⟨y, hy⟩
    · rw [hn] at eA; cases eA
    · rw [hy] at eA; injection eA with eA; injection eA with eA _ _; exact hne y hy eA)).trans h1.blk
  have hs4 : OwnBools w4 base A2 c2 hs := ownb_block h1.bits fun x' hx => hg.block x' (ownb_lt h1.bits x' hx).2 (fun e => by
    obtain ⟨o', s', eA⟩ := ownBlock_some e.symm
    rcases owns_form h1.strs with hn | ⟨y, hy⟩
    · rw [hn] at eA; cases eA
    · rw [hy] at eA; injection eA with eA; injection eA with eA _ _; exact hpt y x' hy hx eA)
  refine ⟨A', c', hv, hk4, ⟨?_, ownb_block hs4 fun x' hx => Below.heap_setCell w4 _ _ x' (bits_ne_blk hs4 hk4 x' hx), ?_, h.big⟩, ?_⟩
  · refine owns_block ho fun x' hx => Below.heap_setCell w4 _ _ x' (strs_ne_blk ho hk4 x' hx)
  · have := hk4.setOwn 4 (.slice A' (bs.length + 1) c')
    rw [List.length_append]
    exact this
  · exact (((Below.refl base w).alloc hb o).trans hbl).setCell (p := ⟨g, 4, none⟩) h.big _
end

end Go.Proofs.YtgklkceoafohmaaDoor
