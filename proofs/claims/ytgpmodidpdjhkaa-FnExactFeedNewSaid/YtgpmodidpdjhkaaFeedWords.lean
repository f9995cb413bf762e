/- Words for a feed in memory: its texts and bits lie there, and no text is longer than a text can be; the same for a feed of the call's own; how both are kept. No conditions. -/
import Derived.Test.YtgpmodidpdjhkaaFeedMath
namespace Go.Proofs.Ytgpmodidpdjhkaa
open Go.RowKit
set_option linter.unusedVariables false

/-- No text is longer than a text can be. -/
def Fit (bs : List ByteArray) : Prop := ∀ k, (sth bs k).size ≤ maxLen
theorem sth_none (bs : List ByteArray) (k : Nat) (h : bs.length ≤ k) : sth bs k = ByteArray.empty := by
  unfold sth; rw [List.getD_eq_getElem?_getD, List.getElem?_eq_none h]; rfl
theorem Fit.of {bs : List ByteArray} (h : ∀ x ∈ bs, x.size ≤ maxLen) : Fit bs := fun k => by
  by_cases hk : k < bs.length
  · rw [sth_get bs k hk]; exact h _ (List.getElem_mem hk)
  · rw [sth_none bs k (by omega)]; exact Nat.zero_le _
theorem Fit.mem {bs : List ByteArray} (h : Fit bs) : ∀ x ∈ bs, x.size ≤ maxLen := fun x hx => by
  obtain ⟨k, hk, rfl⟩ := List.getElem_of_mem hx
  rw [← sth_get bs k hk]; exact h k

/-- The texts and bits of a feed lie in memory, below block B. -/
structure FeedAt (w : World) (B : Nat) (A1 A2 : Option Addr) (bs : List ByteArray) (hs : List Bool) : Prop where
  strs : StrsAt w B A1 bs
  bits : BoolsAt w B A2 hs
  fit : Fit bs
  lb : bs.length ≤ maxLen
  lh : hs.length ≤ maxLen
section
variable {w w' : World} {B B' : Nat} {A1 A2 : Option Addr} {bs : List ByteArray} {hs : List Bool}
theorem FeedAt.more (h : FeedAt w B A1 A2 bs hs) (hB : B ≤ B') : FeedAt w B' A1 A2 bs hs := ⟨h.strs.more hB, h.bits.more hB, h.fit, h.lb, h.lh⟩
theorem FeedAt.belowS (h : FeedAt w w.heap.size A1 A2 bs hs) (hb : Below w.heap.size w w') : FeedAt w' w'.heap.size A1 A2 bs hs := ⟨h.strs.belowS hb, h.bits.belowS hb, h.fit, h.lb, h.lh⟩
theorem FeedAt.allocS (h : FeedAt w w.heap.size A1 A2 bs hs) (o : Obj) : FeedAt (w.alloc o) (w.alloc o).heap.size A1 A2 bs hs := ⟨h.strs.allocS o, h.bits.allocS o, h.fit, h.lb, h.lh⟩
theorem FeedAt.keepS (h : FeedAt w w.heap.size A1 A2 bs hs) (hk : ∀ p : Addr, p.block < w.heap.size → w'.cell? p = w.cell? p) (hz : w.heap.size ≤ w'.heap.size) : FeedAt w' w'.heap.size A1 A2 bs hs :=
  ⟨(h.strs.keep hk).more hz, (h.bits.keep hk).more hz, h.fit, h.lb, h.lh⟩
end

/-- A feed of the call's own. -/
structure OwnFeed (w : World) (base : Nat) (A1 : Option Addr) (c1 : Nat) (A2 : Option Addr) (c2 : Nat) (bs : List ByteArray) (hs : List Bool) : Prop where
  strs : OwnStrs w base A1 c1 bs
  bits : OwnBools w base A2 c2 hs
  fit : Fit bs
section
variable {w w' : World} {base : Nat} {A1 A2 : Option Addr} {c1 c2 : Nat} {bs : List ByteArray} {hs : List Bool}
theorem OwnFeed.at_ (h : OwnFeed w base A1 c1 A2 c2 bs hs) : FeedAt w w.heap.size A1 A2 bs hs := ⟨h.strs.ints, h.bits.ints, h.fit, Nat.le_trans h.strs.le.1 h.strs.le.2, Nat.le_trans h.bits.le.1 h.bits.le.2⟩
theorem OwnFeed.below (h : OwnFeed w base A1 c1 A2 c2 bs hs) (hb : Below w.heap.size w w') : OwnFeed w' base A1 c1 A2 c2 bs hs := ⟨h.strs.below hb, h.bits.below hb, h.fit⟩
theorem OwnFeed.alloc (h : OwnFeed w base A1 c1 A2 c2 bs hs) (o : Obj) : OwnFeed (w.alloc o) base A1 c1 A2 c2 bs hs := ⟨h.strs.alloc o, h.bits.alloc o, h.fit⟩
theorem OwnFeed.base_le (h : OwnFeed w base A1 c1 A2 c2 bs hs) {b : Nat} (hb : b ≤ base) : OwnFeed w b A1 c1 A2 c2 bs hs := ⟨h.strs.base_le hb, h.bits.base_le hb, h.fit⟩
end

/-- A feed as a value. -/
abbrev feedV (p l d s : Int) (A1 : Option Addr) (n1 c1 : Nat) (A2 : Option Addr) (n2 c2 : Nat) : Value := .agg #[.int .i64 p, .int .i64 l, .int .i64 d, .int .i64 s, .slice A1 n1 c1, .slice A2 n2 c2]

end Go.Proofs.Ytgpmodidpdjhkaa
