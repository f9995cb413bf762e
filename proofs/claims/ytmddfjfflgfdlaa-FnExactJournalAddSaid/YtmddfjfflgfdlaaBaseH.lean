/- The plain mathematics of feeds: what a feed is as data, when it is valid, and the leaves of its blocks. No conditions. Words for a feed in memory: its texts and bits lie there, and no text is longer than a text can be; the same for a feed of the call's own; how both are kept. No conditions. -/
import Derived.Test.YtmddfjfflgfdlaaBaseD
import Derived.Test.YtmddfjfflgfdlaaBaseA
namespace Go.Proofs.Ytmddfjfflgfdlaa
open Go.RowKit
set_option linter.unusedVariables false

/-- A feed as data: public key; length, digest and signature of the head; texts; which of them are there. -/
structure FD where
  p : Int
  l : Int
  d : Int
  s : Int
  bs : List ByteArray
  hs : List Bool

def zeroF : FD := ⟨0, 0, 0, 0, [], []⟩
def newF (p : Int) : FD := ⟨p, 0, 0, 0, [], []⟩

/-- The digests of texts. -/
def leafL (bs : List ByteArray) : List Int := bs.map textOr
theorem leafL_length (bs : List ByteArray) : (leafL bs).length = bs.length := List.length_map _
theorem leafL_append (a b : List ByteArray) : leafL (a ++ b) = leafL a ++ leafL b := List.map_append
theorem leafL_take (bs : List ByteArray) (k : Nat) : leafL (bs.take k) = (leafL bs).take k := List.map_take
theorem sth_get (bs : List ByteArray) (k : Nat) (h : k < bs.length) : sth bs k = bs[k] := by
  unfold sth; rw [List.getD_eq_getElem?_getD, List.getElem?_eq_getElem h]; rfl
theorem bth_get (hs : List Bool) (k : Nat) (h : k < hs.length) : bth hs k = hs[k] := by
  unfold bth; rw [List.getD_eq_getElem?_getD, List.getElem?_eq_getElem h]; rfl
theorem take_sth (bs : List ByteArray) (k : Nat) (h : k < bs.length) : bs.take (k + 1) = bs.take k ++ [sth bs k] := by
  rw [List.take_succ_eq_append_getElem h, sth_get bs k h]
theorem leafL_next (bs : List ByteArray) (k : Nat) (h : k < bs.length) : leafL (bs.take (k + 1)) = leafL (bs.take k) ++ [textOr (sth bs k)] := by
  rw [take_sth bs k h, leafL_append]; rfl
theorem nth_leafL (bs : List ByteArray) (k : Nat) (h : k < bs.length) : nth (leafL bs) k = textOr (sth bs k) := by
  unfold nth leafL
  rw [List.getD_eq_getElem?_getD, List.getElem?_map, List.getElem?_eq_getElem h, sth_get bs k h]; rfl

/-- No text is too long, and none stands at a block that is not there. -/
def TextsOk (bs : List ByteArray) (hs : List Bool) : Prop := ∀ k, k < bs.length → (sth bs k).size ≤ 8 ∧ (sth bs k = ByteArray.empty ∨ bth hs k = true)
instance (bs : List ByteArray) (hs : List Bool) : Decidable (TextsOk bs hs) := by unfold TextsOk; infer_instance
/-- There are blocks, and all are there. -/
def wholeB (hs : List Bool) : Bool := decide (0 < hs.length ∧ ∀ k, k < hs.length → bth hs k = true)
theorem wholeB_iff (hs : List Bool) : wholeB hs = true ↔ (0 < hs.length ∧ ∀ k, k < hs.length → bth hs k = true) := by simp only [wholeB, decide_eq_true_eq]
theorem wholeB_no {hs : List Bool} {k : Nat} (hk : k < hs.length) (h : bth hs k = false) : wholeB hs = false := by
  rw [Bool.eq_false_iff]
  intro e
  have := ((wholeB_iff hs).1 e).2 k hk
  rw [h] at this
  cases this
theorem wholeB_nil : wholeB [] = false := rfl

def HeadOk (f : FD) : Prop := (f.l = 0 ∧ f.d = 0 ∧ f.s = 0) ∨ signedB f.p f.l f.d f.s = true
instance (f : FD) : Decidable (HeadOk f) := by unfold HeadOk; infer_instance
/-- A valid feed. -/
def FeedOk (f : FD) : Prop := (1 ≤ f.p ∧ f.p < 997) ∧ HeadOk f ∧ ((f.bs.length : Int) = f.l ∧ (f.hs.length : Int) = f.l) ∧ TextsOk f.bs f.hs ∧ (wholeB f.hs = true → digestOr (leafL f.bs) = f.d)
instance (f : FD) : Decidable (FeedOk f) := by unfold FeedOk; infer_instance
def okB (f : FD) : Bool := decide (FeedOk f)
theorem okB_iff (f : FD) : okB f = true ↔ FeedOk f := by simp only [okB, decide_eq_true_eq]
theorem okB_no {f : FD} (h : ¬ FeedOk f) : okB f = false := by rw [Bool.eq_false_iff]; exact fun e => h ((okB_iff f).1 e)
theorem okB_yes {f : FD} (h : FeedOk f) : okB f = true := (okB_iff f).2 h

theorem HeadOk.len {f : FD} (h : HeadOk f) : 0 ≤ f.l ∧ f.l ≤ 16 := by
  rcases h with ⟨h, _, _⟩ | h
  · omega
  · exact ((signedB_iff _ _ _ _).1 h).2.1
theorem FeedOk.len {f : FD} (h : FeedOk f) : f.bs.length ≤ 16 ∧ f.hs.length = f.bs.length := by
  have h1 := h.2.1.len
  have h2 := h.2.2.1
  omega

theorem TextsOk.leaves {bs : List ByteArray} {hs : List Bool} (h : TextsOk bs hs) (h16 : bs.length ≤ 16) : leavesB (leafL bs) = true := by
  refine leavesB_of (by rw [leafL_length]; exact h16) ?_
  intro z hz
  obtain ⟨t, ht, rfl⟩ := List.mem_map.1 hz
  obtain ⟨k, hk, rfl⟩ := List.getElem_of_mem ht
  have := (h k hk).1
  rw [sth_get bs k hk] at this
  rw [textOr_y this]
  exact textZ_bd _
theorem FeedOk.leaves {f : FD} (h : FeedOk f) : leavesB (leafL f.bs) = true := h.2.2.2.1.leaves h.len.1

end Go.Proofs.Ytmddfjfflgfdlaa

namespace Go.Proofs.Ytmddfjfflgfdlaa
open Go.RowKit
set_option linter.unusedVariables false

/-- No text is longer than a text can be. -/
def Fit (bs : List ByteArray) : Prop := ∀ k, (sth bs k).size ≤ maxLen
theorem sth_none (bs : List ByteArray) (k : Nat) (h : bs.length ≤ k) : sth bs k = ByteArray.empty := by
  unfold sth; rw [List.getD_eq_getElem?_getD, List.getElem?_eq_none h]; rfl
theorem Fit.of {bs : List ByteArray} (h : ∀ x ∈ bs, x.size ≤ maxLen) : Fit bs := fun k => by
  by_cases hk : k < bs.length
  · rw [sth_get bs k hk]; exact h _ (List.getElem_mem hk)
  · rw [sth_none bs k (by omega)]; exact Nat.zero_le _
theorem Fit.mem {bs : List ByteArray} (h : Fit bs) : ∀ x ∈ bs, x.size ≤ maxLen := fun x hx => by
  obtain ⟨k, hk, rfl⟩ := List.getElem_of_mem hx
  rw [← sth_get bs k hk]; exact h k

/-- The texts and bits of a feed lie in memory, below block B. -/
structure FeedAt (w : World) (B : Nat) (A1 A2 : Option Addr) (bs : List ByteArray) (hs : List Bool) : Prop where
  strs : StrsAt w B A1 bs
  bits : BoolsAt w B A2 hs
  fit : Fit bs
  lb : bs.length ≤ maxLen
  lh : hs.length ≤ maxLen
section
variable {w w' : World} {B B' : Nat} {A1 A2 : Option Addr} {bs : List ByteArray} {hs : List Bool}
theorem FeedAt.more (h : FeedAt w B A1 A2 bs hs) (hB : B ≤ B') : FeedAt w B' A1 A2 bs hs := ⟨h.strs.more hB, h.bits.more hB, h.fit, h.lb, h.lh⟩
theorem FeedAt.belowS (h : FeedAt w w.heap.size A1 A2 bs hs) (hb : Below w.heap.size w w') : FeedAt w' w'.heap.size A1 A2 bs hs := ⟨h.strs.belowS hb, h.bits.belowS hb, h.fit, h.lb, h.lh⟩
theorem FeedAt.allocS (h : FeedAt w w.heap.size A1 A2 bs hs) (o : Obj) : FeedAt (w.alloc o) (w.alloc o).heap.size A1 A2 bs hs := ⟨h.strs.allocS o, h.bits.allocS o, h.fit, h.lb, h.lh⟩
theorem FeedAt.keepS (h : FeedAt w w.heap.size A1 A2 bs hs) (hk : ∀ p : Addr, p.block < w.heap.size → w'.cell? p = w.cell? p) (hz : w.heap.size ≤ w'.heap.size) : FeedAt w' w'.heap.size A1 A2 bs hs :=
  ⟨(h.strs.keep hk).more hz, (h.bits.keep hk).more hz, h.fit, h.lb, h.lh⟩
end

/-- A feed of the call's own. -/
structure OwnFeed (w : World) (base : Nat) (A1 : Option Addr) (c1 : Nat) (A2 : Option Addr) (c2 : Nat) (bs : List ByteArray) (hs : List Bool) : Prop where
  strs : OwnStrs w base A1 c1 bs
  bits : OwnBools w base A2 c2 hs
  fit : Fit bs
section
variable {w w' : World} {base : Nat} {A1 A2 : Option Addr} {c1 c2 : Nat} {bs : List ByteArray} {hs : List Bool}
theorem OwnFeed.at_ (h : OwnFeed w base A1 c1 A2 c2 bs hs) : FeedAt w w.heap.size A1 A2 bs hs := ⟨h.strs.ints, h.bits.ints, h.fit, Nat.le_trans h.strs.le.1 h.strs.le.2, Nat.le_trans h.bits.le.1 h.bits.le.2⟩
theorem OwnFeed.below (h : OwnFeed w base A1 c1 A2 c2 bs hs) (hb : Below w.heap.size w w') : OwnFeed w' base A1 c1 A2 c2 bs hs := ⟨h.strs.below hb, h.bits.below hb, h.fit⟩
theorem OwnFeed.alloc (h : OwnFeed w base A1 c1 A2 c2 bs hs) (o : Obj) : OwnFeed (w.alloc o) base A1 c1 A2 c2 bs hs := ⟨h.strs.alloc o, h.bits.alloc o, h.fit⟩
theorem OwnFeed.base_le (h : OwnFeed w base A1 c1 A2 c2 bs hs) {b : Nat} (hb : b ≤ base) : OwnFeed w b A1 c1 A2 c2 bs hs := ⟨h.strs.base_le hb, h.bits.base_le hb, h.fit⟩
end

/-- A feed as a value. -/
abbrev feedV (p l d s : Int) (A1 : Option Addr) (n1 c1 : Nat) (A2 : Option Addr) (n2 c2 : Nat) : Value := .agg #[.int .i64 p, .int .i64 l, .int .i64 d, .int .i64 s, .slice A1 n1 c1, .slice A2 n2 c2]

end Go.Proofs.Ytmddfjfflgfdlaa
