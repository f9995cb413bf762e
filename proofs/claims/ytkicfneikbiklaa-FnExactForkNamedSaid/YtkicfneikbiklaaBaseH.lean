/- The plain mathematics of feeds: what a feed is as data, when it is valid, and the leaves of its blocks. No conditions. Words for a feed in memory: its texts and bits lie there, and no text is longer than a text can be; the same for a feed of the call's own; how both are kept. No conditions. Contracts of the small functions over texts and bits of a feed: textsValid, slices.Contains, isWhole, textDigests, l11Leaves, leavesOf, l11Whole. Condition: the feed lies in memory. Contracts of textDigests, l11Leaves, leavesOf: the digests of texts in memory of the call's own. Condition: the texts lie in memory, at most 2^20 of them, each of at most 8 bytes where the function asks for it. Contracts of FeedNew and of its model: a feed without a head and blocks. No conditions. -/
import Derived.Test.YtkicfneikbiklaaBaseD
import Derived.Test.YtkicfneikbiklaaBaseA
import Derived.Test.YtkicfneikbiklaaBaseE
namespace Go.Proofs.Ytkicfneikbiklaa
open Go.RowKit
set_option linter.unusedVariables false

/-- A feed as data: public key; length, digest and signature of the head; texts; which of them are there. -/
structure FD where
  p : Int
  l : Int
  d : Int
  s : Int
  bs : List ByteArray
  hs : List Bool

def zeroF : FD := ⟨0, 0, 0, 0, [], []⟩
def newF (p : Int) : FD := ⟨p, 0, 0, 0, [], []⟩

/-- The digests of texts. -/
def leafL (bs : List ByteArray) : List Int := bs.map textOr
theorem leafL_length (bs : List ByteArray) : (leafL bs).length = bs.length := List.length_map _
theorem leafL_append (a b : List ByteArray) : leafL (a ++ b) = leafL a ++ leafL b := List.map_append
theorem leafL_take (bs : List ByteArray) (k : Nat) : leafL (bs.take k) = (leafL bs).take k := List.map_take
theorem sth_get (bs : List ByteArray) (k : Nat) (h : k < bs.length) : sth bs k = bs[k] := by
  unfold sth; rw [List.getD_eq_getElem?_getD, List.getElem?_eq_getElem h]; rfl
theorem bth_get (hs : List Bool) (k : Nat) (h : k < hs.length) : bth hs k = hs[k] := by
  unfold bth; rw [List.getD_eq_getElem?_getD, List.getElem?_eq_getElem h]; rfl
theorem take_sth (bs : List ByteArray) (k : Nat) (h : k < bs.length) : bs.take (k + 1) = bs.take k ++ [sth bs k] := by
  rw [List.take_succ_eq_append_getElem h, sth_get bs k h]
theorem leafL_next (bs : List ByteArray) (k : Nat) (h : k < bs.length) : leafL (bs.take (k + 1)) = leafL (bs.take k) ++ [textOr (sth bs k)] := by
  rw [take_sth bs k h, leafL_append]; rfl
theorem nth_leafL (bs : List ByteArray) (k : Nat) (h : k < bs.length) : nth (leafL bs) k = textOr (sth bs k) := by
  unfold nth leafL
  rw [List.getD_eq_getElem?_getD, List.getElem?_map, List.getElem?_eq_getElem h, sth_get bs k h]; rfl

/-- No text is too long, and none stands at a block that is not there. -/
def TextsOk (bs : List ByteArray) (hs : List Bool) : Prop := ∀ k, k < bs.length → (sth bs k).size ≤ 8 ∧ (sth bs k = ByteArray.empty ∨ bth hs k = true)
instance (bs : List ByteArray) (hs : List Bool) : Decidable (TextsOk bs hs) := by unfold TextsOk; infer_instance
/-- There are blocks, and all are there. -/
def wholeB (hs : List Bool) : Bool := decide (0 < hs.length ∧ ∀ k, k < hs.length → bth hs k = true)
theorem wholeB_iff (hs : List Bool) : wholeB hs = true ↔ (0 < hs.length ∧ ∀ k, k < hs.length → bth hs k = true) := by simp only [wholeB, decide_eq_true_eq]
theorem wholeB_no {hs : List Bool} {k : Nat} (hk : k < hs.length) (h : bth hs k = false) : wholeB hs = false := by
  rw [Bool.eq_false_iff]
  intro e
  have := ((wholeB_iff hs).1 e).2 k hk
  rw [h] at this
  cases this
theorem wholeB_nil : wholeB [] = false := rfl

def HeadOk (f : FD) : Prop := (f.l = 0 ∧ f.d = 0 ∧ f.s = 0) ∨ signedB f.p f.l f.d f.s = true
instance (f : FD) : Decidable (HeadOk f) := by unfold HeadOk; infer_instance
/-- A valid feed. -/
def FeedOk (f : FD) : Prop := (1 ≤ f.p ∧ f.p < 997) ∧ HeadOk f ∧ ((f.bs.length : Int) = f.l ∧ (f.hs.length : Int) = f.l) ∧ TextsOk f.bs f.hs ∧ (wholeB f.hs = true → digestOr (leafL f.bs) = f.d)
instance (f : FD) : Decidable (FeedOk f) := by unfold FeedOk; infer_instance
def okB (f : FD) : Bool := decide (FeedOk f)
theorem okB_iff (f : FD) : okB f = true ↔ FeedOk f := by simp only [okB, decide_eq_true_eq]
theorem okB_no {f : FD} (h : ¬ FeedOk f) : okB f = false := by rw [Bool.eq_false_iff]; exact fun e => h ((okB_iff f).1 e)
theorem okB_yes {f : FD} (h : FeedOk f) : okB f = true := (okB_iff f).2 h

theorem HeadOk.len {f : FD} (h : HeadOk f) : 0 ≤ f.l ∧ f.l ≤ 16 := by
  rcases h with ⟨h, _, _⟩ | h
  · omega
  · exact ((signedB_iff _ _ _ _).1 h).2.1
theorem FeedOk.len {f : FD} (h : FeedOk f) : f.bs.length ≤ 16 ∧ f.hs.length = f.bs.length := by
  have h1 := h.2.1.len
  have h2 := h.2.2.1
  omega

theorem TextsOk.leaves {bs : List ByteArray} {hs : List Bool} (h : TextsOk bs hs) (h16 : bs.length ≤ 16) : leavesB (leafL bs) = true := by
  refine leavesB_of (by rw [leafL_length]; exact h16) ?_
  intro z hz
  obtain ⟨t, ht, rfl⟩ := List.mem_map.1 hz
  obtain ⟨k, hk, rfl⟩ := List.getElem_of_mem ht
  have := (h k hk).1
  rw [sth_get bs k hk] at this
  rw [textOr_y this]
  exact textZ_bd _
theorem FeedOk.leaves {f : FD} (h : FeedOk f) : leavesB (leafL f.bs) = true := h.2.2.2.1.leaves h.len.1

end Go.Proofs.Ytkicfneikbiklaa

namespace Go.Proofs.Ytkicfneikbiklaa
open Go.RowKit
set_option linter.unusedVariables false

/-- No text is longer than a text can be. -/
def Fit (bs : List ByteArray) : Prop := ∀ k, (sth bs k).size ≤ maxLen
theorem sth_none (bs : List ByteArray) (k : Nat) (h : bs.length ≤ k) : sth bs k = ByteArray.empty := by
  unfold sth; rw [List.getD_eq_getElem?_getD, List.getElem?_eq_none h]; rfl
theorem Fit.of {bs : List ByteArray} (h : ∀ x ∈ bs, x.size ≤ maxLen) : Fit bs := fun k => by
  by_cases hk : k < bs.length
  · rw [sth_get bs k hk]; exact h _ (List.getElem_mem hk)
  · rw [sth_none bs k (by omega)]; exact Nat.zero_le _
theorem Fit.mem {bs : List ByteArray} (h : Fit bs) : ∀ x ∈ bs, x.size ≤ maxLen := fun x hx => by
  obtain ⟨k, hk, rfl⟩ := List.getElem_of_mem hx
  rw [← sth_get bs k hk]; exact h k

/-- The texts and bits of a feed lie in memory, below block B. -/
structure FeedAt (w : World) (B : Nat) (A1 A2 : Option Addr) (bs : List ByteArray) (hs : List Bool) : Prop where
  strs : StrsAt w B A1 bs
  bits : BoolsAt w B A2 hs
  fit : Fit bs
  lb : bs.length ≤ maxLen
  lh : hs.length ≤ maxLen
section
variable {w w' : World} {B B' : Nat} {A1 A2 : Option Addr} {bs : List ByteArray} {hs : List Bool}
theorem FeedAt.more (h : FeedAt w B A1 A2 bs hs) (hB : B ≤ B') : FeedAt w B' A1 A2 bs hs := ⟨h.strs.more hB, h.bits.more hB, h.fit, h.lb, h.lh⟩
theorem FeedAt.belowS (h : FeedAt w w.heap.size A1 A2 bs hs) (hb : Below w.heap.size w w') : FeedAt w' w'.heap.size A1 A2 bs hs := ⟨h.strs.belowS hb, h.bits.belowS hb, h.fit, h.lb, h.lh⟩
theorem FeedAt.allocS (h : FeedAt w w.heap.size A1 A2 bs hs) (o : Obj) : FeedAt (w.alloc o) (w.alloc o).heap.size A1 A2 bs hs := ⟨h.strs.allocS o, h.bits.allocS o, h.fit, h.lb, h.lh⟩
theorem FeedAt.keepS (h : FeedAt w w.heap.size A1 A2 bs hs) (hk : ∀ p : Addr, p.block < w.heap.size → w'.cell? p = w.cell? p) (hz : w.heap.size ≤ w'.heap.size) : FeedAt w' w'.heap.size A1 A2 bs hs :=
  ⟨(h.strs.keep hk).more hz, (h.bits.keep hk).more hz, h.fit, h.lb, h.lh⟩
end

/-- A feed of the call's own. -/
structure OwnFeed (w : World) (base : Nat) (A1 : Option Addr) (c1 : Nat) (A2 : Option Addr) (c2 : Nat) (bs : List ByteArray) (hs : List Bool) : Prop where
  strs : OwnStrs w base A1 c1 bs
  bits : OwnBools w base A2 c2 hs
  fit : Fit bs
section
variable {w w' : World} {base : Nat} {A1 A2 : Option Addr} {c1 c2 : Nat} {bs : List ByteArray} {hs : List Bool}
theorem OwnFeed.at_ (h : OwnFeed w base A1 c1 A2 c2 bs hs) : FeedAt w w.heap.size A1 A2 bs hs := ⟨h.strs.ints, h.bits.ints, h.fit, Nat.le_trans h.strs.le.1 h.strs.le.2, Nat.le_trans h.bits.le.1 h.bits.le.2⟩
theorem OwnFeed.below (h : OwnFeed w base A1 c1 A2 c2 bs hs) (hb : Below w.heap.size w w') : OwnFeed w' base A1 c1 A2 c2 bs hs := ⟨h.strs.below hb, h.bits.below hb, h.fit⟩
theorem OwnFeed.alloc (h : OwnFeed w base A1 c1 A2 c2 bs hs) (o : Obj) : OwnFeed (w.alloc o) base A1 c1 A2 c2 bs hs := ⟨h.strs.alloc o, h.bits.alloc o, h.fit⟩
theorem OwnFeed.base_le (h : OwnFeed w base A1 c1 A2 c2 bs hs) {b : Nat} (hb : b ≤ base) : OwnFeed w b A1 c1 A2 c2 bs hs := ⟨h.strs.base_le hb, h.bits.base_le hb, h.fit⟩
end

/-- A feed as a value. -/
abbrev feedV (p l d s : Int) (A1 : Option Addr) (n1 c1 : Nat) (A2 : Option Addr) (n2 c2 : Nat) : Value := .agg #[.int .i64 p, .int .i64 l, .int .i64 d, .int .i64 s, .slice A1 n1 c1, .slice A2 n2 c2]

end Go.Proofs.Ytkicfneikbiklaa

namespace Go.Proofs.Ytkicfneikbiklaa
open Go.RowKit
set_option linter.unusedVariables false

/-- The first n texts may stand where they stand. -/
def TextsTo (bs : List ByteArray) (hs : List Bool) (n : Nat) : Prop := ∀ k, k < n → (sth bs k).size ≤ 8 ∧ (sth bs k = ByteArray.empty ∨ bth hs k = true)
theorem TextsTo.zero (bs : List ByteArray) (hs : List Bool) : TextsTo bs hs 0 := fun k hk => absurd hk (Nat.not_lt_zero _)
theorem TextsTo.next {bs : List ByteArray} {hs : List Bool} {n : Nat} (h : TextsTo bs hs n) (h8 : (sth bs n).size ≤ 8) (he : sth bs n = ByteArray.empty ∨ bth hs n = true) : TextsTo bs hs (n + 1) := fun k hk => by
  by_cases e : k = n
  · subst e; exact ⟨h8, he⟩
  · exact h k (by omega)
theorem textsOk_no {bs : List ByteArray} {hs : List Bool} {k : Nat} (hk : k < bs.length) (h : ¬ ((sth bs k).size ≤ 8 ∧ (sth bs k = ByteArray.empty ∨ bth hs k = true))) : decide (TextsOk bs hs) = false := by
  rw [decide_eq_false_iff_not]; exact fun e => h (e k hk)
theorem empty_list {t : ByteArray} (h : ¬ t = ByteArray.empty) : t.toList.isEmpty = false ∧ (t.toList == []) = false ∧ ¬ t.toList = [] := by
  have hn : ¬ t.toList = [] := fun e => h (toList_inj (by rw [e, Go.ByteArray.toList_eq]; rfl))
  refine ⟨?_, ?_, hn⟩
  · cases hl : t.toList with
    | nil => exact absurd hl hn
    | cons a l => rfl
  · rw [beq_eq_false_iff_ne]; exact hn



/-- Where false stands first, or -1. -/
def noneF (hs : List Bool) : Bool := decide (∀ k, k < hs.length → bth hs k = true)
theorem noneF_no {hs : List Bool} {k : Nat} (hk : k < hs.length) (h : bth hs k = false) : noneF hs = false := by
  unfold noneF; rw [decide_eq_false_iff_not]; intro e; have := e k hk; rw [h] at this; cases this
theorem wholeB_eq (hs : List Bool) : wholeB hs = (decide (0 < hs.length) && noneF hs) := by
  unfold wholeB noneF; exact Bool.decide_and _ _







end Go.Proofs.Ytkicfneikbiklaa

namespace Go.Proofs.Ytkicfneikbiklaa
open Go.RowKit
set_option linter.unusedVariables false

/-- Where the list of digests stands. -/
structure Leafing (w : World) (zs : List Int) (X : Option Addr) (c : Nat) (w' : World) : Prop where
  own : OwnInts w' w.heap.size X c zs
  below : Below w.heap.size w w'
theorem Leafing.app {w w1 w2 : World} {zs ys : List Int} {X : Option Addr} {c : Nat} {v : Value} (h : Leafing w zs X c w1) (o : Obj) (hA : Appended (w1.alloc o) w.heap.size X zs.length c ys v w2) : ∃ X' c', v = .slice X' ys.length c' ∧ Leafing w ys X' c' w2 := by
  obtain ⟨⟨X', c', hv, ho⟩, hg, hb⟩ := hA
  exact ⟨X', c', hv, ho, (h.below.alloc h.below.size o).trans hb⟩
theorem leafL_to_length (bs : List ByteArray) (k : Nat) (h : k ≤ bs.length) : (leafL (bs.take k)).length = k := by rw [leafL_length, List.length_take]; omega





/-- No text is too long for a digest. -/
def Short (bs : List ByteArray) : Prop := ∀ k, k < bs.length → (sth bs k).size ≤ 8



end Go.Proofs.Ytkicfneikbiklaa

namespace Go.Proofs.Ytkicfneikbiklaa
open Go.RowKit
set_option linter.unusedVariables false

/-- The six cells of a feed's block. -/
theorem feed_cells {W : World} {g : Nat} {t : TypeId} {v0 v1 v2 v3 v4 v5 : Value} (h : Blk W g t #[v0, v1, v2, v3, v4, v5]) : W.cell? ⟨g, 0, none⟩ = some v0 ∧ W.cell? ⟨g, 1, none⟩ = some v1 ∧ W.cell? ⟨g, 2, none⟩ = some v2 ∧ W.cell? ⟨g, 3, none⟩ = some v3 ∧ W.cell? ⟨g, 4, none⟩ = some v4 ∧ W.cell? ⟨g, 5, none⟩ = some v5 :=
  ⟨h.cell 0, h.cell 1, h.cell 2, h.cell 3, h.cell 4, h.cell 5⟩
theorem blk_frozen {W : World} {g : Nat} {t : TypeId} {cs : Array Value} (h : Blk W g t cs) (i : Nat) : W.frozen? ⟨g, i, none⟩ = false := by
  unfold Blk at h
  simp [World.frozen?, h]
/-- Six cells of one block are written. -/
theorem blk_six {W : World} {g : Nat} {t : TypeId} {u0 u1 u2 u3 u4 u5 : Value} (h : Blk W g t #[u0, u1, u2, u3, u4, u5]) (v0 v1 v2 v3 v4 v5 : Value) : Blk ((((((W.setCell ⟨g, 0, none⟩ v0).setCell ⟨g, 1, none⟩ v1).setCell ⟨g, 2, none⟩ v2).setCell ⟨g, 3, none⟩ v3).setCell ⟨g, 4, none⟩ v4).setCell ⟨g, 5, none⟩ v5) g t #[v0, v1, v2, v3, v4, v5] :=
  (((((h.setOwn 0 v0).setOwn 1 v1).setOwn 2 v2).setOwn 3 v3).setOwn 4 v4).setOwn 5 v5
theorem below_six {W w : World} {B g : Nat} (h : Below B w W) (hg : B ≤ g) (v0 v1 v2 v3 v4 v5 : Value) : Below B w ((((((W.setCell ⟨g, 0, none⟩ v0).setCell ⟨g, 1, none⟩ v1).setCell ⟨g, 2, none⟩ v2).setCell ⟨g, 3, none⟩ v3).setCell ⟨g, 4, none⟩ v4).setCell ⟨g, 5, none⟩ v5) :=
  (((((h.setCell (p := ⟨g, 0, none⟩) hg v0).setCell (p := ⟨g, 1, none⟩) hg v1).setCell (p := ⟨g, 2, none⟩) hg v2).setCell (p := ⟨g, 3, none⟩) hg v3).setCell (p := ⟨g, 4, none⟩) hg v4).setCell (p := ⟨g, 5, none⟩) hg v5
theorem size_six (W : World) (g : Nat) (v0 v1 v2 v3 v4 v5 : Value) : ((((((W.setCell ⟨g, 0, none⟩ v0).setCell ⟨g, 1, none⟩ v1).setCell ⟨g, 2, none⟩ v2).setCell ⟨g, 3, none⟩ v3).setCell ⟨g, 4, none⟩ v4).setCell ⟨g, 5, none⟩ v5).heap.size = W.heap.size := by simp
/-- The cells of a feed. -/
abbrev feedC (p l d s : Int) (A1 : Option Addr) (n1 c1 : Nat) (A2 : Option Addr) (n2 c2 : Nat) : Array Value := #[.int .i64 p, .int .i64 l, .int .i64 d, .int .i64 s, .slice A1 n1 c1, .slice A2 n2 c2]









/-- A feed without blocks whose slices are laid, but empty. -/
def EmptyFeed (w : World) (p : Int) (e : Ending) (w' : World) : Prop :=
  ∃ g1 g2, e = .returned (.tuple #[feedV p 0 0 0 (some ⟨g1, 0, none⟩) 0 0 (some ⟨g2, 0, none⟩) 0 0, .bool true]) ∧ OwnFeed w' w.heap.size (some ⟨g1, 0, none⟩) 0 (some ⟨g2, 0, none⟩) 0 [] [] ∧ Below w.heap.size w w'



end Go.Proofs.Ytkicfneikbiklaa
