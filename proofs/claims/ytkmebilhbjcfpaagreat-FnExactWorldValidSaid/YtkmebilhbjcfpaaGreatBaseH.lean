/- The plain mathematics of feeds: what a feed is as data, when it is valid, and the leaves of its blocks. No conditions. Words for a feed in memory: its texts and bits lie there, and no text is longer than a text can be; the same for a feed of the call's own; how both are kept. No conditions. Contracts of the small functions over texts and bits of a feed: textsValid, slices.Contains, isWhole, textDi -/
import Derived.Test.YtkmebilhbjcfpaaGreatBaseD
import Derived.Test.YtkmebilhbjcfpaaGreatBaseA
import Derived.Test.YtkmebilhbjcfpaaGreatBaseE
namespace Go.Proofs.YtkmebilhbjcfpaaGreat
open Go.RowKit
set_option linter.unusedVariables false

/-- A feed as data: public key; length, digest and signature of the head; texts; which of them are there. -/
structure FD where
  p : Int
  l : Int
  d : Int
  s : Int
  bs : List ByteArray
  hs : List Bool

def zeroF : FD := ⟨0, 0, 0, 0, [], []⟩
def newF (p : Int) : FD := ⟨p, 0, 0, 0, [], []⟩

/-- The digests of texts. -/
def leafL (bs : List ByteArray) : List Int := bs.map textOr
theorem leafL_length (bs : List ByteArray) : (leafL bs).length = bs.length := List.length_map _
theorem leafL_append (a b : List ByteArray) : leafL (a ++ b) = leafL a ++ leafL b := List.map_append
theorem leafL_take (bs : List ByteArray) (k : Nat) : leafL (bs.take k) = (leafL bs).take k := List.map_take
theorem sth_get (bs : List ByteArray) (k : Nat) (h : k < bs.length) : sth bs k = bs[k] := by
  unfold sth; rw [List.getD_eq_getElem?_getD, List.getElem?_eq_getElem h]; rfl
theorem bth_get (hs : List Bool) (k : Nat) (h : k < hs.length) : bth hs k = hs[k] := by
  unfold bth; rw [List.getD_eq_getElem?_getD, List.getElem?_eq_getElem h]; rfl
theorem take_sth (bs : List ByteArray) (k : Nat) (h : k < bs.length) : bs.take (k + 1) = bs.take k ++ [sth bs k] := by
  rw [List.take_succ_eq_append_getElem h, sth_get bs k h]
theorem leafL_next (bs : List ByteArray) (k : Nat) (h : k < bs.length) : leafL (bs.take (k + 1)) = leafL (bs.take k) ++ [textOr (sth bs k)] := by
  rw [take_sth bs k h, leafL_append]; rfl
theorem nth_leafL (bs : List ByteArray) (k : Nat) (h : k < bs.length) : nth (leafL bs) k = textOr (sth bs k) := by
  unfold nth leafL
  rw [List.getD_eq_getElem?_getD, List.getElem?_map, List.getElem?_eq_getElem h, sth_get bs k h]; rfl

/-- No text is too long, and none stands at a block that is not there. -/
def TextsOk (bs : List ByteArray) (hs : List Bool) : Prop := ∀ k, k < bs.length → (sth bs k).size ≤ 8 ∧ (sth bs k = ByteArray.empty ∨ bth hs k = true)
instance (bs : List ByteArray) (hs : List Bool) : Decidable (TextsOk bs hs) := by unfold TextsOk; infer_instance
/-- There are blocks, and all are there. -/
def wholeB (hs : List Bool) : Bool := decide (0 < hs.length ∧ ∀ k, k < hs.length → bth hs k = true)
theorem wholeB_iff (hs : List Bool) : wholeB hs = true ↔ (0 < hs.length ∧ ∀ k, k < hs.length → bth hs k = true) := by simp only [wholeB, decide_eq_true_eq]
theorem wholeB_no {hs : List Bool} {k : Nat} (hk : k < hs.length) (h : bth hs k = false) : wholeB hs = false := by
  rw [Bool.eq_false_iff]
  intro e
  have := ((wholeB_iff hs).1 e).2 k hk
  rw [h] at this
  cases this
theorem wholeB_nil : wholeB [] = false := rfl

def HeadOk (f : FD) : Prop := (f.l = 0 ∧ f.d = 0 ∧ f.s = 0) ∨ signedB f.p f.l f.d f.s = true
instance (f : FD) : Decidable (HeadOk f) := by unfold HeadOk; infer_instance
/-- A valid feed. -/
def FeedOk (f : FD) : Prop := (1 ≤ f.p ∧ f.p < 997) ∧ HeadOk f ∧ ((f.bs.length : Int) = f.l ∧ (f.hs.length : Int) = f.l) ∧ TextsOk f.bs f.hs ∧ (wholeB f.hs = true → digestOr (leafL f.bs) = f.d)
instance (f : FD) : Decidable (FeedOk f) := by unfold FeedOk; infer_instance
def okB (f : FD) : Bool := decide (FeedOk f)
theorem okB_iff (f : FD) : okB f = true ↔ FeedOk f := by simp only [okB, decide_eq_true_eq]
theorem okB_no {f : FD} (h : ¬ FeedOk f) : okB f = false := by rw [Bool.eq_false_iff]; exact fun e => h ((okB_iff f).1 e)
theorem okB_yes {f : FD} (h : FeedOk f) : okB f = true := (okB_iff f).2 h

theorem HeadOk.len {f : FD} (h : HeadOk f) : 0 ≤ f.l ∧ f.l ≤ 16 := by
  rcases h with ⟨h, _, _⟩ | h
  · omega
  · exact ((signedB_iff _ _ _ _).1 h).2.1
theorem FeedOk.len {f : FD} (h : FeedOk f) : f.bs.length ≤ 16 ∧ f.hs.length = f.bs.length := by
  have h1 := h.2.1.len
  have h2 := h.2.2.1
  omega

theorem TextsOk.leaves {bs : List ByteArray} {hs : List Bool} (h : TextsOk bs hs) (h16 : bs.length ≤ 16) : leavesB (leafL bs) = true := by
  refine leavesB_of (by rw [leafL_length]; exact h16) ?_
  intro z hz
  obtain ⟨t, ht, rfl⟩ := List.mem_map.1 hz
  obtain ⟨k, hk, rfl⟩ := List.getElem_of_mem ht
  have := (h k hk).1
  rw [sth_get bs k hk] at this
  rw [textOr_y this]
  exact textZ_bd _
theorem FeedOk.leaves {f : FD} (h : FeedOk f) : leavesB (leafL f.bs) = true := h.2.2.2.1.leaves h.len.1

end Go.Proofs.YtkmebilhbjcfpaaGreat

namespace Go.Proofs.YtkmebilhbjcfpaaGreat
open Go.RowKit
set_option linter.unusedVariables false

/-- No text is longer than a text can be. -/
def Fit (bs : List ByteArray) : Prop := ∀ k, (sth bs k).size ≤ maxLen
theorem sth_none (bs : List ByteArray) (k : Nat) (h : bs.length ≤ k) : sth bs k = ByteArray.empty := by
  unfold sth; rw [List.getD_eq_getElem?_getD, List.getElem?_eq_none h]; rfl
theorem Fit.of {bs : List ByteArray} (h : ∀ x ∈ bs, x.size ≤ maxLen) : Fit bs := fun k => by
  by_cases hk : k < bs.length
  · rw [sth_get bs k hk]; exact h _ (List.getElem_mem hk)
  · rw [sth_none bs k (by omega)]; exact Nat.zero_le _
theorem Fit.mem {bs : List ByteArray} (h : Fit bs) : ∀ x ∈ bs, x.size ≤ maxLen := fun x hx => by
  obtain ⟨k, hk, rfl⟩ := List.getElem_of_mem hx
  rw [← sth_get bs k hk]; exact h k

/-- The texts and bits of a feed lie in memory, below block B. -/
structure FeedAt (w : World) (B : Nat) (A1 A2 : Option Addr) (bs : List ByteArray) (hs : List Bool) : Prop where
  strs : StrsAt w B A1 bs
  bits : BoolsAt w B A2 hs
  fit : Fit bs
  lb : bs.length ≤ maxLen
  lh : hs.length ≤ maxLen
section
variable {w w' : World} {B B' : Nat} {A1 A2 : Option Addr} {bs : List ByteArray} {hs : List Bool}
theorem FeedAt.more (h : FeedAt w B A1 A2 bs hs) (hB : B ≤ B') : FeedAt w B' A1 A2 bs hs := ⟨h.strs.more hB, h.bits.more hB, h.fit, h.lb, h.lh⟩
theorem FeedAt.belowS (h : FeedAt w w.heap.size A1 A2 bs hs) (hb : Below w.heap.size w w') : FeedAt w' w'.heap.size A1 A2 bs hs := ⟨h.strs.belowS hb, h.bits.belowS hb, h.fit, h.lb, h.lh⟩
theorem FeedAt.allocS (h : FeedAt w w.heap.size A1 A2 bs hs) (o : Obj) : FeedAt (w.alloc o) (w.alloc o).heap.size A1 A2 bs hs := ⟨h.strs.allocS o, h.bits.allocS o, h.fit, h.lb, h.lh⟩
theorem FeedAt.keepS (h : FeedAt w w.heap.size A1 A2 bs hs) (hk : ∀ p : Addr, p.block < w.heap.size → w'.cell? p = w.cell? p) (hz : w.heap.size ≤ w'.heap.size) : FeedAt w' w'.heap.size A1 A2 bs hs :=
  ⟨(h.strs.keep hk).more hz, (h.bits.keep hk).more hz, h.fit, h.lb, h.lh⟩
end

/-- A feed of the call's own. -/
structure OwnFeed (w : World) (base : Nat) (A1 : Option Addr) (c1 : Nat) (A2 : Option Addr) (c2 : Nat) (bs : List ByteArray) (hs : List Bool) : Prop where
  strs : OwnStrs w base A1 c1 bs
  bits : OwnBools w base A2 c2 hs
  fit : Fit bs
section
variable {w w' : World} {base : Nat} {A1 A2 : Option Addr} {c1 c2 : Nat} {bs : List ByteArray} {hs : List Bool}
theorem OwnFeed.at_ (h : OwnFeed w base A1 c1 A2 c2 bs hs) : FeedAt w w.heap.size A1 A2 bs hs := ⟨h.strs.ints, h.bits.ints, h.fit, Nat.le_trans h.strs.le.1 h.strs.le.2, Nat.le_trans h.bits.le.1 h.bits.le.2⟩
theorem OwnFeed.below (h : OwnFeed w base A1 c1 A2 c2 bs hs) (hb : Below w.heap.size w w') : OwnFeed w' base A1 c1 A2 c2 bs hs := ⟨h.strs.below hb, h.bits.below hb, h.fit⟩
theorem OwnFeed.alloc (h : OwnFeed w base A1 c1 A2 c2 bs hs) (o : Obj) : OwnFeed (w.alloc o) base A1 c1 A2 c2 bs hs := ⟨h.strs.alloc o, h.bits.alloc o, h.fit⟩
theorem OwnFeed.base_le (h : OwnFeed w base A1 c1 A2 c2 bs hs) {b : Nat} (hb : b ≤ base) : OwnFeed w b A1 c1 A2 c2 bs hs := ⟨h.strs.base_le hb, h.bits.base_le hb, h.fit⟩
end

/-- A feed as a value. -/
abbrev feedV (p l d s : Int) (A1 : Option Addr) (n1 c1 : Nat) (A2 : Option Addr) (n2 c2 : Nat) : Value := .agg #[.int .i64 p, .int .i64 l, .int .i64 d, .int .i64 s, .slice A1 n1 c1, .slice A2 n2 c2]

end Go.Proofs.YtkmebilhbjcfpaaGreat

namespace Go.Proofs.YtkmebilhbjcfpaaGreat
open Go.RowKit
set_option linter.unusedVariables false

/-- The first n texts may stand where they stand. -/
def TextsTo (bs : List ByteArray) (hs : List Bool) (n : Nat) : Prop := ∀ k, k < n → (sth bs k).size ≤ 8 ∧ (sth bs k = ByteArray.empty ∨ bth hs k = true)
theorem TextsTo.zero (bs : List ByteArray) (hs : List Bool) : TextsTo bs hs 0 := fun k hk => absurd hk (Nat.not_lt_zero _)
theorem TextsTo.next {bs : List ByteArray} {hs : List Bool} {n : Nat} (h : TextsTo bs hs n) (h8 : (sth bs n).size ≤ 8) (he : sth bs n = ByteArray.empty ∨ bth hs n = true) : TextsTo bs hs (n + 1) := fun k hk => by
  by_cases e : k = n
  · subst e; exact ⟨h8, he⟩
  · exact h k (by omega)
theorem textsOk_no {bs : List ByteArray} {hs : List Bool} {k : Nat} (hk : k < bs.length) (h : ¬ ((sth bs k).size ≤ 8 ∧ (sth bs k = ByteArray.empty ∨ bth hs k = true))) : decide (TextsOk bs hs) = false := by
  rw [decide_eq_false_iff_not]; exact fun e => h (e k hk)
theorem empty_list {t : ByteArray} (h : ¬ t = ByteArray.empty) : t.toList.isEmpty = false ∧ (t.toList == []) = false ∧ ¬ t.toList = [] := by
  have hn : ¬ t.toList = [] := fun e => h (toList_inj (by rw [e, Go.ByteArray.toList_eq]; rfl))
  refine ⟨?_, ?_, hn⟩
  · cases hl : t.toList with
    | nil => exact absurd hl hn
    | cons a l => rfl
  · rw [beq_eq_false_iff_ne]; exact hn

set_option maxHeartbeats 1000000 in
theorem textsValid_any (A1 : Option Addr) (c1 : Nat) (A2 : Option Addr) (c2 : Nat) (bs : List ByteArray) (hs : List Bool) (w : World) (h : FeedAt w w.heap.size A1 A2 bs hs) (hl : hs.length = bs.length) :
    Calls Tryz.prog 118 #[.slice A1 bs.length c1, .slice A2 hs.length c2] w fun e w' => e = .returned (.bool (decide (TextsOk bs hs))) ∧ w = w' := by
  have hm := h.lb
  unfold maxLen at hm
  have HF := Lib.hid h
  obtain ⟨n, HN⟩ : ∃ n, Hid (bs.length = n) := ⟨_, rfl⟩
  have HL : Hid (hs.length = n) := by show _ = _; rw [hl]; exact HN.out
  rw [HL.out, HN.out]
  rw [HN.out] at hm
  clear hl h
  go_enter Tryz.func118, Tryz.ntmps118
  go_wp2
  go_loop [9] (fun i => ∃ k : Nat, k ≤ n ∧ i = .int .i64 k ∧ Hid (TextsTo bs hs k)) (fun i => n - (intOf i).toNat)
  case atStart => exact ⟨0, Nat.zero_le _, rfl, TextsTo.zero bs hs⟩
  case round =>
    obtain ⟨k, hk, rfl, HD⟩ := hrel
    by_cases hlt : k < n
    · have hlz : k < bs.length := by rw [HN.out]; exact hlt
      have hlh : k < hs.length := by rw [HL.out]; exact hlt
      have HLZ := Lib.hid hlz
      obtain ⟨b, o, rfl, hb, hc⟩ := HF.out.strs (by omega)
      obtain ⟨b2, o2, rfl, hb2, hc2⟩ := HF.out.bits (by omega)
      have hck := hc k hlz
      have hck2 := hc2 k hlh
      have hfit := HF.out.fit k
      unfold maxLen at hfit
      have hki : (k : Int) < (n : Int) := by omega
      obtain ⟨t, HT⟩ : ∃ t, Hid (sth bs k = t) := ⟨_, rfl⟩
      obtain ⟨c, HC⟩ : ∃ c, Hid (bth hs k = c) := ⟨_, rfl⟩
      rw [HT.out] at hck hfit
      rw [HC.out] at hck2
      clear hc hc2 hlz hlh
      by_cases h8 : t.size ≤ 8
      · by_cases he : t = ByteArray.empty
        · have HX : Hid (TextsTo bs hs (k + 1)) := HD.out.next (by rw [HT.out]; exact h8) (.inl (by rw [HT.out]; exact he))
          subst he
          go_wp2
          go_round
          case rel => exact ⟨k + 1, by omega, by go_num, HX⟩
          case measure => simp [intOf]; omega
        · have HE := Lib.hid he
          obtain ⟨e1, e2, e3⟩ := empty_list he
          cases c with
          | true =>
            have HX : Hid (TextsTo bs hs (k + 1)) := HD.out.next (by rw [HT.out]; exact h8) (.inr HC.out)
            go_wp2
            go_round
            case rel => exact ⟨k + 1, by omega, by go_num, HX⟩
            case measure => simp [intOf]; omega
          | false =>
            have HX : Hid (decide (TextsOk bs hs) = false) := textsOk_no HLZ.out (by rw [HT.out, HC.out]; rintro ⟨_, e | e⟩; exact HE.out e; cases e)
            go_wp2
            go_ret
            exact ⟨ret_bool HX.out.symm, rfl⟩
      · have HX : Hid (decide (TextsOk bs hs) = false) := textsOk_no HLZ.out (by rw [HT.out]; rintro ⟨e, _⟩; exact h8 e)
        have h9 : 8 < t.size := by omega
        clear h8
        go_wp2
        go_ret
        exact ⟨ret_bool HX.out.symm, rfl⟩
    · have HX : Hid (decide (TextsOk bs hs) = true) := by
        show _ = _
        rw [decide_eq_true_iff]
        exact fun j hj => HD.out j (by rw [HN.out] at hj; omega)
      go_wp2
      go_ret
      exact ⟨ret_bool HX.out.symm, rfl⟩

/-- Where false stands first, or -1. -/
def noneF (hs : List Bool) : Bool := decide (∀ k, k < hs.length → bth hs k = true)
theorem noneF_no {hs : List Bool} {k : Nat} (hk : k < hs.length) (h : bth hs k = false) : noneF hs = false := by
  unfold noneF; rw [decide_eq_false_iff_not]; intro e; have := e k hk; rw [h] at this; cases this
theorem wholeB_eq (hs : List Bool) : wholeB hs = (decide (0 < hs.length) && noneF hs) := by
  unfold wholeB noneF; exact Bool.decide_and _ _

set_option maxHeartbeats 1000000 in
theorem index_any (A : Option Addr) (cap : Nat) (hs : List Bool) (w : World) (h : BoolsAt w w.heap.size A hs) (hm : hs.length ≤ maxLen) :
    Calls Tryz.prog 123 #[.slice A hs.length cap, .bool false] w fun e w' => (∃ i : Int, e = .returned (.int .i64 i) ∧ decide (0 ≤ i) = !noneF hs ∧ -1 ≤ i ∧ i < 9223372036854775808) ∧ w = w' := by
  unfold maxLen at hm
  have HF := Lib.hid h
  obtain ⟨n, HN⟩ : ∃ n, Hid (hs.length = n) := ⟨_, rfl⟩
  rw [HN.out] at hm ⊢
  clear h
  go_enter Tryz.func123, Tryz.ntmps123
  go_wp2
  go_loop [8] (fun i => ∃ k : Nat, k ≤ n ∧ i = .int .i64 k ∧ Hid (∀ j, j < k → bth hs j = true)) (fun i => n - (intOf i).toNat)
  case atStart => exact ⟨0, Nat.zero_le _, rfl, fun k hk => absurd hk (Nat.not_lt_zero _)⟩
  case round =>
    obtain ⟨k, hk, rfl, HD⟩ := hrel
    by_cases hlt : k < n
    · have hlz : k < hs.length := by rw [HN.out]; exact hlt
      obtain ⟨b, o, rfl, hb, hc⟩ := HF.out (by omega)
      have hck := hc k hlz
      have hki : (k : Int) < (n : Int) := by omega
      cases hv : bth hs k with
      | true =>
        rw [hv] at hck
        have HX : Hid (∀ j, j < k + 1 → bth hs j = true) := fun j hj => by
          by_cases e : j = k
          · subst e; exact hv
          · exact HD.out j (by omega)
        clear hc hlz hv
        go_wp2
        go_round
        case rel => exact ⟨k + 1, by omega, by go_num, HX⟩
        case measure => simp [intOf]; omega
      | false =>
        rw [hv] at hck
        have HX := Lib.hid (noneF_no hlz hv)
        clear hc hlz hv
        go_wp2
        go_ret
        exact ⟨⟨k, rfl, by rw [HX.out]; simp, by omega, by omega⟩, rfl⟩
    · have HX : Hid (noneF hs = true) := by
        show _ = _
        unfold noneF; rw [decide_eq_true_iff]
        exact fun j hj => HD.out j (by rw [HN.out] at hj; omega)
      go_wp2
      go_ret
      exact ⟨⟨-1, rfl, by rw [HX.out]; rfl, by omega, by omega⟩, rfl⟩

set_option maxHeartbeats 1000000 in
theorem contains_any (A : Option Addr) (cap : Nat) (hs : List Bool) (w : World) (h : BoolsAt w w.heap.size A hs) (hm : hs.length ≤ maxLen) :
    Calls Tryz.prog 75 #[.slice A hs.length cap, .bool false] w fun e w' => e = .returned (.bool (!noneF hs)) ∧ w = w' := by
  have HF := Lib.hid h
  have HM := Lib.hid hm
  clear h hm
  go_enter Tryz.func75, Tryz.ntmps75
  go_wp2_with fail
  refine (index_any _ _ hs _ HF.out HM.out).mono ?_
  rintro e w' ⟨⟨i, rfl, hi, hi0, hi1⟩, rfl⟩
  have HI := Lib.hid hi
  clear hi
  go_wp2
  go_ret
  exact ⟨ret_bool HI.out, rfl⟩

set_option maxHeartbeats 1000000 in
theorem isWhole_any (p l d s : Int) (A1 : Option Addr) (n1 c1 : Nat) (A2 : Option Addr) (c2 : Nat) (hs : List Bool) (w : World) (h : BoolsAt w w.heap.size A2 hs) (hm : hs.length ≤ maxLen) :
    Calls Tryz.prog 119 #[feedV p l d s A1 n1 c1 A2 hs.length c2] w fun e w' => e = .returned (.bool (wholeB hs)) ∧ Below w.heap.size w w' := by
  have HF := Lib.hid h
  have HM := Lib.hid hm
  have HE := Lib.hid (wholeB_eq hs)
  unfold maxLen at hm
  clear h
  by_cases h0 : 0 < hs.length
  · have hd : decide (0 < hs.length) = true := by simp [h0]
    go_enter Tryz.func119, Tryz.ntmps119
    go_wp2_with fail
    refine (contains_any _ _ hs _ (HF.out.allocS _) HM.out).mono ?_
    rintro e w' ⟨rfl, rfl⟩
    go_wp2
    go_ret
    exact ⟨ret_bool (by rw [HE.out, hd]; simp), (Below.refl _ _).alloc (Nat.le_refl _) _⟩
  · have hz : hs = [] := List.eq_nil_of_length_eq_zero (by omega)
    subst hz
    go_enter Tryz.func119, Tryz.ntmps119
    go_wp2
    go_ret
    exact ⟨ret_bool wholeB_nil.symm, (Below.refl _ _).alloc (Nat.le_refl _) _⟩

end Go.Proofs.YtkmebilhbjcfpaaGreat

namespace Go.Proofs.YtkmebilhbjcfpaaGreat
open Go.RowKit
set_option linter.unusedVariables false

/-- Where the list of digests stands. -/
structure Leafing (w : World) (zs : List Int) (X : Option Addr) (c : Nat) (w' : World) : Prop where
  own : OwnInts w' w.heap.size X c zs
  below : Below w.heap.size w w'
theorem Leafing.app {w w1 w2 : World} {zs ys : List Int} {X : Option Addr} {c : Nat} {v : Value} (h : Leafing w zs X c w1) (o : Obj) (hA : Appended (w1.alloc o) w.heap.size X zs.length c ys v w2) : ∃ X' c', v = .slice X' ys.length c' ∧ Leafing w ys X' c' w2 := by
  obtain ⟨⟨X', c', hv, ho⟩, hg, hb⟩ := hA
  exact ⟨X', c', hv, ho, (h.below.alloc h.below.size o).trans hb⟩
theorem leafL_to_length (bs : List ByteArray) (k : Nat) (h : k ≤ bs.length) : (leafL (bs.take k)).length = k := by rw [leafL_length, List.length_take]; omega

set_option maxHeartbeats 4000000 in
set_option maxRecDepth 100000 in
theorem textDigests_any (A : Option Addr) (cap : Nat) (bs : List ByteArray) (w : World) (hI : StrsAt w w.heap.size A bs) (hf : Fit bs) (hm : bs.length ≤ 1048576) :
    Calls Tryz.prog 121 #[.slice A bs.length cap] w (RetInts w (leafL bs)) := by
  have HI := Lib.hid hI
  have HF := Lib.hid hf
  obtain ⟨m, HM⟩ : ∃ m, Hid (bs.length = m) := ⟨_, rfl⟩
  rw [HM.out] at hm ⊢
  clear hI hf
  go_enter Tryz.func121, Tryz.ntmps121
  go_wp2
  go_loopw [3, 9] (fun p i w' => ∃ (k c : Nat) (X : Option Addr), k ≤ m ∧ i = .int .i64 k ∧ p = .slice X k c ∧ Hid (Leafing w (leafL (bs.take k)) X c w')) (fun _ i _ => m - (intOf i).toNat)
  case atStart => exact ⟨0, 0, _, by omega, rfl, rfl, OwnInts.new w, (Below.refl _ _).alloc (Nat.le_refl _) _⟩
  case round =>
    obtain ⟨k, c, X, hk, rfl, rfl, HW⟩ := hrel
    have hsz := HW.out.below.size
    by_cases hlt : k < m
    · have hkz : k < bs.length := by rw [HM.out]; exact hlt
      obtain ⟨blk, o, rfl, hbl, hc⟩ := (HI.out.belowS HW.out.below) (by omega)
      have hck := hc k hkz
      have hki : (k : Int) < (m : Int) := by omega
      have HE := Lib.hid (leafL_next bs k hkz)
      have HL := Lib.hid (leafL_to_length bs k (by omega))
      have HFK := Lib.hid (HF.out k)
      clear hc hkz
      go_wp2_with (first
        | (go_at_call 126; refine (text_any _ _ HFK.out).mono ?_; rintro e w' ⟨rfl, rfl⟩)
        | (at_builtin; refine wpList_app_ints rfl (.tmp 13) (.tmp 16) rfl _ w.heap.size X c (leafL (bs.take k)) (by rw [HL.out]; rfl) _ _ [textOr (sth bs k)] rfl (HW.out.own.alloc _) (one_new _ _) (by rw [HL.out]; simp; omega) (by simp; omega) (by simp) ?_; intro v w4 hA))
      obtain ⟨X', c', rfl, hW4⟩ := HW.out.app _ hA
      rw [← HE.out] at hW4
      have HW4 := Lib.hid hW4
      have hlen : (leafL (bs.take k) ++ [textOr (sth bs k)]).length = k + 1 := by rw [List.length_append, HL.out]; rfl
      rw [hlen]
      clear hA hW4 hlen
      go_wp2
      go_roundw
      case rel => exact ⟨k + 1, c', X', by omega, by go_num, by simp, HW4⟩
      case measure => simp [intOf]; omega
    · have hkm : k = m := by omega
      subst hkm
      have HW' : Hid (Leafing w (leafL bs) X c wr) := by
        have h := HW.out
        rw [List.take_of_length_le (by rw [HM.out]; omega)] at h
        exact h
      go_wp2
      go_ret
      exact ⟨X, c, by rw [leafL_length, HM.out]; rfl, HW'.out.own, HW'.out.below⟩



/-- No text is too long for a digest. -/
def Short (bs : List ByteArray) : Prop := ∀ k, k < bs.length → (sth bs k).size ≤ 8

set_option maxHeartbeats 4000000 in
set_option maxRecDepth 100000 in
theorem sleaves_any (A : Option Addr) (cap : Nat) (bs : List ByteArray) (w : World) (hI : StrsAt w w.heap.size A bs) (hf : Short bs) (hm : bs.length ≤ 1048576) :
    Calls Tryz.prog 57 #[.slice A bs.length cap] w (RetInts w (leafL bs)) := by
  have HI := Lib.hid hI
  have HF := Lib.hid hf
  obtain ⟨m, HM⟩ : ∃ m, Hid (bs.length = m) := ⟨_, rfl⟩
  rw [HM.out] at hm ⊢
  clear hI hf
  go_enter Tryz.func57, Tryz.ntmps57
  go_wp2
  go_loopw [3, 4] (fun p i w' => ∃ (k c : Nat) (X : Option Addr), k ≤ m ∧ i = .int .i64 k ∧ p = .slice X k c ∧ Hid (Leafing w (leafL (bs.take k)) X c w')) (fun _ i _ => m - (intOf i).toNat)
  case atStart => exact ⟨0, 0, _, by omega, rfl, rfl, OwnInts.new w, (Below.refl _ _).alloc (Nat.le_refl _) _⟩
  case round =>
    obtain ⟨k, c, X, hk, rfl, rfl, HW⟩ := hrel
    have hsz := HW.out.below.size
    by_cases hlt : k < m
    · have hkz : k < bs.length := by rw [HM.out]; exact hlt
      obtain ⟨blk, o, rfl, hbl, hc⟩ := (HI.out.belowS HW.out.below) (by omega)
      have hck := hc k hkz
      have hki : (k : Int) < (m : Int) := by omega
      have hkd : decide (k < m) = true := by simp [hlt]
      have HE := Lib.hid (leafL_next bs k hkz)
      have HL := Lib.hid (leafL_to_length bs k (by omega))
      have HFK := Lib.hid (HF.out k hkz)
      have HTE := Lib.hid (textOr_y HFK.out)
      clear hc hkz
      go_wp2_with (first
        | (go_at_call 59; refine (stext1_any _ _ HFK.out).mono ?_; rintro e w' ⟨rfl, rfl⟩)
        | (at_builtin; refine wpList_app_ints rfl (.tmp 12) (.tmp 18) rfl _ w.heap.size X c (leafL (bs.take k)) (by rw [HL.out]; rfl) _ _ [textOr (sth bs k)] (by rw [HTE.out]; rfl) (HW.out.own.alloc _) (by rw [HTE.out]; exact one_new _ _) (by rw [HL.out]; simp; omega) (by simp; omega) (by simp) ?_; intro v w4 hA))
      obtain ⟨X', c', rfl, hW4⟩ := HW.out.app _ hA
      rw [← HE.out] at hW4
      have HW4 := Lib.hid hW4
      have hlen : (leafL (bs.take k) ++ [textOr (sth bs k)]).length = k + 1 := by rw [List.length_append, HL.out]; rfl
      rw [hlen]
      clear hA hW4 hlen
      go_wp2
      go_roundw
      case rel => exact ⟨k + 1, c', X', by omega, by go_num, by simp, HW4⟩
      case measure => simp [intOf]; omega
    · have hkm : k = m := by omega
      subst hkm
      have hkd : decide (k < k) = false := by simp
      have HW' : Hid (Leafing w (leafL bs) X c wr) := by
        have h := HW.out
        rw [List.take_of_length_le (by rw [HM.out]; omega)] at h
        exact h
      go_wp2
      go_ret
      exact ⟨X, c, by rw [leafL_length, HM.out]; rfl, HW'.out.own, HW'.out.below⟩

end Go.Proofs.YtkmebilhbjcfpaaGreat

namespace Go.Proofs.YtkmebilhbjcfpaaGreat
open Go.RowKit
set_option linter.unusedVariables false

/-- The six cells of a feed's block. -/
theorem feed_cells {W : World} {g : Nat} {t : TypeId} {v0 v1 v2 v3 v4 v5 : Value} (h : Blk W g t #[v0, v1, v2, v3, v4, v5]) : W.cell? ⟨g, 0, none⟩ = some v0 ∧ W.cell? ⟨g, 1, none⟩ = some v1 ∧ W.cell? ⟨g, 2, none⟩ = some v2 ∧ W.cell? ⟨g, 3, none⟩ = some v3 ∧ W.cell? ⟨g, 4, none⟩ = some v4 ∧ W.cell? ⟨g, 5, none⟩ = some v5 :=
  ⟨h.cell 0, h.cell 1, h.cell 2, h.cell 3, h.cell 4, h.cell 5⟩
theorem blk_frozen {W : World} {g : Nat} {t : TypeId} {cs : Array Value} (h : Blk W g t cs) (i : Nat) : W.frozen? ⟨g, i, none⟩ = false := by
  unfold Blk at h
  simp [World.frozen?, h]
/-- Six cells of one block are written. -/
theorem blk_six {W : World} {g : Nat} {t : TypeId} {u0 u1 u2 u3 u4 u5 : Value} (h : Blk W g t #[u0, u1, u2, u3, u4, u5]) (v0 v1 v2 v3 v4 v5 : Value) : Blk ((((((W.setCell ⟨g, 0, none⟩ v0).setCell ⟨g, 1, none⟩ v1).setCell ⟨g, 2, none⟩ v2).setCell ⟨g, 3, none⟩ v3).setCell ⟨g, 4, none⟩ v4).setCell ⟨g, 5, none⟩ v5) g t #[v0, v1, v2, v3, v4, v5] :=
  (((((h.setOwn 0 v0).setOwn 1 v1).setOwn 2 v2).setOwn 3 v3).setOwn 4 v4).setOwn 5 v5
theorem below_six {W w : World} {B g : Nat} (h : Below B w W) (hg : B ≤ g) (v0 v1 v2 v3 v4 v5 : Value) : Below B w ((((((W.setCell ⟨g, 0, none⟩ v0).setCell ⟨g, 1, none⟩ v1).setCell ⟨g, 2, none⟩ v2).setCell ⟨g, 3, none⟩ v3).setCell ⟨g, 4, none⟩ v4).setCell ⟨g, 5, none⟩ v5) :=
  (((((h.setCell (p := ⟨g, 0, none⟩) hg v0).setCell (p := ⟨g, 1, none⟩) hg v1).setCell (p := ⟨g, 2, none⟩) hg v2).setCell (p := ⟨g, 3, none⟩) hg v3).setCell (p := ⟨g, 4, none⟩) hg v4).setCell (p := ⟨g, 5, none⟩) hg v5
theorem size_six (W : World) (g : Nat) (v0 v1 v2 v3 v4 v5 : Value) : ((((((W.setCell ⟨g, 0, none⟩ v0).setCell ⟨g, 1, none⟩ v1).setCell ⟨g, 2, none⟩ v2).setCell ⟨g, 3, none⟩ v3).setCell ⟨g, 4, none⟩ v4).setCell ⟨g, 5, none⟩ v5).heap.size = W.heap.size := by simp
/-- The cells of a feed. -/
abbrev feedC (p l d s : Int) (A1 : Option Addr) (n1 c1 : Nat) (A2 : Option Addr) (n2 c2 : Nat) : Array Value := #[.int .i64 p, .int .i64 l, .int .i64 d, .int .i64 s, .slice A1 n1 c1, .slice A2 n2 c2]





set_option maxHeartbeats 2000000 in
set_option maxRecDepth 100000 in
theorem empty_any (w : World) :
    Calls Tryz.prog 54 #[] w fun e w' => e = .returned (headV 0 0 0) ∧ Below w.heap.size w w' := by
  go_enter Tryz.func54, Tryz.ntmps54
  go_wp2
  have hblk := Blk.new w 52 #[.int .i64 0, .int .i64 0, .int .i64 0]
  have hbel : Below w.heap.size w (w.alloc (.cells #[.int .i64 0, .int .i64 0, .int .i64 0] 52)) := (Below.refl _ w).alloc (Nat.le_refl _) _
  obtain ⟨W, HW⟩ : ∃ W, Hid (w.alloc (.cells #[.int .i64 0, .int .i64 0, .int .i64 0] 52) = W) := ⟨_, rfl⟩
  rw [HW.out] at hblk hbel ⊢
  have c0 : W.cell? ⟨w.heap.size, 0, none⟩ = some (.int .i64 0) := hblk.cell 0
  have c1 : W.cell? ⟨w.heap.size, 1, none⟩ = some (.int .i64 0) := hblk.cell 1
  have c2 : W.cell? ⟨w.heap.size, 2, none⟩ = some (.int .i64 0) := hblk.cell 2
  exact bodyPost_ret (v := headV 0 0 0) (by simp [results, Tryz.results54, go_sem, c0, c1, c2]) rfl ⟨rfl, hbel⟩

set_option maxHeartbeats 2000000 in
set_option maxRecDepth 100000 in
theorem sfeedNew_no (p : Int) (w : World) (h : ¬ (1 ≤ p ∧ p < 997)) :
    Calls Tryz.prog 52 #[.int .i64 p] w fun e w' => e = .returned (.tuple #[feedV 0 0 0 0 none 0 0 none 0 0, .bool false]) ∧ Below w.heap.size w w' := by
  have H := Lib.hid h
  clear h
  go_enter Tryz.func52, Tryz.ntmps52
  go_wp2_with fail
  refine (skey_no _ _ H.out).mono ?_
  rintro e w' ⟨rfl, rfl⟩
  go_wp2
  have hblk := Blk.new w 56 (feedC 0 0 0 0 none 0 0 none 0 0)
  have hbel : Below w.heap.size w (w.alloc (.cells (feedC 0 0 0 0 none 0 0 none 0 0) 56)) := (Below.refl _ w).alloc (Nat.le_refl _) _
  obtain ⟨W, HW⟩ : ∃ W, Hid (w.alloc (.cells (feedC 0 0 0 0 none 0 0 none 0 0) 56) = W) := ⟨_, rfl⟩
  rw [HW.out] at hblk hbel ⊢
  obtain ⟨c0, c1, c2, c3, c4, c5⟩ := feed_cells hblk
  exact bodyPost_ret (v := .tuple #[feedV 0 0 0 0 none 0 0 none 0 0, .bool false]) (by simp [results, Tryz.results52, go_sem, c0, c1, c2, c3, c4, c5]) rfl ⟨rfl, hbel⟩

/-- A feed without blocks whose slices are laid, but empty. -/
def EmptyFeed (w : World) (p : Int) (e : Ending) (w' : World) : Prop :=
  ∃ g1 g2, e = .returned (.tuple #[feedV p 0 0 0 (some ⟨g1, 0, none⟩) 0 0 (some ⟨g2, 0, none⟩) 0 0, .bool true]) ∧ OwnFeed w' w.heap.size (some ⟨g1, 0, none⟩) 0 (some ⟨g2, 0, none⟩) 0 [] [] ∧ Below w.heap.size w w'

set_option maxHeartbeats 2000000 in
set_option maxRecDepth 100000 in
theorem sfeedNew_yes (p : Int) (w : World) (h0 : 1 ≤ p) (h1 : p < 997) :
    Calls Tryz.prog 52 #[.int .i64 p] w (EmptyFeed w p) := by
  go_enter Tryz.func52, Tryz.ntmps52
  go_wp2_with fail
  refine (skey_yes _ _ h0 h1).mono ?_
  rintro e w' ⟨rfl, rfl⟩
  go_wp2_with fail
  refine (empty_any _).mono ?_
  rintro e w1 ⟨rfl, hb1⟩
  have hz1 : w.heap.size < w1.heap.size := by have := hb1.size; simp at this; omega
  have hblk1 := (Blk.new w 56 (feedC 0 0 0 0 none 0 0 none 0 0)).below hb1 (by simp)
  obtain ⟨k0, k1, k2, k3, k4, k5⟩ := feed_cells hblk1
  have kf := blk_frozen hblk1
  have HK := Lib.hid hblk1
  have HB1 := Lib.hid hb1
  clear hb1 hblk1
  go_wp2
  obtain ⟨V, HV⟩ : ∃ V, Hid (((((((w1.setCell ⟨w.heap.size, 0, none⟩ (.int .i64 p)).setCell ⟨w.heap.size, 1, none⟩ (.int .i64 0)).setCell ⟨w.heap.size, 2, none⟩ (.int .i64 0)).setCell ⟨w.heap.size, 3, none⟩ (.int .i64 0)).setCell ⟨w.heap.size, 4, none⟩ (.slice (some ⟨w1.heap.size, 0, none⟩) 0 0)).setCell ⟨w.heap.size, 5, none⟩ (.slice (some ⟨w1.heap.size + 1, 0, none⟩) 0 0)) = V) := ⟨_, rfl⟩
  have hblk := blk_six HK.out (.int .i64 p) (.int .i64 0) (.int .i64 0) (.int .i64 0) (.slice (some ⟨w1.heap.size, 0, none⟩) 0 0) (.slice (some ⟨w1.heap.size + 1, 0, none⟩) 0 0)
  have hbel : Below w.heap.size w V := by
    rw [← HV.out]
    exact below_six (((Below.refl _ w).alloc (Nat.le_refl _) _).trans (HB1.out.mono (by simp))) (Nat.le_refl _) _ _ _ _ _ _
  have hsz : V.heap.size = w1.heap.size := by rw [← HV.out]; exact size_six _ _ _ _ _ _ _ _
  rw [HV.out] at hblk ⊢
  rw [← hsz] at hblk hz1 ⊢
  have hs := OwnStrs.new V
  have hh := OwnBools.new (V.alloc (.cells #[] 9))
  rw [World.size_alloc] at hh
  have hown : OwnFeed ((V.alloc (.cells #[] 9)).alloc (.cells #[] 4)) w.heap.size (some ⟨V.heap.size, 0, none⟩) 0 (some ⟨V.heap.size + 1, 0, none⟩) 0 [] [] := ⟨(hs.alloc _).base_le (by omega), hh.base_le (by omega), fun k => Nat.zero_le _⟩
  have hbel2 : Below w.heap.size w ((V.alloc (.cells #[] 9)).alloc (.cells #[] 4)) := (hbel.alloc (by omega) _).alloc (by simp; omega) _
  have hblk2 := (hblk.alloc (.cells #[] 9)).alloc (.cells #[] 4)
  obtain ⟨U, HU⟩ : ∃ U, Hid ((V.alloc (.cells #[] 9)).alloc (.cells #[] 4) = U) := ⟨_, rfl⟩
  rw [HU.out] at hown hbel2 hblk2 ⊢
  obtain ⟨c0, c1, c2, c3, c4, c5⟩ := feed_cells hblk2
  exact bodyPost_ret (v := .tuple #[feedV p 0 0 0 (some ⟨V.heap.size, 0, none⟩) 0 0 (some ⟨V.heap.size + 1, 0, none⟩) 0 0, .bool true]) (by simp [results, Tryz.results52, go_sem, c0, c1, c2, c3, c4, c5]) rfl ⟨_, _, rfl, hown, hbel2⟩

end Go.Proofs.YtkmebilhbjcfpaaGreat
