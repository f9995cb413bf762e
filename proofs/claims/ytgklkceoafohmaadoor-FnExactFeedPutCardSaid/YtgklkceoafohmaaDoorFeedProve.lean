/- Contracts of FeedProve and of its model: the proof of a block of a whole feed in memory of its own; nothing that was there is changed. Condition: the feed lies in memory. -/
import Derived.Test.YtgklkceoafohmaaDoorSFeedValid
import Derived.Test.YtgklkceoafohmaaDoorBaseF
namespace Go.Proofs.YtgklkceoafohmaaDoor
open Go.RowKit
set_option linter.unusedVariables false

def proveOk (f : FD) (i : Int) : Bool := okB f && (wholeB f.hs && decide (0 ≤ i ∧ i < f.bs.length))
def proveL (f : FD) (i : Int) : List Int := if proveOk f i = true then proofOr (leafL f.bs) i else []
theorem proveOk_iff (f : FD) (i : Int) : proveOk f i = true ↔ FeedOk f ∧ wholeB f.hs = true ∧ 0 ≤ i ∧ i < f.bs.length := by
  unfold proveOk; rw [Bool.and_eq_true, Bool.and_eq_true, okB_iff, decide_eq_true_eq]
theorem proveOk_no {f : FD} {i : Int} (h : ¬ (FeedOk f ∧ wholeB f.hs = true ∧ 0 ≤ i ∧ i < f.bs.length)) : proveOk f i = false := by
  rw [Bool.eq_false_iff]; exact fun e => h ((proveOk_iff f i).1 e)
theorem proveL_no {f : FD} {i : Int} (h : proveOk f i = false) : proveL f i = [] := by unfold proveL; rw [h]; rfl
theorem proveL_yes {f : FD} {i : Int} (h : proveOk f i = true) : proveL f i = proofOr (leafL f.bs) i := by unfold proveL; rw [h]; rfl
/-- What FeedProve hands back. -/
def ProveRet (w : World) (zs : List Int) (R : Bool) (e : Ending) (w' : World) : Prop :=
  ∃ X c, e = .returned (.tuple #[.slice X zs.length c, .bool R]) ∧ OwnInts w' w.heap.size X c zs ∧ Below w.heap.size w w'

/-- TreeProof at a row of the call's own that is not empty. -/
theorem tproof_own {w : World} {base : Nat} {X : Option Addr} {c n : Nat} {zs : List Int} (h : OwnInts w base X c zs) (hl : zs.length = n) (hn : ¬ n = 0) (i : Int) :
    Calls Tryd.prog 62 #[.slice X n c, .int .i64 i] w (RetInts w (proofOr zs i)) := by
  obtain ⟨g, c', hv, _, _⟩ := World.ownsRow.form h (by omega)
  injection hv with hA _ _
  subst hA
  have := proof_any zs i g 0 c w h.ints h.le.1 h.le.2
  rw [hl] at this
  exact this

/-- TreeProof at a row of the call's own that is not empty. -/
theorem stproof_own {w : World} {base : Nat} {X : Option Addr} {c n : Nat} {zs : List Int} (h : OwnInts w base X c zs) (hl : zs.length = n) (hn : ¬ n = 0) (i : Int) :
    Calls Tryd.prog 33 #[.slice X n c, .int .i64 i] w (RetInts w (proofOr zs i)) := by
  obtain ⟨g, c', hv, _, _⟩ := World.ownsRow.form h (by omega)
  injection hv with hA _ _
  subst hA
  have := sproof_any zs i g 0 c w h.ints h.le.1 h.le.2
  rw [hl] at this
  exact this

set_option maxHeartbeats 4000000 in
set_option maxRecDepth 100000 in
theorem prove_inv (p l d s : Int) (A1 : Option Addr) (c1 : Nat) (A2 : Option Addr) (c2 : Nat) (bs : List ByteArray) (hs : List Bool) (i : Int) (w : World) (hF : FeedAt w w.heap.size A1 A2 bs hs) (hO : okB ⟨p, l, d, s, bs, hs⟩ = false) :
    Calls Tryd.prog 16 #[feedV p l d s A1 bs.length c1 A2 hs.length c2, .int .i64 i] w (ProveRet w [] false) := by
  have HF := Lib.hid hF
  obtain ⟨W, HW⟩ : ∃ W, Hid (w.alloc (.cells (feedC p l d s A1 bs.length c1 A2 hs.length c2) 28) = W) := ⟨_, rfl⟩
  have HB : Hid (Below w.heap.size w W) := by rw [← HW.out]; exact (Below.refl _ w).alloc (Nat.le_refl _) _
  have HK : Hid (Blk W w.heap.size 28 (feedC p l d s A1 bs.length c1 A2 hs.length c2)) := by rw [← HW.out]; exact Blk.new w _ _
  obtain ⟨k0, k1, k2, k3, k4, k5⟩ := feed_cells HK.out
  have CV : Hid (Calls Tryd.prog 13 #[feedV p l d s A1 bs.length c1 A2 hs.length c2] W fun e w' => e = .returned (.bool (okB ⟨p, l, d, s, bs, hs⟩)) ∧ Below W.heap.size W w') := feedValid_any p l d s A1 c1 A2 c2 bs hs W (HF.out.belowS HB.out)
  rw [hO] at CV
  clear hF hO
  go_enter Tryd.func16, Tryd.ntmps16
  go_wp2_with fail
  rw [HW.out]
  refine CV.out.mono ?_
  rintro e w1 ⟨rfl, hb1⟩
  have HB1 : Hid (Below w.heap.size w w1) := HB.out.trans (hb1.mono HB.out.size)
  have K1 := Lib.hid (HK.out.below hb1 HK.out.lt)
  clear k0 k1 k2 k3 k4 k5 hb1
  obtain ⟨k0, k1, k2, k3, k4, k5⟩ := feed_cells K1.out
  go_wp2
  go_ret2
  exact ⟨_, 0, rfl, (OwnInts.new w1).base_le HB1.out.size, HB1.out.alloc HB1.out.size _⟩

set_option maxHeartbeats 4000000 in
set_option maxRecDepth 100000 in
theorem prove_part (p l d s : Int) (A1 : Option Addr) (c1 : Nat) (A2 : Option Addr) (c2 : Nat) (bs : List ByteArray) (hs : List Bool) (i : Int) (w : World) (hF : FeedAt w w.heap.size A1 A2 bs hs) (hO : okB ⟨p, l, d, s, bs, hs⟩ = true) (hw : wholeB hs = false) :
    Calls Tryd.prog 16 #[feedV p l d s A1 bs.length c1 A2 hs.length c2, .int .i64 i] w (ProveRet w [] false) := by
  have HF := Lib.hid hF
  obtain ⟨W, HW⟩ : ∃ W, Hid (w.alloc (.cells (feedC p l d s A1 bs.length c1 A2 hs.length c2) 28) = W) := ⟨_, rfl⟩
  have HB : Hid (Below w.heap.size w W) := by rw [← HW.out]; exact (Below.refl _ w).alloc (Nat.le_refl _) _
  have HK : Hid (Blk W w.heap.size 28 (feedC p l d s A1 bs.length c1 A2 hs.length c2)) := by rw [← HW.out]; exact Blk.new w _ _
  obtain ⟨k0, k1, k2, k3, k4, k5⟩ := feed_cells HK.out
  have CV : Hid (Calls Tryd.prog 13 #[feedV p l d s A1 bs.length c1 A2 hs.length c2] W fun e w' => e = .returned (.bool (okB ⟨p, l, d, s, bs, hs⟩)) ∧ Below W.heap.size W w') := feedValid_any p l d s A1 c1 A2 c2 bs hs W (HF.out.belowS HB.out)
  have CW : Hid (∀ U, Below w.heap.size w U → Calls Tryd.prog 49 #[feedV p l d s A1 bs.length c1 A2 hs.length c2] U fun e w' => e = .returned (.bool false) ∧ Below U.heap.size U w') := fun U hU => by
    have h := isWhole_any p l d s A1 bs.length c1 A2 c2 hs U (HF.out.belowS hU).bits HF.out.lh
    rw [hw] at h
    exact h
  rw [hO] at CV
  clear hF hO hw
  go_enter Tryd.func16, Tryd.ntmps16
  go_wp2_with fail
  rw [HW.out]
  refine CV.out.mono ?_
  rintro e w1 ⟨rfl, hb1⟩
  have HB1 : Hid (Below w.heap.size w w1) := HB.out.trans (hb1.mono HB.out.size)
  have K1 := Lib.hid (HK.out.below hb1 HK.out.lt)
  clear k0 k1 k2 k3 k4 k5 hb1
  obtain ⟨k0, k1, k2, k3, k4, k5⟩ := feed_cells K1.out
  go_wp2_with fail
  refine (CW.out _ HB1.out).mono ?_
  rintro e w2 ⟨rfl, hb2⟩
  have HB2 : Hid (Below w.heap.size w w2) := HB1.out.trans (hb2.mono HB1.out.size)
  clear hb2
  go_wp2
  go_ret2
  exact ⟨_, 0, rfl, (OwnInts.new w2).base_le HB2.out.size, HB2.out.alloc HB2.out.size _⟩

set_option maxHeartbeats 4000000 in
set_option maxRecDepth 100000 in
theorem prove_low (p l d s : Int) (A1 : Option Addr) (c1 : Nat) (A2 : Option Addr) (c2 : Nat) (bs : List ByteArray) (hs : List Bool) (i : Int) (w : World) (hF : FeedAt w w.heap.size A1 A2 bs hs) (h16 : bs.length ≤ 16) (hO : okB ⟨p, l, d, s, bs, hs⟩ = true) (hw : wholeB hs = true) (hi : i < 0) :
    Calls Tryd.prog 16 #[feedV p l d s A1 bs.length c1 A2 hs.length c2, .int .i64 i] w (ProveRet w [] false) := by
  have HF := Lib.hid hF
  obtain ⟨W, HW⟩ : ∃ W, Hid (w.alloc (.cells (feedC p l d s A1 bs.length c1 A2 hs.length c2) 28) = W) := ⟨_, rfl⟩
  have HB : Hid (Below w.heap.size w W) := by rw [← HW.out]; exact (Below.refl _ w).alloc (Nat.le_refl _) _
  have HK : Hid (Blk W w.heap.size 28 (feedC p l d s A1 bs.length c1 A2 hs.length c2)) := by rw [← HW.out]; exact Blk.new w _ _
  obtain ⟨k0, k1, k2, k3, k4, k5⟩ := feed_cells HK.out
  have CV : Hid (Calls Tryd.prog 13 #[feedV p l d s A1 bs.length c1 A2 hs.length c2] W fun e w' => e = .returned (.bool (okB ⟨p, l, d, s, bs, hs⟩)) ∧ Below W.heap.size W w') := feedValid_any p l d s A1 c1 A2 c2 bs hs W (HF.out.belowS HB.out)
  have CW : Hid (∀ U, Below w.heap.size w U → Calls Tryd.prog 49 #[feedV p l d s A1 bs.length c1 A2 hs.length c2] U fun e w' => e = .returned (.bool true) ∧ Below U.heap.size U w') := fun U hU => by
    have h := isWhole_any p l d s A1 bs.length c1 A2 c2 hs U (HF.out.belowS hU).bits HF.out.lh
    rw [hw] at h
    exact h
  rw [hO] at CV
  clear hF hO hw
  obtain ⟨m, HM⟩ : ∃ m, Hid (bs.length = m) := ⟨_, rfl⟩
  obtain ⟨n, HN⟩ : ∃ n, Hid (hs.length = n) := ⟨_, rfl⟩
  rw [HM.out] at CV CW HW HK k4 h16 ⊢
  rw [HN.out] at CV CW HW HK k5 ⊢
  go_enter Tryd.func16, Tryd.ntmps16
  go_wp2_with fail
  rw [HW.out]
  refine CV.out.mono ?_
  rintro e w1 ⟨rfl, hb1⟩
  have HB1 : Hid (Below w.heap.size w w1) := HB.out.trans (hb1.mono HB.out.size)
  have K1 := Lib.hid (HK.out.below hb1 HK.out.lt)
  clear k0 k1 k2 k3 k4 k5 hb1
  obtain ⟨k0, k1, k2, k3, k4, k5⟩ := feed_cells K1.out
  go_wp2_with fail
  refine (CW.out _ HB1.out).mono ?_
  rintro e w2 ⟨rfl, hb2⟩
  have HB2 : Hid (Below w.heap.size w w2) := HB1.out.trans (hb2.mono HB1.out.size)
  have K2 := Lib.hid (K1.out.below hb2 K1.out.lt)
  clear k0 k1 k2 k3 k4 k5 hb2
  obtain ⟨k0, k1, k2, k3, k4, k5⟩ := feed_cells K2.out
  go_wp2
  go_ret2
  exact ⟨_, 0, rfl, (OwnInts.new w2).base_le HB2.out.size, HB2.out.alloc HB2.out.size _⟩

set_option maxHeartbeats 4000000 in
set_option maxRecDepth 100000 in
theorem prove_high (p l d s : Int) (A1 : Option Addr) (c1 : Nat) (A2 : Option Addr) (c2 : Nat) (bs : List ByteArray) (hs : List Bool) (i : Int) (w : World) (hF : FeedAt w w.heap.size A1 A2 bs hs) (h16 : bs.length ≤ 16) (hO : okB ⟨p, l, d, s, bs, hs⟩ = true) (hw : wholeB hs = true) (h0 : 0 ≤ i) (hi : (bs.length : Int) ≤ i) :
    Calls Tryd.prog 16 #[feedV p l d s A1 bs.length c1 A2 hs.length c2, .int .i64 i] w (ProveRet w [] false) := by
  have HF := Lib.hid hF
  obtain ⟨W, HW⟩ : ∃ W, Hid (w.alloc (.cells (feedC p l d s A1 bs.length c1 A2 hs.length c2) 28) = W) := ⟨_, rfl⟩
  have HB : Hid (Below w.heap.size w W) := by rw [← HW.out]; exact (Below.refl _ w).alloc (Nat.le_refl _) _
  have HK : Hid (Blk W w.heap.size 28 (feedC p l d s A1 bs.length c1 A2 hs.length c2)) := by rw [← HW.out]; exact Blk.new w _ _
  obtain ⟨k0, k1, k2, k3, k4, k5⟩ := feed_cells HK.out
  have CV : Hid (Calls Tryd.prog 13 #[feedV p l d s A1 bs.length c1 A2 hs.length c2] W fun e w' => e = .returned (.bool (okB ⟨p, l, d, s, bs, hs⟩)) ∧ Below W.heap.size W w') := feedValid_any p l d s A1 c1 A2 c2 bs hs W (HF.out.belowS HB.out)
  have CW : Hid (∀ U, Below w.heap.size w U → Calls Tryd.prog 49 #[feedV p l d s A1 bs.length c1 A2 hs.length c2] U fun e w' => e = .returned (.bool true) ∧ Below U.heap.size U w') := fun U hU => by
    have h := isWhole_any p l d s A1 bs.length c1 A2 c2 hs U (HF.out.belowS hU).bits HF.out.lh
    rw [hw] at h
    exact h
  rw [hO] at CV
  clear hF hO hw
  obtain ⟨m, HM⟩ : ∃ m, Hid (bs.length = m) := ⟨_, rfl⟩
  obtain ⟨n, HN⟩ : ∃ n, Hid (hs.length = n) := ⟨_, rfl⟩
  rw [HM.out] at CV CW HW HK k4 h16 hi ⊢
  rw [HN.out] at CV CW HW HK k5 ⊢
  go_enter Tryd.func16, Tryd.ntmps16
  go_wp2_with fail
  rw [HW.out]
  refine CV.out.mono ?_
  rintro e w1 ⟨rfl, hb1⟩
  have HB1 : Hid (Below w.heap.size w w1) := HB.out.trans (hb1.mono HB.out.size)
  have K1 := Lib.hid (HK.out.below hb1 HK.out.lt)
  clear k0 k1 k2 k3 k4 k5 hb1
  obtain ⟨k0, k1, k2, k3, k4, k5⟩ := feed_cells K1.out
  go_wp2_with fail
  refine (CW.out _ HB1.out).mono ?_
  rintro e w2 ⟨rfl, hb2⟩
  have HB2 : Hid (Below w.heap.size w w2) := HB1.out.trans (hb2.mono HB1.out.size)
  have K2 := Lib.hid (K1.out.below hb2 K1.out.lt)
  clear k0 k1 k2 k3 k4 k5 hb2
  obtain ⟨k0, k1, k2, k3, k4, k5⟩ := feed_cells K2.out
  go_wp2
  go_ret2
  exact ⟨_, 0, rfl, (OwnInts.new w2).base_le HB2.out.size, HB2.out.alloc HB2.out.size _⟩

set_option maxHeartbeats 4000000 in
set_option maxRecDepth 100000 in
theorem prove_yes (p l d s : Int) (A1 : Option Addr) (c1 : Nat) (A2 : Option Addr) (c2 : Nat) (bs : List ByteArray) (hs : List Bool) (i : Int) (w : World) (hF : FeedAt w w.heap.size A1 A2 bs hs) (h16 : bs.length ≤ 16) (hO : okB ⟨p, l, d, s, bs, hs⟩ = true) (hw : wholeB hs = true) (h0 : 0 ≤ i) (hi : i < (bs.length : Int)) :
    Calls Tryd.prog 16 #[feedV p l d s A1 bs.length c1 A2 hs.length c2, .int .i64 i] w (ProveRet w (proofOr (leafL bs) i) true) := by
  have HF := Lib.hid hF
  obtain ⟨W, HW⟩ : ∃ W, Hid (w.alloc (.cells (feedC p l d s A1 bs.length c1 A2 hs.length c2) 28) = W) := ⟨_, rfl⟩
  have HB : Hid (Below w.heap.size w W) := by rw [← HW.out]; exact (Below.refl _ w).alloc (Nat.le_refl _) _
  have HK : Hid (Blk W w.heap.size 28 (feedC p l d s A1 bs.length c1 A2 hs.length c2)) := by rw [← HW.out]; exact Blk.new w _ _
  obtain ⟨k0, k1, k2, k3, k4, k5⟩ := feed_cells HK.out
  have CV : Hid (Calls Tryd.prog 13 #[feedV p l d s A1 bs.length c1 A2 hs.length c2] W fun e w' => e = .returned (.bool (okB ⟨p, l, d, s, bs, hs⟩)) ∧ Below W.heap.size W w') := feedValid_any p l d s A1 c1 A2 c2 bs hs W (HF.out.belowS HB.out)
  have CW : Hid (∀ U, Below w.heap.size w U → Calls Tryd.prog 49 #[feedV p l d s A1 bs.length c1 A2 hs.length c2] U fun e w' => e = .returned (.bool true) ∧ Below U.heap.size U w') := fun U hU => by
    have h := isWhole_any p l d s A1 bs.length c1 A2 c2 hs U (HF.out.belowS hU).bits HF.out.lh
    rw [hw] at h
    exact h
  have CD : Hid (∀ U, Below w.heap.size w U → Calls Tryd.prog 51 #[.slice A1 bs.length c1] U (RetInts U (leafL bs))) := fun U hU => textDigests_any A1 c1 bs U (HF.out.belowS hU).strs HF.out.fit (by omega)
  have HLL : Hid ((leafL bs).length = bs.length) := leafL_length bs
  rw [hO] at CV
  clear hF hO hw 
  obtain ⟨m, HM⟩ : ∃ m, Hid (bs.length = m) := ⟨_, rfl⟩
  obtain ⟨n, HN⟩ : ∃ n, Hid (hs.length = n) := ⟨_, rfl⟩
  rw [HM.out] at CV CW HW HK k4 h16 hi CD HLL ⊢
  rw [HN.out] at CV CW HW HK k5 ⊢
  go_enter Tryd.func16, Tryd.ntmps16
  go_wp2_with fail
  rw [HW.out]
  refine CV.out.mono ?_
  rintro e w1 ⟨rfl, hb1⟩
  have HB1 : Hid (Below w.heap.size w w1) := HB.out.trans (hb1.mono HB.out.size)
  have K1 := Lib.hid (HK.out.below hb1 HK.out.lt)
  clear k0 k1 k2 k3 k4 k5 hb1
  obtain ⟨k0, k1, k2, k3, k4, k5⟩ := feed_cells K1.out
  go_wp2_with fail
  refine (CW.out _ HB1.out).mono ?_
  rintro e w2 ⟨rfl, hb2⟩
  have HB2 : Hid (Below w.heap.size w w2) := HB1.out.trans (hb2.mono HB1.out.size)
  have K2 := Lib.hid (K1.out.below hb2 K1.out.lt)
  clear k0 k1 k2 k3 k4 k5 hb2
  obtain ⟨k0, k1, k2, k3, k4, k5⟩ := feed_cells K2.out
  go_wp2_with fail
  refine (CD.out _ HB2.out).mono ?_
  rintro e w3 ⟨X3, e3, rfl, ho3, hb3⟩
  rw [HLL.out]
  have HB3 : Hid (Below w.heap.size w w3) := HB2.out.trans (hb3.mono HB2.out.size)
  have C3 := Lib.hid (tproof_own ho3 HLL.out (by omega) i)
  clear hb3 ho3
  go_wp2_with fail
  refine C3.out.mono ?_
  rintro e w4 ⟨X4, e4, rfl, ho4, hb4⟩
  have HB4 : Hid (Below w.heap.size w w4) := HB3.out.trans (hb4.mono HB3.out.size)
  have HO4 := Lib.hid (ho4.base_le HB3.out.size)
  clear hb4 ho4
  go_wp2
  go_ret2
  exact ⟨X4, e4, rfl, HO4.out, HB4.out⟩









theorem whole_none {hs : List Bool} (h : 0 < hs.length) : wholeB hs = noneF hs := by rw [wholeB_eq, decide_eq_true h]; rfl

theorem feedProve_any (p l d s : Int) (A1 : Option Addr) (c1 : Nat) (A2 : Option Addr) (c2 : Nat) (bs : List ByteArray) (hs : List Bool) (i : Int) (w : World) (hF : FeedAt w w.heap.size A1 A2 bs hs) :
    Calls Tryd.prog 16 #[feedV p l d s A1 bs.length c1 A2 hs.length c2, .int .i64 i] w (ProveRet w (proveL ⟨p, l, d, s, bs, hs⟩ i) (proveOk ⟨p, l, d, s, bs, hs⟩ i)) := by
  cases hO : okB ⟨p, l, d, s, bs, hs⟩ with
  | false =>
    have h1 : proveOk ⟨p, l, d, s, bs, hs⟩ i = false := by unfold proveOk; rw [hO]; rfl
    rw [proveL_no h1, h1]
    exact prove_inv p l d s A1 c1 A2 c2 bs hs i w hF hO
  | true =>
    have hok := (okB_iff _).1 hO
    have h16 : bs.length ≤ 16 := hok.len.1
    cases hw : wholeB hs with
    | false =>
      have h1 : proveOk ⟨p, l, d, s, bs, hs⟩ i = false := proveOk_no fun e => by have := e.2.1; rw [show wholeB _ = wholeB hs from rfl, hw] at this; cases this
      rw [proveL_no h1, h1]
      exact prove_part p l d s A1 c1 A2 c2 bs hs i w hF hO hw
    | true =>
      by_cases h0 : 0 ≤ i
      · by_cases hi : i < (bs.length : Int)
        · have h1 : proveOk ⟨p, l, d, s, bs, hs⟩ i = true := (proveOk_iff _ _).2 ⟨hok, hw, h0, hi⟩
          rw [proveL_yes h1, h1]
          exact prove_yes p l d s A1 c1 A2 c2 bs hs i w hF h16 hO hw h0 hi
        · have h1 : proveOk ⟨p, l, d, s, bs, hs⟩ i = false := proveOk_no fun e => hi e.2.2.2
          rw [proveL_no h1, h1]
          exact prove_high p l d s A1 c1 A2 c2 bs hs i w hF h16 hO hw h0 (by omega)
      · have h1 : proveOk ⟨p, l, d, s, bs, hs⟩ i = false := proveOk_no fun e => h0 e.2.2.1
        rw [proveL_no h1, h1]
        exact prove_low p l d s A1 c1 A2 c2 bs hs i w hF h16 hO hw (by omega)



end Go.Proofs.YtgklkceoafohmaaDoor
