/- Contracts of the laws' functions sameFeed and eqFeed at two feeds that read alike: both answer true, and change nothing that was there. Condition: the feeds lie in memory. -/
import Derived.Test.YtgpmodidpdjhkaaFeedNew
import Derived.Test.YtgpmodidpdjhkaaSameStrs
import Derived.Test.YtgpmodidpdjhkaaSameBools
import Derived.Test.YtgpmodidpdjhkaaEqStrs
import Derived.Test.YtgpmodidpdjhkaaEqBools
import Derived.Test.YtgpmodidpdjhkaaExactHead
namespace Go.Proofs.Ytgpmodidpdjhkaa
open Go.RowKit
set_option linter.unusedVariables false

set_option maxHeartbeats 2000000 in
set_option maxRecDepth 100000 in
theorem sameFeed_same (p l d s : Int) (A1 : Option Addr) (c1 : Nat) (A2 : Option Addr) (c2 : Nat) (A3 : Option Addr) (c3 : Nat) (A4 : Option Addr) (c4 : Nat) (bs : List ByteArray) (hs : List Bool) (w : World) (hF : FeedAt w w.heap.size A1 A2 bs hs) (hG : FeedAt w w.heap.size A3 A4 bs hs) :
    Calls Try.prog 13 #[feedV p l d s A1 bs.length c1 A2 hs.length c2, feedV p l d s A3 bs.length c3 A4 hs.length c4] w fun e w' => e = .returned (.bool true) ∧ Below w.heap.size w w' := by
  have HF := Lib.hid hF
  have HG := Lib.hid hG
  obtain ⟨W, HW⟩ : ∃ W, Hid ((w.alloc (.cells (feedC p l d s A1 bs.length c1 A2 hs.length c2) 29)).alloc (.cells (feedC p l d s A3 bs.length c3 A4 hs.length c4) 29) = W) := ⟨_, rfl⟩
  have HB : Hid (Below w.heap.size w W) := by rw [← HW.out]; exact ((Below.refl _ w).alloc (Nat.le_refl _) _).alloc (by simp) _
  have C1 : Hid (∀ q, Calls Try.prog 39 #[.slice A1 bs.length c1, .slice A3 bs.length c3] (W.drewN q) fun e w' => e = .returned (.bool true) ∧ ∃ q', w' = (W.drewN q).drewN q') := fun q => by
    have h := sames_any A1 c1 bs A3 c3 bs (W.drewN q) ((HF.out.belowS HB.out).strs.drewN q) ((HG.out.belowS HB.out).strs.drewN q) HF.out.lb HF.out.lb
    rw [decide_eq_true rfl] at h
    exact h
  have C2 : Hid (∀ q, Calls Try.prog 40 #[.slice A2 hs.length c2, .slice A4 hs.length c4] (W.drewN q) fun e w' => e = .returned (.bool true) ∧ ∃ q', w' = (W.drewN q).drewN q') := fun q => by
    have h := sameb_any A2 c2 hs A4 c4 hs (W.drewN q) ((HF.out.belowS HB.out).bits.drewN q) ((HG.out.belowS HB.out).bits.drewN q) HF.out.lh HF.out.lh
    rw [decide_eq_true rfl] at h
    exact h
  have K1 : Hid (∀ q, Blk (W.drewN q) w.heap.size 29 (feedC p l d s A1 bs.length c1 A2 hs.length c2)) := fun q => by
    show W.heap[w.heap.size]? = _
    rw [← HW.out]
    exact (Blk.new w 29 _).alloc _
  have K2 : Hid (∀ q, Blk (W.drewN q) (w.heap.size + 1) 29 (feedC p l d s A3 bs.length c3 A4 hs.length c4)) := fun q => by
    show W.heap[w.heap.size + 1]? = _
    rw [← HW.out]
    have h := Blk.new (w.alloc (.cells (feedC p l d s A1 bs.length c1 A2 hs.length c2) 29)) 29 (feedC p l d s A3 bs.length c3 A4 hs.length c4)
    rw [World.size_alloc] at h
    exact h
  obtain ⟨m, HM⟩ : ∃ m, Hid (bs.length = m) := ⟨_, rfl⟩
  obtain ⟨n, HN⟩ : ∃ n, Hid (hs.length = n) := ⟨_, rfl⟩
  rw [HM.out] at C1 K1 K2 HW ⊢
  rw [HN.out] at C2 K1 K2 HW ⊢
  clear hF hG
  go_enter Try.func13, Try.ntmps13
  go_wp2_with fail
  rw [HW.out]
  refine (C1.out 0).mono ?_
  rintro e w1 ⟨rfl, q1, rfl⟩
  obtain ⟨a0, a1, a2, a3, a4, a5⟩ := feed_cells (K1.out q1)
  obtain ⟨b0, b1, b2, b3, b4, b5⟩ := feed_cells (K2.out q1)
  rw [show (W.drewN 0).drewN q1 = W.drewN q1 from by rw [World.drewN_drewN, Nat.zero_add]]
  go_wp2_with fail
  refine (C2.out q1).mono ?_
  rintro e w2 ⟨rfl, q2, rfl⟩
  go_wp2
  go_ret
  exact ⟨rfl, below_drewN HB.out _⟩

set_option maxHeartbeats 2000000 in
set_option maxRecDepth 100000 in
theorem eqFeed_same (p l d s : Int) (A1 : Option Addr) (c1 : Nat) (A2 : Option Addr) (c2 : Nat) (A3 : Option Addr) (c3 : Nat) (A4 : Option Addr) (c4 : Nat) (bs : List ByteArray) (hs : List Bool) (w : World) (hF : FeedAt w w.heap.size A1 A2 bs hs) (hG : FeedAt w w.heap.size A3 A4 bs hs) :
    Calls Try.prog 26 #[feedV p l d s A1 bs.length c1 A2 hs.length c2, feedV p l d s A3 bs.length c3 A4 hs.length c4] w fun e w' => e = .returned (.bool true) ∧ Below w.heap.size w w' := by
  have HF := Lib.hid hF
  have HG := Lib.hid hG
  obtain ⟨W, HW⟩ : ∃ W, Hid ((w.alloc (.cells (feedC p l d s A1 bs.length c1 A2 hs.length c2) 29)).alloc (.cells (feedC p l d s A3 bs.length c3 A4 hs.length c4) 29) = W) := ⟨_, rfl⟩
  have HB : Hid (Below w.heap.size w W) := by rw [← HW.out]; exact ((Below.refl _ w).alloc (Nat.le_refl _) _).alloc (by simp) _
  have hz : w.heap.size + 1 < W.heap.size := by rw [← HW.out]; simp
  have C1 : Hid (∀ U, Below w.heap.size w U → Calls Try.prog 71 #[.slice A1 bs.length c1, .slice A3 bs.length c3] U fun e w' => e = .returned (.bool true) ∧ ∃ q', w' = U.drewN q') := fun U hU => by
    have h := eqs_any A1 c1 bs A3 c3 bs U (HF.out.belowS hU).strs (HG.out.belowS hU).strs HF.out.lb HF.out.lb
    rw [decide_eq_true rfl] at h
    exact h
  have C2 : Hid (∀ U, Below w.heap.size w U → Calls Try.prog 72 #[.slice A2 hs.length c2, .slice A4 hs.length c4] U fun e w' => e = .returned (.bool true) ∧ ∃ q', w' = U.drewN q') := fun U hU => by
    have h := eqb_any A2 c2 hs A4 c4 hs U (HF.out.belowS hU).bits (HG.out.belowS hU).bits HF.out.lh HF.out.lh
    rw [decide_eq_true rfl] at h
    exact h
  have K1 : Hid (Blk W w.heap.size 29 (feedC p l d s A1 bs.length c1 A2 hs.length c2)) := by
    rw [← HW.out]
    exact (Blk.new w 29 _).alloc _
  have K2 : Hid (Blk W (w.heap.size + 1) 29 (feedC p l d s A3 bs.length c3 A4 hs.length c4)) := by
    rw [← HW.out]
    have h := Blk.new (w.alloc (.cells (feedC p l d s A1 bs.length c1 A2 hs.length c2) 29)) 29 (feedC p l d s A3 bs.length c3 A4 hs.length c4)
    rw [World.size_alloc] at h
    exact h
  obtain ⟨m, HM⟩ : ∃ m, Hid (bs.length = m) := ⟨_, rfl⟩
  obtain ⟨n, HN⟩ : ∃ n, Hid (hs.length = n) := ⟨_, rfl⟩
  rw [HM.out] at C1 K1 K2 HW ⊢
  rw [HN.out] at C2 K1 K2 HW ⊢
  clear hF hG
  go_enter Try.func26, Try.ntmps26
  go_wp2_with fail
  rw [HW.out]
  refine (eqHead_same l d s _).mono ?_
  rintro e w1 ⟨rfl, hb1⟩
  have HB1 : Hid (Below w.heap.size w w1) := HB.out.trans (hb1.mono HB.out.size)
  have K11 := Lib.hid (K1.out.below hb1 (by omega))
  have K21 := Lib.hid (K2.out.below hb1 (by omega))
  obtain ⟨a0, a1, a2, a3, a4, a5⟩ := feed_cells K11.out
  obtain ⟨b0, b1, b2, b3, b4, b5⟩ := feed_cells K21.out
  clear hb1
  go_wp2_with fail
  refine (C1.out _ HB1.out).mono ?_
  rintro e w2 ⟨rfl, q1, rfl⟩
  go_wp2_with fail
  refine (C2.out _ (below_drewN HB1.out q1)).mono ?_
  rintro e w3 ⟨rfl, q2, rfl⟩
  go_wp2
  go_ret
  exact ⟨rfl, below_drewN HB1.out _⟩

end Go.Proofs.Ytgpmodidpdjhkaa
