/- The walks of FnFeedNew and FnExactFeedNew: they return true and change nothing that was there. Condition: the code's bytes lie in memory. -/
import Derived.Test.YtgpmodidpdjhkaaSameFeed
import Derived.Test.YtgpmodidpdjhkaaFeedValid
import Derived.Test.YtgpmodidpdjhkaaDrawSecret
import Derived.Test.YtgpmodidpdjhkaaIn
import Derived.Test.YtgpmodidpdjhkaaExactKeep
namespace Go.Proofs.Ytgpmodidpdjhkaa
open Go.RowKit
set_option linter.unusedVariables false

set_option maxHeartbeats 1000000 in
theorem drawFeedNew_any (A : Option Addr) (len cap : Nat) (w : World) (hI : In w A len cap) :
    Calls Try.prog 10 #[.slice A len cap] w (NumDrawn w) := by
  have HI := Lib.hid hI
  clear hI
  go_enter Try.func10, Try.ntmps10
  go_wp2_with fail
  refine (open_any A len cap _ HI.out).mono ?_
  rintro e w1 ⟨len', cap', rfl, hR1, hb1⟩
  have HR1 := Lib.hid hR1
  have HB1 := Lib.hid hb1
  clear hR1 hb1
  go_wp2_with fail
  refine (drawsec_any HR1.out (by omega)).mono ?_
  rintro e w2 ⟨d, p2, hd1, hd2, hp2, rfl, hR2, hb2, hg2⟩
  have HB2 := Lib.hid hb2
  clear hR2 hb2 hg2
  go_wp2
  go_ret
  exact ⟨d, hd1, hd2, rfl, HB1.out.trans HB2.out⟩

theorem FeedAt.none_ (w : World) (B : Nat) (A1 A2 : Option Addr) : FeedAt w B A1 A2 [] [] := ⟨StrsAt.nil, BoolsAt.nil, fun k => Nat.zero_le _, Nat.zero_le _, Nat.zero_le _⟩
/-- sameFeed at two feeds without blocks. -/
theorem sameNone (p l d s : Int) (A1 : Option Addr) (c1 : Nat) (A2 : Option Addr) (c2 : Nat) (A3 : Option Addr) (c3 : Nat) (A4 : Option Addr) (c4 : Nat) (w : World) :
    Calls Try.prog 13 #[feedV p l d s A1 0 c1 A2 0 c2, feedV p l d s A3 0 c3 A4 0 c4] w fun e w' => e = .returned (.bool true) ∧ Below w.heap.size w w' :=
  sameFeed_same p l d s A1 c1 A2 c2 A3 c3 A4 c4 [] [] w (FeedAt.none_ w _ A1 A2) (FeedAt.none_ w _ A3 A4)
theorem eqNone (p l d s : Int) (A1 : Option Addr) (c1 : Nat) (A2 : Option Addr) (c2 : Nat) (A3 : Option Addr) (c3 : Nat) (A4 : Option Addr) (c4 : Nat) (w : World) :
    Calls Try.prog 26 #[feedV p l d s A1 0 c1 A2 0 c2, feedV p l d s A3 0 c3 A4 0 c4] w fun e w' => e = .returned (.bool true) ∧ Below w.heap.size w w' :=
  eqFeed_same p l d s A1 c1 A2 c2 A3 c3 A4 c4 [] [] w (FeedAt.none_ w _ A1 A2) (FeedAt.none_ w _ A3 A4)
/-- A feed that is new is valid. -/
theorem validNone (p : Int) (A1 : Option Addr) (c1 : Nat) (A2 : Option Addr) (c2 : Nat) (w : World) (h0 : 1 ≤ p) (h1 : p < 997) :
    Calls Try.prog 14 #[feedV p 0 0 0 A1 0 c1 A2 0 c2] w fun e w' => e = .returned (.bool true) ∧ Below w.heap.size w w' := fv_noneZ p A1 c1 A2 c2 w h0 h1

set_option maxHeartbeats 4000000 in
set_option maxRecDepth 100000 in
theorem walkFeedNew (A : Option Addr) (len cap : Nat) (w : World) (hI : In w A len cap) :
    Calls Try.prog 3 #[.slice A len cap] w fun e w' => e = .returned (.bool true) ∧ Below w.heap.size w w' := by
  have hm := hI.len_le
  unfold maxLen at hm
  have HI := Lib.hid hI
  clear hI
  by_cases hlen : len ≤ 1048576
  · go_enter Try.func3, Try.ntmps3
    go_wp2_with fail
    refine (drawFeedNew_any A len cap _ HI.out).mono ?_
    rintro e w1 ⟨p, hp1, hp2, rfl, hb1⟩
    have HB1 := Lib.hid hb1
    clear hb1
    by_cases hp : 1 ≤ p ∧ p < 997
    · obtain ⟨h0, h1⟩ := hp
      go_wp2_with fail
      refine (feedNew_yes p _ h0 h1).mono ?_
      rintro e w2 ⟨rfl, hb2⟩
      have HB2 : Hid (Below w.heap.size w w2) := HB1.out.trans (hb2.mono HB1.out.size)
      have hz2 := HB2.out.size
      clear hb2
      go_wp2_with fail
      refine (sfeedNew_yes p _ h0 h1).mono ?_
      rintro e w3 ⟨g1, g2, rfl, ho3, hb3⟩
      have HB3 : Hid (Below w.heap.size w w3) := (HB2.out.alloc hz2 _).trans (hb3.mono (by simp; omega))
      have K3 := Lib.hid ((Blk.new w2 29 (feedC p 0 0 0 none 0 0 none 0 0)).below hb3 (by simp))
      have hz3 : w2.heap.size < w3.heap.size := K3.out.lt
      have K4 := Lib.hid (K3.out.alloc (.cells (feedC p 0 0 0 (some ⟨g1, 0, none⟩) 0 0 (some ⟨g2, 0, none⟩) 0 0) 29))
      obtain ⟨c0, c1, c2, c3, c4, c5⟩ := feed_cells K3.out
      clear ho3 hb3
      go_wp2_with fail
      refine (sameNone p 0 0 0 none 0 none 0 _ 0 _ 0 _).mono ?_
      rintro e w4 ⟨rfl, hb4⟩
      have HB4 : Hid (Below w.heap.size w w4) := (HB3.out.alloc HB3.out.size _).trans (hb4.mono (by have := HB3.out.size; simp; omega))
      have K5 := Lib.hid (K4.out.below hb4 (by simp; omega))
      obtain ⟨a0, a1, a2, a3, a4, a5⟩ := feed_cells K5.out
      clear hb4 c0 c1 c2 c3 c4 c5
      go_wp2_with fail
      refine (validNone p none 0 none 0 _ h0 h1).mono ?_
      rintro e w5 ⟨rfl, hb5⟩
      have HB5 : Hid (Below w.heap.size w w5) := HB4.out.trans (hb5.mono HB4.out.size)
      obtain ⟨b0, b1, b2, b3, b4, b5⟩ := feed_cells (K5.out.below hb5 K5.out.lt)
      clear hb5 a0 a1 a2 a3 a4 a5
      go_wp2
      go_ret
      exact ⟨rfl, HB5.out⟩
    · have HP := Lib.hid hp
      clear hp
      go_wp2_with fail
      refine (feedNew_no p _ HP.out).mono ?_
      rintro e w2 ⟨rfl, hb2⟩
      have HB2 : Hid (Below w.heap.size w w2) := HB1.out.trans (hb2.mono HB1.out.size)
      have hz2 := HB2.out.size
      clear hb2
      go_wp2_with fail
      refine (sfeedNew_no p _ HP.out).mono ?_
      rintro e w3 ⟨rfl, hb3⟩
      have HB3 : Hid (Below w.heap.size w w3) := (HB2.out.alloc hz2 _).trans (hb3.mono (by simp; omega))
      have K3 := Lib.hid ((Blk.new w2 29 (feedC 0 0 0 0 none 0 0 none 0 0)).below hb3 (by simp))
      have hz3 : w2.heap.size < w3.heap.size := K3.out.lt
      have K4 := Lib.hid (K3.out.alloc (.cells (feedC 0 0 0 0 none 0 0 none 0 0) 29))
      have L4 := Lib.hid (Blk.new w3 29 (feedC 0 0 0 0 none 0 0 none 0 0))
      obtain ⟨c0, c1, c2, c3, c4, c5⟩ := feed_cells K3.out
      clear hb3
      go_wp2_with fail
      refine (sameNone 0 0 0 0 none 0 none 0 none 0 none 0 _).mono ?_
      rintro e w4 ⟨rfl, hb4⟩
      have HB4 : Hid (Below w.heap.size w w4) := (HB3.out.alloc HB3.out.size _).trans (hb4.mono (by have := HB3.out.size; simp; omega))
      obtain ⟨a0, a1, a2, a3, a4, a5⟩ := feed_cells (K4.out.below hb4 (by simp; omega))
      obtain ⟨b0, b1, b2, b3, b4, b5⟩ := feed_cells (L4.out.below hb4 (by simp))
      clear hb4 c0 c1 c2 c3 c4 c5
      go_wp2_with fail
      refine (sameNone 0 0 0 0 none 0 none 0 none 0 none 0 _).mono ?_
      rintro e w5 ⟨rfl, hb5⟩
      have HB5 : Hid (Below w.heap.size w w5) := HB4.out.trans (hb5.mono HB4.out.size)
      clear hb5
      go_wp2
      go_ret
      exact ⟨rfl, HB5.out⟩
  · have h9 : 1048576 < len := by omega
    clear hlen
    go_enter Try.func3, Try.ntmps3
    go_wp2
    go_ret
    exact ⟨rfl, Below.refl _ _⟩

end Go.Proofs.Ytgpmodidpdjhkaa
