/- The walk of FnExactFeedNew: it returns true and changes nothing that was there. No conditions. -/
import Derived.Test.YtgpmodidpdjhkaaWalkFeedNew
import Derived.Test.YtgpmodidpdjhkaaExactFeed
namespace Go.Proofs.Ytgpmodidpdjhkaa
open Go.RowKit
set_option linter.unusedVariables false

theorem ownNone (w : World) (base : Nat) : OwnFeed w base none 0 none 0 [] [] := ⟨⟨rfl, .inl ⟨rfl, rfl⟩⟩, ⟨rfl, .inl ⟨rfl, rfl⟩⟩, fun k => Nat.zero_le _⟩
theorem markNone (p l d s : Int) (w : World) :
    Calls Try.prog 27 #[feedV p l d s none 0 0 none 0 0, .int .i64 1] w fun e w' => e = .returned (.int .i64 1) ∧ Below w.heap.size w w' :=
  (markFeed_any p l d s w.heap.size none 0 none 0 [] [] w (ownNone w _) (by simp) (by simp) (Nat.le_refl _)).mono fun e w' h => ⟨h.1, h.2.2.1⟩
theorem heldNone (p l d s : Int) (w : World) :
    Calls Try.prog 28 #[feedV p l d s none 0 0 none 0 0, .int .i64 1] w fun e w' => e = .returned (.int .i64 1) ∧ Below w.heap.size w w' :=
  heldFeed_any p l d s none 0 none 0 0 0 w (FeedAt.none_ w _ none none) (by omega) (by omega)

set_option maxHeartbeats 4000000 in
set_option maxRecDepth 100000 in
theorem walkExactFeedNew (p : Int) (w : World) :
    Calls Try.prog 7 #[.int .i64 p] w fun e w' => e = .returned (.bool true) ∧ Below w.heap.size w w' := by
  by_cases hp : 1 ≤ p ∧ p < 997
  · obtain ⟨h0, h1⟩ := hp
    go_enter Try.func7, Try.ntmps7
    go_wp2_with fail
    refine (sfeedNew_yes p _ h0 h1).mono ?_
    rintro e w1 ⟨g1, g2, rfl, ho1, hb1⟩
    clear ho1
    have HB1 := Lib.hid hb1
    have hz1 := hb1.size
    clear hb1
    go_wp2_with fail
    refine (feedNew_yes p _ h0 h1).mono ?_
    rintro e w2 ⟨rfl, hb2⟩
    have K2 := Lib.hid ((Blk.new w1 29 (feedC p 0 0 0 (some ⟨g1, 0, none⟩) 0 0 (some ⟨g2, 0, none⟩) 0 0)).below hb2 (by simp))
    have HB2 : Hid (Below w.heap.size w w2) := (HB1.out.alloc hz1 _).trans (hb2.mono (by simp; omega))
    have hz2 : w1.heap.size < w2.heap.size := K2.out.lt
    obtain ⟨a0, a1, a2, a3, a4, a5⟩ := feed_cells K2.out
    clear hb2
    obtain ⟨W, HW⟩ : ∃ W, Hid (w2.alloc (.cells (feedC p 0 0 0 none 0 0 none 0 0) 29) = W) := ⟨_, rfl⟩
    have KW : Hid (Blk W w1.heap.size 29 (feedC p 0 0 0 (some ⟨g1, 0, none⟩) 0 0 (some ⟨g2, 0, none⟩) 0 0)) := by rw [← HW.out]; exact K2.out.alloc _
    have LW : Hid (Blk W w2.heap.size 29 (feedC p 0 0 0 none 0 0 none 0 0)) := by rw [← HW.out]; exact Blk.new w2 _ _
    have HBW : Hid (Below w.heap.size w W) := by rw [← HW.out]; exact HB2.out.alloc HB2.out.size _
    go_wp2_with fail
    rw [HW.out]
    refine (eqNone p 0 0 0 none 0 none 0 _ 0 _ 0 _).mono ?_
    rintro e w3 ⟨rfl, hb3⟩
    have K3 := Lib.hid (KW.out.below hb3 KW.out.lt)
    have L3 := Lib.hid (LW.out.below hb3 LW.out.lt)
    have HB3 : Hid (Below w.heap.size w w3) := HBW.out.trans (hb3.mono HBW.out.size)
    clear hb3 a0 a1 a2 a3 a4 a5
    obtain ⟨b0, b1, b2, b3, b4, b5⟩ := feed_cells L3.out
    go_wp2_with fail
    refine (markNone p 0 0 0 _).mono ?_
    rintro e w4 ⟨rfl, hb4⟩
    have K4 := Lib.hid (K3.out.below hb4 K3.out.lt)
    have L4 := Lib.hid (L3.out.below hb4 L3.out.lt)
    have HB4 : Hid (Below w.heap.size w w4) := HB3.out.trans (hb4.mono HB3.out.size)
    clear hb4 b0 b1 b2 b3 b4 b5
    obtain ⟨b0, b1, b2, b3, b4, b5⟩ := feed_cells L4.out
    go_wp2_with fail
    refine (heldNone p 0 0 0 _).mono ?_
    rintro e w5 ⟨rfl, hb5⟩
    have K5 := Lib.hid (K4.out.below hb5 K4.out.lt)
    have L5 := Lib.hid (L4.out.below hb5 L4.out.lt)
    have HB5 : Hid (Below w.heap.size w w5) := HB4.out.trans (hb5.mono HB4.out.size)
    clear hb5 b0 b1 b2 b3 b4 b5
    go_wp2_with fail
    refine (feedNew_yes p _ h0 h1).mono ?_
    rintro e w6 ⟨rfl, hb6⟩
    have K6 := Lib.hid (K5.out.below hb6 K5.out.lt)
    have L6 := Lib.hid (L5.out.below hb6 L5.out.lt)
    have HB6 : Hid (Below w.heap.size w w6) := HB5.out.trans (hb6.mono HB5.out.size)
    clear hb6
    obtain ⟨a0, a1, a2, a3, a4, a5⟩ := feed_cells K6.out
    have hz6 : w1.heap.size < w6.heap.size := K6.out.lt
    obtain ⟨V, HV⟩ : ∃ V, Hid (w6.alloc (.cells (feedC p 0 0 0 none 0 0 none 0 0) 29) = V) := ⟨_, rfl⟩
    have LV : Hid (Blk V w2.heap.size 29 (feedC p 0 0 0 none 0 0 none 0 0)) := by rw [← HV.out]; exact L6.out.alloc _
    have HBV : Hid (Below w.heap.size w V) := by rw [← HV.out]; exact HB6.out.alloc HB6.out.size _
    go_wp2_with fail
    rw [HV.out]
    refine (eqNone p 0 0 0 none 0 none 0 _ 0 _ 0 _).mono ?_
    rintro e w7 ⟨rfl, hb7⟩
    have L7 := Lib.hid (LV.out.below hb7 LV.out.lt)
    have HB7 : Hid (Below w.heap.size w w7) := HBV.out.trans (hb7.mono HBV.out.size)
    clear hb7 a0 a1 a2 a3 a4 a5
    obtain ⟨b0, b1, b2, b3, b4, b5⟩ := feed_cells L7.out
    go_wp2_with fail
    refine (heldNone p 0 0 0 _).mono ?_
    rintro e w8 ⟨rfl, hb8⟩
    have HB8 : Hid (Below w.heap.size w w8) := HB7.out.trans (hb8.mono HB7.out.size)
    clear hb8
    go_wp2
    go_ret
    exact ⟨rfl, HB8.out⟩
  · have HP := Lib.hid hp
    clear hp
    go_enter Try.func7, Try.ntmps7
    go_wp2_with fail
    refine (sfeedNew_no p _ HP.out).mono ?_
    rintro e w1 ⟨rfl, hb1⟩
    have HB1 := Lib.hid hb1
    have hz1 := hb1.size
    clear hb1
    go_wp2_with fail
    refine (feedNew_no p _ HP.out).mono ?_
    rintro e w2 ⟨rfl, hb2⟩
    have K2 := Lib.hid ((Blk.new w1 29 (feedC 0 0 0 0 none 0 0 none 0 0)).below hb2 (by simp))
    have HB2 : Hid (Below w.heap.size w w2) := (HB1.out.alloc hz1 _).trans (hb2.mono (by simp; omega))
    have hz2 : w1.heap.size < w2.heap.size := K2.out.lt
    obtain ⟨a0, a1, a2, a3, a4, a5⟩ := feed_cells K2.out
    clear hb2
    obtain ⟨W, HW⟩ : ∃ W, Hid (w2.alloc (.cells (feedC 0 0 0 0 none 0 0 none 0 0) 29) = W) := ⟨_, rfl⟩
    have KW : Hid (Blk W w1.heap.size 29 (feedC 0 0 0 0 none 0 0 none 0 0)) := by rw [← HW.out]; exact K2.out.alloc _
    have LW : Hid (Blk W w2.heap.size 29 (feedC 0 0 0 0 none 0 0 none 0 0)) := by rw [← HW.out]; exact Blk.new w2 _ _
    have HBW : Hid (Below w.heap.size w W) := by rw [← HW.out]; exact HB2.out.alloc HB2.out.size _
    go_wp2_with fail
    rw [HW.out]
    refine (eqNone 0 0 0 0 none 0 none 0 none 0 none 0 _).mono ?_
    rintro e w3 ⟨rfl, hb3⟩
    have K3 := Lib.hid (KW.out.below hb3 KW.out.lt)
    have L3 := Lib.hid (LW.out.below hb3 LW.out.lt)
    have HB3 : Hid (Below w.heap.size w w3) := HBW.out.trans (hb3.mono HBW.out.size)
    clear hb3 a0 a1 a2 a3 a4 a5
    obtain ⟨b0, b1, b2, b3, b4, b5⟩ := feed_cells L3.out
    go_wp2_with fail
    refine (markNone 0 0 0 0 _).mono ?_
    rintro e w4 ⟨rfl, hb4⟩
    have K4 := Lib.hid (K3.out.below hb4 K3.out.lt)
    have L4 := Lib.hid (L3.out.below hb4 L3.out.lt)
    have HB4 : Hid (Below w.heap.size w w4) := HB3.out.trans (hb4.mono HB3.out.size)
    clear hb4 b0 b1 b2 b3 b4 b5
    obtain ⟨b0, b1, b2, b3, b4, b5⟩ := feed_cells L4.out
    go_wp2_with fail
    refine (heldNone 0 0 0 0 _).mono ?_
    rintro e w5 ⟨rfl, hb5⟩
    have K5 := Lib.hid (K4.out.below hb5 K4.out.lt)
    have L5 := Lib.hid (L4.out.below hb5 L4.out.lt)
    have HB5 : Hid (Below w.heap.size w w5) := HB4.out.trans (hb5.mono HB4.out.size)
    clear hb5 b0 b1 b2 b3 b4 b5
    go_wp2_with fail
    refine (feedNew_no p _ HP.out).mono ?_
    rintro e w6 ⟨rfl, hb6⟩
    have K6 := Lib.hid (K5.out.below hb6 K5.out.lt)
    have L6 := Lib.hid (L5.out.below hb6 L5.out.lt)
    have HB6 : Hid (Below w.heap.size w w6) := HB5.out.trans (hb6.mono HB5.out.size)
    clear hb6
    obtain ⟨a0, a1, a2, a3, a4, a5⟩ := feed_cells K6.out
    have hz6 : w1.heap.size < w6.heap.size := K6.out.lt
    obtain ⟨V, HV⟩ : ∃ V, Hid (w6.alloc (.cells (feedC 0 0 0 0 none 0 0 none 0 0) 29) = V) := ⟨_, rfl⟩
    have LV : Hid (Blk V w2.heap.size 29 (feedC 0 0 0 0 none 0 0 none 0 0)) := by rw [← HV.out]; exact L6.out.alloc _
    have HBV : Hid (Below w.heap.size w V) := by rw [← HV.out]; exact HB6.out.alloc HB6.out.size _
    go_wp2_with fail
    rw [HV.out]
    refine (eqNone 0 0 0 0 none 0 none 0 none 0 none 0 _).mono ?_
    rintro e w7 ⟨rfl, hb7⟩
    have L7 := Lib.hid (LV.out.below hb7 LV.out.lt)
    have HB7 : Hid (Below w.heap.size w w7) := HBV.out.trans (hb7.mono HBV.out.size)
    clear hb7 a0 a1 a2 a3 a4 a5
    obtain ⟨b0, b1, b2, b3, b4, b5⟩ := feed_cells L7.out
    go_wp2_with fail
    refine (heldNone 0 0 0 0 _).mono ?_
    rintro e w8 ⟨rfl, hb8⟩
    have HB8 : Hid (Below w.heap.size w w8) := HB7.out.trans (hb8.mono HB7.out.size)
    clear hb8
    go_wp2
    go_ret
    exact ⟨rfl, HB8.out⟩

end Go.Proofs.Ytgpmodidpdjhkaa
