/- The walk of FnExactFeedValid: it returns true and changes nothing that was there. Condition: the feed lies in memory. -/
import Derived.Test.YtgpmodidpdjhkaaSFeedValid
import Derived.Test.YtgpmodidpdjhkaaBaseL
namespace Go.Proofs.Ytgpmodidpdjhkaa
open Go.RowKit
set_option linter.unusedVariables false

set_option maxHeartbeats 4000000 in
set_option maxRecDepth 100000 in
theorem walkExactFeedValid (p l d s : Int) (A1 : Option Addr) (c1 : Nat) (A2 : Option Addr) (c2 : Nat) (bs : List ByteArray) (hs : List Bool) (w : World) (hF : FeedAt w w.heap.size A1 A2 bs hs) :
    Calls Try.prog 8 #[feedV p l d s A1 bs.length c1 A2 hs.length c2] w fun e w' => e = .returned (.bool true) ∧ Below w.heap.size w w' := by
  have HF := Lib.hid hF
  obtain ⟨W, HW⟩ : ∃ W, Hid (w.alloc (.cells (feedC p l d s A1 bs.length c1 A2 hs.length c2) 52) = W) := ⟨_, rfl⟩
  have HB : Hid (Below w.heap.size w W) := by rw [← HW.out]; exact (Below.refl _ w).alloc (Nat.le_refl _) _
  have HK : Hid (Blk W w.heap.size 52 (feedC p l d s A1 bs.length c1 A2 hs.length c2)) := by rw [← HW.out]; exact Blk.new w _ _
  have C0 := Lib.hid (szFeed_any p l d s A1 c1 A2 c2 bs hs W (HF.out.belowS HB.out))
  have CT : Hid (∀ U, Below w.heap.size w U → bs.length ≤ 1048576 → hs.length ≤ 1048576 → Calls Try.prog 30 #[feedV p l d s A1 bs.length c1 A2 hs.length c2] U (CopiedF U p l d s bs hs)) := fun U hU h1 h2 => toFeed_any p l d s A1 c1 A2 c2 bs hs U (HF.out.belowS hU) h1 h2
  have CV : Hid (∀ (U : World) (g1 g2 : Nat), FeedAt U U.heap.size (some ⟨g1, 0, none⟩) (some ⟨g2, 0, none⟩) bs hs → Calls Try.prog 14 #[feedV p l d s (some ⟨g1, 0, none⟩) bs.length bs.length (some ⟨g2, 0, none⟩) hs.length hs.length] U fun e w' => e = .returned (.bool (okB ⟨p, l, d, s, bs, hs⟩)) ∧ Below U.heap.size U w') := fun U g1 g2 h => feedValid_any p l d s _ _ _ _ bs hs U h
  have CS : Hid (∀ (U : World) (g1 g2 : Nat), FeedAt U U.heap.size (some ⟨g1, 0, none⟩) (some ⟨g2, 0, none⟩) bs hs → Calls Try.prog 16 #[feedV p l d s (some ⟨g1, 0, none⟩) bs.length bs.length (some ⟨g2, 0, none⟩) hs.length hs.length] U fun e w' => e = .returned (.bool (okB ⟨p, l, d, s, bs, hs⟩)) ∧ Below U.heap.size U w') := fun U g1 g2 h => sfeedValid_any p l d s _ _ _ _ bs hs U h
  have CE : Hid (∀ (U : World) (g1 g2 g3 g4 : Nat), FeedAt U U.heap.size (some ⟨g1, 0, none⟩) (some ⟨g2, 0, none⟩) bs hs → FeedAt U U.heap.size (some ⟨g3, 0, none⟩) (some ⟨g4, 0, none⟩) bs hs → Calls Try.prog 26 #[feedV p l d s (some ⟨g1, 0, none⟩) bs.length bs.length (some ⟨g2, 0, none⟩) hs.length hs.length, feedV p l d s (some ⟨g3, 0, none⟩) bs.length bs.length (some ⟨g4, 0, none⟩) hs.length hs.length] U fun e w' => e = .returned (.bool true) ∧ Below U.heap.size U w') := fun U g1 g2 g3 g4 h h' => eqFeed_same p l d s _ _ _ _ _ _ _ _ bs hs U h h'
  obtain ⟨R, HR⟩ : ∃ R, Hid (okB ⟨p, l, d, s, bs, hs⟩ = R) := ⟨_, rfl⟩
  rw [HR.out] at CV CS
  have hne : (R != R) = false := by simp
  obtain ⟨m, HM⟩ : ∃ m, Hid (bs.length = m) := ⟨_, rfl⟩
  obtain ⟨n, HN⟩ : ∃ n, Hid (hs.length = n) := ⟨_, rfl⟩
  rw [HM.out] at C0 CT CV CS CE HW HK ⊢
  rw [HN.out] at C0 CT CV CS CE HW HK ⊢
  clear hF
  go_enter Try.func8, Try.ntmps8
  go_wp2_with fail
  rw [HW.out]
  refine C0.out.mono ?_
  rintro e w1 ⟨r, rfl, hr0, hr1, hr2, hb1⟩
  have HB1 : Hid (Below w.heap.size w w1) := HB.out.trans (hb1.mono HB.out.size)
  have K1 := Lib.hid (HK.out.below hb1 HK.out.lt)
  obtain ⟨a0, a1, a2, a3, a4, a5⟩ := feed_cells K1.out
  clear hb1
  by_cases hr : 0 ≤ r
  · have HL := Lib.hid (hr2 hr)
    rw [HM.out, HN.out] at HL
    clear hr2
    go_wp2_with fail
    refine (CT.out _ HB1.out HL.out.1 HL.out.2).mono ?_
    rintro e w2 ⟨g1, g2, rfl, ho2, hb2⟩
    rw [HM.out, HN.out] at ho2 ⊢
    have HB2 : Hid (Below w.heap.size w w2) := HB1.out.trans (hb2.mono HB1.out.size)
    have K2 := Lib.hid (K1.out.below hb2 K1.out.lt)
    have HO2 := Lib.hid ho2
    clear hb2 ho2
    go_wp2_with fail
    refine (CS.out _ g1 g2 HO2.out.at_).mono ?_
    rintro e w3 ⟨rfl, hb3⟩
    have HB3 : Hid (Below w.heap.size w w3) := HB2.out.trans (hb3.mono HB2.out.size)
    have K3 := Lib.hid (K2.out.below hb3 K2.out.lt)
    clear hb3 a0 a1 a2 a3 a4 a5
    obtain ⟨a0, a1, a2, a3, a4, a5⟩ := feed_cells K3.out
    go_wp2_with fail
    refine (CT.out _ HB3.out HL.out.1 HL.out.2).mono ?_
    rintro e w4 ⟨g3, g4, rfl, ho4, hb4⟩
    rw [HM.out, HN.out] at ho4 ⊢
    have HB4 : Hid (Below w.heap.size w w4) := HB3.out.trans (hb4.mono HB3.out.size)
    have K4 := Lib.hid (K3.out.below hb4 K3.out.lt)
    obtain ⟨V, HV⟩ : ∃ V, Hid (w4.alloc (.cells (feedC p l d s (some ⟨g3, 0, none⟩) m m (some ⟨g4, 0, none⟩) n n) 29) = V) := ⟨_, rfl⟩
    have HOV : Hid (OwnFeed V w3.heap.size (some ⟨g3, 0, none⟩) m (some ⟨g4, 0, none⟩) n bs hs) := by rw [← HV.out]; exact ho4.alloc _
    have HBV : Hid (Below w.heap.size w V) := by rw [← HV.out]; exact HB4.out.alloc HB4.out.size _
    have KV : Hid (Blk V w.heap.size 52 (feedC p l d s A1 m c1 A2 n c2)) := by rw [← HV.out]; exact K4.out.alloc _
    have XV : Hid (Blk V w4.heap.size 29 (feedC p l d s (some ⟨g3, 0, none⟩) m m (some ⟨g4, 0, none⟩) n n)) := by rw [← HV.out]; exact Blk.new w4 _ _
    clear hb4 ho4 a0 a1 a2 a3 a4 a5
    go_wp2_with fail
    rw [HV.out]
    refine (CV.out _ g3 g4 HOV.out.at_).mono ?_
    rintro e w5 ⟨rfl, hb5⟩
    have HO5 := Lib.hid (HOV.out.below hb5)
    have HB5 : Hid (Below w.heap.size w w5) := HBV.out.trans (hb5.mono HBV.out.size)
    have K5 := Lib.hid (KV.out.below hb5 KV.out.lt)
    have X5 := Lib.hid (XV.out.below hb5 XV.out.lt)
    clear hb5
    obtain ⟨a0, a1, a2, a3, a4, a5⟩ := feed_cells K5.out
    obtain ⟨x0, x1, x2, x3, x4, x5⟩ := feed_cells X5.out
    go_wp2_with fail
    go_region_held3 (fun w' => (w'.cell? ⟨w.heap.size, 0, none⟩ = some (.int .i64 p) ∧ w'.cell? ⟨w.heap.size, 1, none⟩ = some (.int .i64 l) ∧ w'.cell? ⟨w.heap.size, 2, none⟩ = some (.int .i64 d) ∧ w'.cell? ⟨w.heap.size, 3, none⟩ = some (.int .i64 s) ∧ w'.cell? ⟨w.heap.size, 4, none⟩ = some (.slice A1 m c1) ∧ w'.cell? ⟨w.heap.size, 5, none⟩ = some (.slice A2 n c2)) ∧ (w'.cell? ⟨w4.heap.size, 0, none⟩ = some (.int .i64 p) ∧ w'.cell? ⟨w4.heap.size, 1, none⟩ = some (.int .i64 l) ∧ w'.cell? ⟨w4.heap.size, 2, none⟩ = some (.int .i64 d) ∧ w'.cell? ⟨w4.heap.size, 3, none⟩ = some (.int .i64 s) ∧ w'.cell? ⟨w4.heap.size, 4, none⟩ = some (.slice (some ⟨g3, 0, none⟩) m m) ∧ w'.cell? ⟨w4.heap.size, 5, none⟩ = some (.slice (some ⟨g4, 0, none⟩) n n))) (first | exact ⟨feed_cells K5.out, feed_cells X5.out⟩ | exact ⟨feed_cells K6.out, feed_cells X6.out⟩ | exact ⟨feed_cells K7.out, feed_cells X7.out⟩)
      (first
        | (go_at_call 30; (with_reducible refine (CT.out _ ?_ HL.out.1 HL.out.2).mono ?_); exact below_drew HB5.out; rintro e w6 ⟨g5, g6, rfl, ho6, hb6⟩; rw [HM.out, HN.out] at ho6 ⊢; have HB6 : Hid (Below w5.heap.size w5 w6) := below_drew_l hb6; have HO6 := Lib.hid ho6; have K6 := Lib.hid (K5.out.below HB6.out K5.out.lt); have X6 := Lib.hid (X5.out.below HB6.out X5.out.lt); clear hb6 ho6)
        | (go_at_call 26; (with_reducible refine (CE.out _ g3 g4 g5 g6 ?_ ?_).mono ?_); exact (HO5.out.below HB6.out).at_; exact HO6.out.at_; rintro e w7 ⟨rfl, hb7⟩; have HB7 := Lib.hid hb7; have K7 := Lib.hid (K6.out.below HB7.out K6.out.lt); have X7 := Lib.hid (X6.out.below HB7.out X6.out.lt); clear hb7))
    go_wp2
    go_ret
    exact ⟨rfl, HB5.out.trans ((HB6.out.mono HB5.out.size).trans (HB7.out.mono (Nat.le_trans HB5.out.size HB6.out.size)))⟩
  · clear hr2
    go_wp2
    go_ret
    exact ⟨rfl, HB1.out⟩

end Go.Proofs.Ytgpmodidpdjhkaa
