/- The walk of FnExactFeedProve: it returns true and changes nothing that was there. Condition: the feed lies in memory. -/
import Derived.Test.YtgpmodidpdjhkaaFeedProve
import Derived.Test.YtgpmodidpdjhkaaBaseL
import Derived.Test.YtgpmodidpdjhkaaBaseD
namespace Go.Proofs.Ytgpmodidpdjhkaa
open Go.RowKit
set_option linter.unusedVariables false

theorem proveL_short (f : FD) (i : Int) : (proveL f i).length ≤ 1048576 := by
  unfold proveL
  split
  · exact Nat.le_trans (proofOr_short _ _) (by omega)
  · simp
theorem dec_sameI (l : List Int) : decide (l = l) = true := by simp

set_option maxHeartbeats 8000000 in
set_option maxRecDepth 100000 in
theorem walkExactFeedProve (p l d s : Int) (A1 : Option Addr) (c1 : Nat) (A2 : Option Addr) (c2 : Nat) (bs : List ByteArray) (hs : List Bool) (i : Int) (w : World) (hF : FeedAt w w.heap.size A1 A2 bs hs) :
    Calls Try.prog 9 #[feedV p l d s A1 bs.length c1 A2 hs.length c2, .int .i64 i] w fun e w' => e = .returned (.bool true) ∧ Below w.heap.size w w' := by
  have HF := Lib.hid hF
  obtain ⟨W, HW⟩ : ∃ W, Hid (w.alloc (.cells (feedC p l d s A1 bs.length c1 A2 hs.length c2) 52) = W) := ⟨_, rfl⟩
  have HB : Hid (Below w.heap.size w W) := by rw [← HW.out]; exact (Below.refl _ w).alloc (Nat.le_refl _) _
  have HK : Hid (Blk W w.heap.size 52 (feedC p l d s A1 bs.length c1 A2 hs.length c2)) := by rw [← HW.out]; exact Blk.new w _ _
  have C0 := Lib.hid (szFeed_any p l d s A1 c1 A2 c2 bs hs W (HF.out.belowS HB.out))
  have CT : Hid (∀ U, Below w.heap.size w U → bs.length ≤ 1048576 → hs.length ≤ 1048576 → Calls Try.prog 30 #[feedV p l d s A1 bs.length c1 A2 hs.length c2] U (CopiedF U p l d s bs hs)) := fun U hU h1 h2 => toFeed_any p l d s A1 c1 A2 c2 bs hs U (HF.out.belowS hU) h1 h2
  have CV : Hid (∀ (U : World) (g1 g2 : Nat), FeedAt U U.heap.size (some ⟨g1, 0, none⟩) (some ⟨g2, 0, none⟩) bs hs → Calls Try.prog 21 #[feedV p l d s (some ⟨g1, 0, none⟩) bs.length bs.length (some ⟨g2, 0, none⟩) hs.length hs.length, .int .i64 i] U (ProveRet U (proveL ⟨p, l, d, s, bs, hs⟩ i) (proveOk ⟨p, l, d, s, bs, hs⟩ i))) := fun U g1 g2 h => feedProve_any p l d s _ _ _ _ bs hs i U h
  have CS : Hid (∀ (U : World) (g1 g2 : Nat), FeedAt U U.heap.size (some ⟨g1, 0, none⟩) (some ⟨g2, 0, none⟩) bs hs → Calls Try.prog 22 #[feedV p l d s (some ⟨g1, 0, none⟩) bs.length bs.length (some ⟨g2, 0, none⟩) hs.length hs.length, .int .i64 i] U (ProveRet U (proveL ⟨p, l, d, s, bs, hs⟩ i) (proveOk ⟨p, l, d, s, bs, hs⟩ i))) := fun U g1 g2 h => sfeedProve_any p l d s _ _ _ _ bs hs i U h
  have CE : Hid (∀ (U : World) (g1 g2 g3 g4 : Nat), FeedAt U U.heap.size (some ⟨g1, 0, none⟩) (some ⟨g2, 0, none⟩) bs hs → FeedAt U U.heap.size (some ⟨g3, 0, none⟩) (some ⟨g4, 0, none⟩) bs hs → Calls Try.prog 26 #[feedV p l d s (some ⟨g1, 0, none⟩) bs.length bs.length (some ⟨g2, 0, none⟩) hs.length hs.length, feedV p l d s (some ⟨g3, 0, none⟩) bs.length bs.length (some ⟨g4, 0, none⟩) hs.length hs.length] U fun e w' => e = .returned (.bool true) ∧ Below U.heap.size U w') := fun U g1 g2 g3 g4 h h' => eqFeed_same p l d s _ _ _ _ _ _ _ _ bs hs U h h'
  have CM : Hid (∀ (U : World) (base g1 g2 : Nat), OwnFeed U base (some ⟨g1, 0, none⟩) bs.length (some ⟨g2, 0, none⟩) hs.length bs hs → bs.length ≤ 1048576 → hs.length ≤ 1048576 → base ≤ U.heap.size → Calls Try.prog 27 #[feedV p l d s (some ⟨g1, 0, none⟩) bs.length bs.length (some ⟨g2, 0, none⟩) hs.length hs.length, .int .i64 1] U (MarkedF U base (some ⟨g1, 0, none⟩) bs.length (some ⟨g2, 0, none⟩) hs.length bs.length hs.length)) := fun U base g1 g2 h h1 h2 h3 => markFeed_any p l d s base _ _ _ _ bs hs U h h1 h2 h3
  have HRS := Lib.hid (proveL_short ⟨p, l, d, s, bs, hs⟩ i)
  obtain ⟨R, HR⟩ : ∃ R, Hid (proveL ⟨p, l, d, s, bs, hs⟩ i = R) := ⟨_, rfl⟩
  obtain ⟨K, HKK⟩ : ∃ K, Hid (proveOk ⟨p, l, d, s, bs, hs⟩ i = K) := ⟨_, rfl⟩
  rw [HR.out] at CV CS HRS
  rw [HKK.out] at CV CS
  have hne : (K != K) = false := by simp
  have HRM : Hid (R.length ≤ maxLen) := by show _ ≤ _; have := HRS.out; unfold maxLen; omega
  obtain ⟨m, HM⟩ : ∃ m, Hid (bs.length = m) := ⟨_, rfl⟩
  obtain ⟨n, HN⟩ : ∃ n, Hid (hs.length = n) := ⟨_, rfl⟩
  rw [HM.out] at C0 CT CV CS CE CM HW HK ⊢
  rw [HN.out] at C0 CT CV CS CE CM HW HK ⊢
  clear hF
  go_enter Try.func9, Try.ntmps9
  go_wp2_with fail
  rw [HW.out]
  refine C0.out.mono ?_
  rintro e w1 ⟨r, rfl, hr0, hr1, hr2, hb1⟩
  have HB1 : Hid (Below w.heap.size w w1) := HB.out.trans (hb1.mono HB.out.size)
  have K1 := Lib.hid (HK.out.below hb1 HK.out.lt)
  obtain ⟨a0, a1, a2, a3, a4, a5⟩ := feed_cells K1.out
  clear hb1
  by_cases hr : 0 ≤ r
  · have HL := Lib.hid (hr2 hr)
    rw [HM.out, HN.out] at HL
    clear hr2
    go_wp2_with fail
    refine (CT.out _ HB1.out HL.out.1 HL.out.2).mono ?_
    rintro e w2 ⟨g1, g2, rfl, ho2, hb2⟩
    rw [HM.out, HN.out] at ho2 ⊢
    have HB2 : Hid (Below w.heap.size w w2) := HB1.out.trans (hb2.mono HB1.out.size)
    have K2 := Lib.hid (K1.out.below hb2 K1.out.lt)
    have HO2 := Lib.hid ho2
    clear hb2 ho2
    go_wp2_with fail
    refine (CS.out _ g1 g2 HO2.out.at_).mono ?_
    rintro e w3 ⟨X3, e3, rfl, ho3, hb3⟩
    have HB3 : Hid (Below w.heap.size w w3) := HB2.out.trans (hb3.mono HB2.out.size)
    have K3 := Lib.hid (K2.out.below hb3 K2.out.lt)
    have HI3 := Lib.hid ho3
    clear hb3 ho3 a0 a1 a2 a3 a4 a5
    obtain ⟨a0, a1, a2, a3, a4, a5⟩ := feed_cells K3.out
    go_wp2_with fail
    refine (CT.out _ HB3.out HL.out.1 HL.out.2).mono ?_
    rintro e w4 ⟨g3, g4, rfl, ho4, hb4⟩
    rw [HM.out, HN.out] at ho4 ⊢
    have HB4 : Hid (Below w.heap.size w w4) := HB3.out.trans (hb4.mono HB3.out.size)
    have K4 := Lib.hid (K3.out.below hb4 K3.out.lt)
    have HI4 := Lib.hid (HI3.out.below hb4)
    have hz4 : w3.heap.size ≤ w4.heap.size := hb4.size
    obtain ⟨V, HV⟩ : ∃ V, Hid (w4.alloc (.cells (feedC p l d s (some ⟨g3, 0, none⟩) m m (some ⟨g4, 0, none⟩) n n) 29) = V) := ⟨_, rfl⟩
    have HOV : Hid (OwnFeed V w3.heap.size (some ⟨g3, 0, none⟩) m (some ⟨g4, 0, none⟩) n bs hs) := by rw [← HV.out]; exact ho4.alloc _
    have HBV : Hid (Below w.heap.size w V) := by rw [← HV.out]; exact HB4.out.alloc HB4.out.size _
    have KV : Hid (Blk V w.heap.size 52 (feedC p l d s A1 m c1 A2 n c2)) := by rw [← HV.out]; exact K4.out.alloc _
    have XV : Hid (Blk V w4.heap.size 29 (feedC p l d s (some ⟨g3, 0, none⟩) m m (some ⟨g4, 0, none⟩) n n)) := by rw [← HV.out]; exact Blk.new w4 _ _
    have HIV : Hid (OwnInts V w2.heap.size X3 e3 R) := by rw [← HV.out]; exact HI4.out.alloc _
    have hzV : w4.heap.size ≤ V.heap.size := by rw [← HV.out]; simp
    have Hg3 := Lib.hid (owns_lt ho4.strs g3 rfl)
    have Hg4 := Lib.hid (ownb_lt ho4.bits g4 rfl)
    clear hb4 ho4 a0 a1 a2 a3 a4 a5
    go_wp2_with fail
    rw [HV.out]
    refine (CV.out _ g3 g4 HOV.out.at_).mono ?_
    rintro e w5 ⟨X5, e5, rfl, ho5, hb5⟩
    have HO5 := Lib.hid (HOV.out.below hb5)
    have HB5 : Hid (Below w.heap.size w w5) := HBV.out.trans (hb5.mono HBV.out.size)
    have K5 := Lib.hid (KV.out.below hb5 KV.out.lt)
    have X5b := Lib.hid (XV.out.below hb5 XV.out.lt)
    have HI5 := Lib.hid (HIV.out.below hb5)
    have HJ5 := Lib.hid ho5
    have hz5 : V.heap.size ≤ w5.heap.size := hb5.size
    clear hb5 ho5
    go_wp2_with fail
    refine (eqi_any X5 e5 R X3 e3 R _ HJ5.out.ints HI5.out.ints HRM.out HRM.out).mono ?_
    rintro e w' ⟨rfl, q1, rfl⟩
    rw [dec_sameI]
    have HO5q : Hid (OwnFeed (w5.drewN q1) w3.heap.size (some ⟨g3, 0, none⟩) m (some ⟨g4, 0, none⟩) n bs hs) := ⟨HO5.out.strs, HO5.out.bits, HO5.out.fit⟩
    have HB5q : Hid (Below w.heap.size w (w5.drewN q1)) := below_drewN HB5.out q1
    have K5q : Hid (Blk (w5.drewN q1) w.heap.size 52 (feedC p l d s A1 m c1 A2 n c2)) := K5.out
    have X5q : Hid (Blk (w5.drewN q1) w4.heap.size 29 (feedC p l d s (some ⟨g3, 0, none⟩) m m (some ⟨g4, 0, none⟩) n n)) := X5b.out
    have HI5q : Hid (OwnInts (w5.drewN q1) w2.heap.size X3 e3 R) := HI5.out.drewN q1
    have HJ5q : Hid (OwnInts (w5.drewN q1) V.heap.size X5 e5 R) := HJ5.out.drewN q1
    obtain ⟨Z, HZ⟩ : ∃ Z, Hid (w5.drewN q1 = Z) := ⟨_, rfl⟩
    have hzZ : V.heap.size ≤ Z.heap.size := by rw [← HZ.out]; exact hz5
    rw [HZ.out] at HO5q HB5q K5q X5q HI5q HJ5q ⊢
    obtain ⟨a0, a1, a2, a3, a4, a5⟩ := feed_cells K5q.out
    obtain ⟨x0, x1, x2, x3, x4, x5⟩ := feed_cells X5q.out
    go_wp2_with fail
    go_region_held3 (fun w' => (w'.cell? ⟨w.heap.size, 0, none⟩ = some (.int .i64 p) ∧ w'.cell? ⟨w.heap.size, 1, none⟩ = some (.int .i64 l) ∧ w'.cell? ⟨w.heap.size, 2, none⟩ = some (.int .i64 d) ∧ w'.cell? ⟨w.heap.size, 3, none⟩ = some (.int .i64 s) ∧ w'.cell? ⟨w.heap.size, 4, none⟩ = some (.slice A1 m c1) ∧ w'.cell? ⟨w.heap.size, 5, none⟩ = some (.slice A2 n c2)) ∧ (w'.cell? ⟨w4.heap.size, 0, none⟩ = some (.int .i64 p) ∧ w'.cell? ⟨w4.heap.size, 1, none⟩ = some (.int .i64 l) ∧ w'.cell? ⟨w4.heap.size, 2, none⟩ = some (.int .i64 d) ∧ w'.cell? ⟨w4.heap.size, 3, none⟩ = some (.int .i64 s) ∧ w'.cell? ⟨w4.heap.size, 4, none⟩ = some (.slice (some ⟨g3, 0, none⟩) m m) ∧ w'.cell? ⟨w4.heap.size, 5, none⟩ = some (.slice (some ⟨g4, 0, none⟩) n n))) (first | exact ⟨feed_cells K5q.out, feed_cells X5q.out⟩ | exact ⟨feed_cells K6.out, feed_cells X6.out⟩ | exact ⟨feed_cells K7.out, feed_cells X7.out⟩)
      (first
        | (go_at_call 30; (with_reducible refine (CT.out _ ?_ HL.out.1 HL.out.2).mono ?_); exact below_drew HB5q.out; rintro e w6 ⟨g5, g6, rfl, ho6, hb6⟩; rw [HM.out, HN.out] at ho6 ⊢; have HB6 : Hid (Below Z.heap.size Z w6) := below_drew_l hb6; have HO6 := Lib.hid ho6; have K6 := Lib.hid (K5q.out.below HB6.out K5q.out.lt); have X6 := Lib.hid (X5q.out.below HB6.out X5q.out.lt); clear hb6 ho6)
        | (go_at_call 26; (with_reducible refine (CE.out _ g3 g4 g5 g6 ?_ ?_).mono ?_); exact (HO5q.out.below HB6.out).at_; exact HO6.out.at_; rintro e w7 ⟨rfl, hb7⟩; have HB7 := Lib.hid hb7; have K7 := Lib.hid (K6.out.below HB7.out K6.out.lt); have X7 := Lib.hid (X6.out.below HB7.out X6.out.lt); clear hb7))
    have HBZ7 : Hid (Below Z.heap.size Z w7) := HB6.out.trans (HB7.out.mono HB6.out.size)
    have HB7w : Hid (Below w.heap.size w w7) := HB5q.out.trans (HBZ7.out.mono HB5q.out.size)
    have HO7 := Lib.hid (HO5q.out.below HBZ7.out)
    have HI7 := Lib.hid (HI5q.out.below HBZ7.out)
    have HJ7 := Lib.hid (HJ5q.out.below HBZ7.out)
    have hz7 : Z.heap.size ≤ w7.heap.size := HBZ7.out.size
    clear a0 a1 a2 a3 a4 a5 x0 x1 x2 x3 x4 x5
    obtain ⟨x0, x1, x2, x3, x4, x5⟩ := feed_cells X7.out
    go_wp2_with fail
    refine (CM.out _ w3.heap.size g3 g4 HO7.out HL.out.1 HL.out.2 (by omega)).mono ?_
    rintro e w8 ⟨rfl, _, hb8, hk8⟩
    have HB8 : Hid (Below w.heap.size w w8) := HB7w.out.trans (hb8.mono HB3.out.size)
    have HI8 : Hid (OwnInts w8 w2.heap.size X3 e3 R) := own_block HI7.out fun g hA => hb8.block g (by have := (own_lt HI3.out g hA).2; omega)
    have HJ8 : Hid (OwnInts w8 V.heap.size X5 e5 R) := own_block HJ7.out fun g hA => hk8 g (own_lt HJ7.out g hA).2 (fun g' e' => by injection e' with e'; injection e' with e' _ _; have := (own_lt HJ7.out g hA).1; have := Hg3.out.2; omega) (fun g' e' => by injection e' with e'; injection e' with e' _ _; have := (own_lt HJ7.out g hA).1; have := Hg4.out.2; omega)
    have K8 : Hid (Blk w8 w.heap.size 52 (feedC p l d s A1 m c1 A2 n c2)) := (hb8.block _ (by have := K3.out.lt; omega)).trans K7.out
    have hz8 : w7.heap.size ≤ w8.heap.size := hb8.size
    clear hb8 hk8 x0 x1 x2 x3 x4 x5
    have hk1 : ¬ (((1 + m + n : Nat) : Int) < 0) := by omega
    go_wp2_with fail
    refine (eqi_any X5 e5 R X3 e3 R _ HJ8.out.ints HI8.out.ints HRM.out HRM.out).mono ?_
    rintro e w' ⟨rfl, q2, rfl⟩
    rw [dec_sameI]
    go_wp2_with fail
    refine (mark_any V.heap.size X5 e5 R _ (HJ8.out.drewN q2) HRS.out).mono ?_
    intro e w9 hm9
    obtain ⟨hb9, hk9⟩ := marked_other (HJ8.out.drewN q2) hm9
    obtain ⟨rfl, ho9, _, _⟩ := hm9
    have HB9 : Hid (Below w.heap.size w w9) := (below_drewN HB8.out q2).trans (hb9.mono HBV.out.size)
    have HI9 : Hid (OwnInts w9 w2.heap.size X3 e3 R) := own_block (HI8.out.drewN q2) fun g hA => hb9.block g (by have := (own_lt HI3.out g hA).2; omega)
    have K9 : Hid (Blk w9 w.heap.size 52 (feedC p l d s A1 m c1 A2 n c2)) := (hb9.block _ (by have := K3.out.lt; omega)).trans K8.out
    have HM9 : Hid (IntsAt w9 w9.heap.size X5 (marks 1 R.length)) := ho9.ints
    clear hb9 hk9 ho9
    have hk2 : ¬ (((1 + R.length : Nat) : Int) < 0) := by omega
    go_wp2_with fail
    refine (held_any X5 e5 R.length _ HM9.out HRS.out).mono ?_
    rintro e w' ⟨rfl, rfl⟩
    have hqm : ((((1 + R.length : Nat) : Int)) != ((1 + R.length : Nat) : Int)) = false := by simp
    obtain ⟨a0, a1, a2, a3, a4, a5⟩ := feed_cells K9.out
    go_wp2_with fail
    refine (CT.out _ HB9.out HL.out.1 HL.out.2).mono ?_
    rintro e w10 ⟨g7, g8, rfl, ho10, hb10⟩
    rw [HM.out, HN.out] at ho10 ⊢
    have HO10 := Lib.hid ho10
    have HI10 := Lib.hid (HI9.out.below hb10)
    have HM10 := Lib.hid (HM9.out.belowS hb10)
    have HB10 : Hid (Below w.heap.size w w10) := HB9.out.trans (hb10.mono HB9.out.size)
    clear ho10 hb10 a0 a1 a2 a3 a4 a5
    go_wp2_with fail
    refine (CV.out _ g7 g8 HO10.out.at_).mono ?_
    rintro e w11 ⟨X11, e11, rfl, ho11, hb11⟩
    have HJ11 := Lib.hid ho11
    have HI11 := Lib.hid (HI10.out.below hb11)
    have HM11 := Lib.hid (HM10.out.belowS hb11)
    have HB11 : Hid (Below w.heap.size w w11) := HB10.out.trans (hb11.mono HB10.out.size)
    clear ho11 hb11
    go_wp2_with fail
    refine (eqi_any X11 e11 R X3 e3 R _ HJ11.out.ints HI11.out.ints HRM.out HRM.out).mono ?_
    rintro e w' ⟨rfl, q4, rfl⟩
    rw [dec_sameI]
    go_wp2_with fail
    refine (held_any X5 e5 R.length _ (HM11.out.drewN q4) HRS.out).mono ?_
    rintro e w' ⟨rfl, rfl⟩
    go_wp2
    go_ret
    exact ⟨rfl, below_drewN HB11.out q4⟩
  · clear hr2
    go_wp2
    go_ret
    exact ⟨rfl, HB1.out⟩

end Go.Proofs.Ytgpmodidpdjhkaa
