/- The walk of FnExactFeedPut: it returns true and changes nothing that was there. Conditions: the feed and the proof lie in memory. -/
import Derived.Test.YtgklkceoafohmaaDoorKeepExact
import Derived.Test.YtgklkceoafohmaaDoorSFeedPut
import Derived.Test.YtgklkceoafohmaaDoorPutMath
namespace Go.Proofs.YtgklkceoafohmaaDoor
open Go.RowKit
set_option linter.unusedVariables false

theorem putR_short {f : FD} {i : Int} {t : ByteArray} {zs : List Int} (h1 : f.bs.length ≤ 1048576) (h2 : f.hs.length ≤ 1048576) : (putR f i t zs).bs.length ≤ 1048576 ∧ (putR f i t zs).hs.length ≤ 1048576 := by
  unfold putR
  split
  · split
    · unfold putF
      simp only [List.length_set]
      exact ⟨h1, h2⟩
    · exact ⟨h1, h2⟩
  · exact ⟨Nat.zero_le _, Nat.zero_le _⟩

set_option maxHeartbeats 16000000 in
set_option maxRecDepth 100000 in
theorem walkExactFeedPut (p l d s : Int) (A1 : Option Addr) (c1 : Nat) (A2 : Option Addr) (c2 : Nat) (bs : List ByteArray) (hs : List Bool) (i : Int) (t : ByteArray) (GX : Option Addr) (cz : Nat) (zs : List Int) (w : World) (hTab : Tab w) (hF : FeedAt w w.heap.size A1 A2 bs hs) (ht : t.size ≤ maxLen) (hG : IntsAt w w.heap.size GX zs) (hzm : zs.length ≤ maxLen) :
    Calls Tryd.prog 8 #[feedV p l d s A1 bs.length c1 A2 hs.length c2, .int .i64 i, .string t, .slice GX zs.length cz] w fun e w' => e = .returned (.bool true) ∧ Below w.heap.size w w' := by
  have HF := Lib.hid hF
  have HG := Lib.hid hG
  have HTB := Lib.hid hTab
  have HT8 := Lib.hid ht
  obtain ⟨W, HW⟩ : ∃ W, Hid (w.alloc (.cells (feedC p l d s A1 bs.length c1 A2 hs.length c2) 45) = W) := ⟨_, rfl⟩
  have HB : Hid (Below w.heap.size w W) := by rw [← HW.out]; exact (Below.refl _ w).alloc (Nat.le_refl _) _
  have HK : Hid (Blk W w.heap.size 45 (feedC p l d s A1 bs.length c1 A2 hs.length c2)) := by rw [← HW.out]; exact Blk.new w _ _
  have C0 := Lib.hid (szFeed_any p l d s A1 c1 A2 c2 bs hs W (HF.out.belowS HB.out))
  obtain ⟨⟨rp, rl, rd, rs, rb, rh⟩, HRR⟩ : ∃ f, Hid (putR ⟨p, l, d, s, bs, hs⟩ i t zs = f) := ⟨_, rfl⟩
  obtain ⟨R, HR⟩ : ∃ R, Hid (putOk ⟨p, l, d, s, bs, hs⟩ i t zs = R) := ⟨_, rfl⟩
  have CA0 : Hid (bs.length ≤ 1048576 → hs.length ≤ 1048576 → ∀ U, Below w.heap.size w U → Calls Tryd.prog 19 #[feedV p l d s A1 bs.length c1 A2 hs.length c2] U fun e w' => ∃ g1 g2, e = .returned (feedV p l d s (some ⟨g1, 0, none⟩) bs.length bs.length (some ⟨g2, 0, none⟩) hs.length hs.length) ∧ OwnFeed w' U.heap.size (some ⟨g1, 0, none⟩) bs.length (some ⟨g2, 0, none⟩) hs.length bs hs ∧ Below U.heap.size U w') := fun h1 h2 U hU => toFeed_any p l d s A1 c1 A2 c2 bs hs U (HF.out.belowS hU) h1 h2
  have CZ0 : Hid (zs.length ≤ 1048576 → ∀ U, Below w.heap.size w U → Calls Tryd.prog 20 #[.slice GX zs.length cz] U fun e w' => ∃ g, e = .returned (.slice (some ⟨g, 0, none⟩) zs.length zs.length) ∧ OwnInts w' U.heap.size (some ⟨g, 0, none⟩) zs.length zs ∧ Below U.heap.size U w') := fun h1 U hU => (toInts_any GX cz zs U ((HG.out.below hU (Nat.le_refl _)).more hU.size) h1).mono fun e w' ⟨h1, h2, h3⟩ => ⟨_, h1, h2, h3⟩
  have CV : Hid (∀ (U : World) (g1 g2 g3 : Nat), Below w.heap.size w U → FeedAt U U.heap.size (some ⟨g1, 0, none⟩) (some ⟨g2, 0, none⟩) bs hs → IntsAt U U.heap.size (some ⟨g3, 0, none⟩) zs → Calls Tryd.prog 10 #[feedV p l d s (some ⟨g1, 0, none⟩) bs.length bs.length (some ⟨g2, 0, none⟩) hs.length hs.length, .int .i64 i, .string t, .slice (some ⟨g3, 0, none⟩) zs.length zs.length] U fun e w' => ∃ B1 e1 B2 e2, e = .returned (.tuple #[feedV rp rl rd rs B1 rb.length e1 B2 rh.length e2, .bool R]) ∧ OwnFeed w' U.heap.size B1 e1 B2 e2 rb rh ∧ Below U.heap.size U w') := fun U g1 g2 g3 hU hA hZ => by
    have h := feedPut_any p l d s (some ⟨g1, 0, none⟩) bs.length (some ⟨g2, 0, none⟩) hs.length bs hs i t (some ⟨g3, 0, none⟩) zs.length zs U (HTB.out.below hU) hA hZ (.inr ⟨_, _, rfl⟩) (Nat.le_refl _) hzm HT8.out
    rw [HRR.out, HR.out] at h
    exact h
  have CS : Hid (∀ (U : World) (g1 g2 g3 : Nat), Below w.heap.size w U → FeedAt U U.heap.size (some ⟨g1, 0, none⟩) (some ⟨g2, 0, none⟩) bs hs → IntsAt U U.heap.size (some ⟨g3, 0, none⟩) zs → Calls Tryd.prog 11 #[feedV p l d s (some ⟨g1, 0, none⟩) bs.length bs.length (some ⟨g2, 0, none⟩) hs.length hs.length, .int .i64 i, .string t, .slice (some ⟨g3, 0, none⟩) zs.length zs.length] U fun e w' => ∃ B1 e1 B2 e2, e = .returned (.tuple #[feedV rp rl rd rs B1 rb.length e1 B2 rh.length e2, .bool R]) ∧ OwnFeed w' U.heap.size B1 e1 B2 e2 rb rh ∧ Below U.heap.size U w') := fun U g1 g2 g3 hU hA hZ => by
    have h := sfeedPut_any p l d s (some ⟨g1, 0, none⟩) bs.length (some ⟨g2, 0, none⟩) hs.length bs hs i t (some ⟨g3, 0, none⟩) zs.length zs U hA (fun e => by cases e) (fun e => by cases e) hZ hzm HT8.out
    rw [HRR.out, HR.out] at h
    exact h
  have CE : Hid (∀ (U : World) (B1 : Option Addr) (f1 : Nat) (B2 : Option Addr) (f2 : Nat) (D1 : Option Addr) (h1 : Nat) (D2 : Option Addr) (h2 : Nat), FeedAt U U.heap.size B1 B2 rb rh → FeedAt U U.heap.size D1 D2 rb rh → Calls Tryd.prog 21 #[feedV rp rl rd rs B1 rb.length f1 B2 rh.length f2, feedV rp rl rd rs D1 rb.length h1 D2 rh.length h2] U fun e w' => e = .returned (.bool true) ∧ Below U.heap.size U w') := fun U B1 f1 B2 f2 D1 h1 D2 h2 q1 q2 => eqFeed_same rp rl rd rs B1 f1 B2 f2 D1 h1 D2 h2 rb rh U q1 q2
  have CEX : Hid (∀ (U : World) (g1 g2 g3 g4 : Nat), FeedAt U U.heap.size (some ⟨g1, 0, none⟩) (some ⟨g2, 0, none⟩) bs hs → FeedAt U U.heap.size (some ⟨g3, 0, none⟩) (some ⟨g4, 0, none⟩) bs hs → Calls Tryd.prog 21 #[feedV p l d s (some ⟨g1, 0, none⟩) bs.length bs.length (some ⟨g2, 0, none⟩) hs.length hs.length, feedV p l d s (some ⟨g3, 0, none⟩) bs.length bs.length (some ⟨g4, 0, none⟩) hs.length hs.length] U fun e w' => e = .returned (.bool true) ∧ Below U.heap.size U w') := fun U g1 g2 g3 g4 q1 q2 => eqFeed_same p l d s _ _ _ _ _ _ _ _ bs hs U q1 q2
  have hne : (R != R) = false := by simp
  have HRS : Hid (bs.length ≤ 1048576 → hs.length ≤ 1048576 → rb.length ≤ 1048576 ∧ rh.length ≤ 1048576) := fun h1 h2 => by
    have h := putR_short (f := ⟨p, l, d, s, bs, hs⟩) (i := i) (t := t) (zs := zs) h1 h2
    rw [HRR.out] at h
    exact h
  obtain ⟨nb, HNB⟩ : ∃ n, Hid (bs.length = n) := ⟨_, rfl⟩
  obtain ⟨nh, HNH⟩ : ∃ n, Hid (hs.length = n) := ⟨_, rfl⟩
  obtain ⟨nz, HNZ⟩ : ∃ n, Hid (zs.length = n) := ⟨_, rfl⟩
  obtain ⟨rm, HRM⟩ : ∃ n, Hid (rb.length = n) := ⟨_, rfl⟩
  obtain ⟨rn, HRN⟩ : ∃ n, Hid (rh.length = n) := ⟨_, rfl⟩
  rw [HNB.out] at C0 CA0 CV CS CEX HW HK
  rw [HNH.out] at C0 CA0 CV CS CEX HW HK
  rw [HNZ.out] at CZ0 CV CS hzm
  rw [HRM.out] at CV CS CE
  rw [HRN.out] at CV CS CE
  rw [HNB.out, HNH.out, HNZ.out]
  clear hF hG hTab
  unfold maxLen at ht hzm
  by_cases htl : t.size ≤ 1048576
  · have htl2 : ¬ (1048576 : Int) < (t.size : Int) := by omega
    by_cases hzl : nz ≤ 1048576
    · have hzl2 : ¬ (1048576 : Int) < (nz : Int) := by omega
      have HZM : Hid (zs.length ≤ 1048576) := by show _ ≤ _; rw [HNZ.out]; exact hzl
      have CZ := Lib.hid (CZ0.out hzl)
      go_enter Tryd.func8, Tryd.ntmps8
      go_wp2_with fail
      rw [HW.out]
      refine C0.out.mono ?_
      rintro e u1 ⟨r, rfl, hr0, hr1, hr2, hb1⟩
      by_cases hr : 0 ≤ r
      · have HL := Lib.hid (hr2 hr)
        have hl1 := HL.out.1
        have hl2 := HL.out.2
        have CA := Lib.hid (CA0.out (by rw [← HNB.out]; exact hl1) (by rw [← HNH.out]; exact hl2))
        have HRL := Lib.hid (HRS.out hl1 hl2)
        have HRL2 : Hid (rm ≤ 1048576 ∧ rn ≤ 1048576) := by show _ ∧ _; rw [← HRM.out, ← HRN.out]; exact HRL.out
        have hr3 := HRL2.out.1
        have hr4 := HRL2.out.2
        rw [HNB.out] at hl1
        rw [HNH.out] at hl2
        clear hr2
        have HB1 : Hid (Below w.heap.size w u1) := HB.out.trans (hb1.mono HB.out.size)
        have KA1 := Lib.hid (HK.out.below hb1 HK.out.lt)
        have hs1 : w.heap.size < u1.heap.size := KA1.out.lt
        clear hb1
        obtain ⟨ay0, ay1, ay2, ay3, ay4, ay5⟩ := feed_cells KA1.out
        go_wp2_with fail
        refine (CA.out _ HB1.out).mono ?_
        rintro e u2 ⟨ta, tb, rfl, ho2, hb2⟩
        have HB2 : Hid (Below w.heap.size w u2) := HB1.out.trans (hb2.mono HB1.out.size)
        have KA2 := Lib.hid (KA1.out.below hb2 KA1.out.lt)
        have hs2 : u1.heap.size ≤ u2.heap.size := hb2.size
        have OT2 := Lib.hid ho2
        clear ho2
        clear ay0 ay1 ay2 ay3 ay4 ay5
        clear hb2
        go_wp2_with fail
        refine (CZ.out _ HB2.out).mono ?_
        rintro e u3 ⟨tg, rfl, ho3, hb3⟩
        have HB3 : Hid (Below w.heap.size w u3) := HB2.out.trans (hb3.mono HB2.out.size)
        have KA3 := Lib.hid (KA2.out.below hb3 KA2.out.lt)
        have OT3 := Lib.hid (OT2.out.below hb3)
        have hs3 : u2.heap.size ≤ u3.heap.size := hb3.size
        have OJ3 := Lib.hid ho3
        clear ho3
        clear hb3
        go_wp2_with fail
        refine (CS.out _ ta tb tg HB3.out OT3.out.at_ OJ3.out.ints).mono ?_
        rintro e u4 ⟨AW, cw, BW, dw, rfl, ho4, hb4⟩
        have HB4 : Hid (Below w.heap.size w u4) := HB3.out.trans (hb4.mono HB3.out.size)
        have KA4 := Lib.hid (KA3.out.below hb4 KA3.out.lt)
        have OT4 := Lib.hid (OT3.out.below hb4)
        have OJ4 := Lib.hid (OJ3.out.below hb4)
        have hs4 : u3.heap.size ≤ u4.heap.size := hb4.size
        have OW4 := Lib.hid ho4
        have HWL : Hid (∀ g, (AW = some ⟨g, 0, none⟩ ∨ BW = some ⟨g, 0, none⟩) → u3.heap.size ≤ g ∧ g < u4.heap.size) := ho4.rows
        clear ho4
        clear hb4
        obtain ⟨u5, HU5⟩ : ∃ V, Hid (u4.alloc (.cells (feedC rp rl rd rs AW rm cw BW rn dw) 28) = V) := ⟨_, rfl⟩
        have hb5 : Below u4.heap.size u4 u5 := by rw [← HU5.out]; exact (Below.refl _ _).alloc (Nat.le_refl _) _
        have HB5 : Hid (Below w.heap.size w u5) := HB4.out.trans (hb5.mono HB4.out.size)
        have KA5 := Lib.hid (KA4.out.below hb5 KA4.out.lt)
        have OW5 := Lib.hid (OW4.out.below hb5)
        have hs5 : u4.heap.size ≤ u5.heap.size := hb5.size
        obtain ⟨gw, Hgw⟩ : ∃ g, Hid (u4.heap.size = g) := ⟨_, rfl⟩
        have KW5 : Hid (Blk u5 gw 28 (feedC rp rl rd rs AW rm cw BW rn dw)) := by rw [← HU5.out, ← Hgw.out]; exact Blk.new u4 _ _
        have hgw0 : u4.heap.size = gw := Hgw.out
        have hgw1 : gw < u5.heap.size := KW5.out.lt
        clear hb5
        go_upto_region 10 with fail
        rw [HU5.out]
        (try rw [Hgw.out])
        obtain ⟨ay0, ay1, ay2, ay3, ay4, ay5⟩ := feed_cells KA5.out
        go_wp2_with fail
        refine (CA.out _ HB5.out).mono ?_
        rintro e u6 ⟨xa, xb, rfl, ho6, hb6⟩
        have HB6 : Hid (Below w.heap.size w u6) := HB5.out.trans (hb6.mono HB5.out.size)
        have KA6 := Lib.hid (KA5.out.below hb6 KA5.out.lt)
        have OW6 := Lib.hid (OW5.out.below hb6)
        have KW6 := Lib.hid (KW5.out.below hb6 KW5.out.lt)
        have hs6 : u5.heap.size ≤ u6.heap.size := hb6.size
        have OX6 := Lib.hid ho6
        have HXA := Lib.hid (ho6.rows xa (.inl rfl))
        have HXB := Lib.hid (ho6.rows xb (.inr rfl))
        have hxa := HXA.out
        have hxb := HXB.out
        clear ho6
        clear ay0 ay1 ay2 ay3 ay4 ay5
        clear hb6
        obtain ⟨u7, HU7⟩ : ∃ V, Hid (u6.alloc (.cells (feedC p l d s (some ⟨xa, 0, none⟩) nb nb (some ⟨xb, 0, none⟩) nh nh) 28) = V) := ⟨_, rfl⟩
        have hb7 : Below u6.heap.size u6 u7 := by rw [← HU7.out]; exact (Below.refl _ _).alloc (Nat.le_refl _) _
        have HB7 : Hid (Below w.heap.size w u7) := HB6.out.trans (hb7.mono HB6.out.size)
        have KA7 := Lib.hid (KA6.out.below hb7 KA6.out.lt)
        have OW7 := Lib.hid (OW6.out.below hb7)
        have KW7 := Lib.hid (KW6.out.below hb7 KW6.out.lt)
        have OX7 := Lib.hid (OX6.out.below hb7)
        have hs7 : u6.heap.size ≤ u7.heap.size := hb7.size
        obtain ⟨gx, Hgx⟩ : ∃ g, Hid (u6.heap.size = g) := ⟨_, rfl⟩
        have KX7 : Hid (Blk u7 gx 28 (feedC p l d s (some ⟨xa, 0, none⟩) nb nb (some ⟨xb, 0, none⟩) nh nh)) := by rw [← HU7.out, ← Hgx.out]; exact Blk.new u6 _ _
        have hgx0 : u6.heap.size = gx := Hgx.out
        have hgx1 : gx < u7.heap.size := KX7.out.lt
        clear hb7
        go_upto_region 11 with fail
        rw [HU7.out]
        (try rw [Hgx.out])
        go_wp2_with fail
        refine (CZ.out _ HB7.out).mono ?_
        rintro e u8 ⟨xg, rfl, ho8, hb8⟩
        have HB8 : Hid (Below w.heap.size w u8) := HB7.out.trans (hb8.mono HB7.out.size)
        have KA8 := Lib.hid (KA7.out.below hb8 KA7.out.lt)
        have OW8 := Lib.hid (OW7.out.below hb8)
        have KW8 := Lib.hid (KW7.out.below hb8 KW7.out.lt)
        have OX8 := Lib.hid (OX7.out.below hb8)
        have KX8 := Lib.hid (KX7.out.below hb8 KX7.out.lt)
        have hs8 : u7.heap.size ≤ u8.heap.size := hb8.size
        have OI8 := Lib.hid ho8
        have HXG := Lib.hid (own_lt ho8 xg rfl)
        have hxg := HXG.out
        clear ho8
        clear hb8
        obtain ⟨xy0, xy1, xy2, xy3, xy4, xy5⟩ := feed_cells KX8.out
        go_wp2_with fail
        refine (CV.out _ xa xb xg HB8.out OX8.out.at_ OI8.out.ints).mono ?_
        rintro e u9 ⟨AG, cg, BG, dg, rfl, ho9, hb9⟩
        have HB9 : Hid (Below w.heap.size w u9) := HB8.out.trans (hb9.mono HB8.out.size)
        have KA9 := Lib.hid (KA8.out.below hb9 KA8.out.lt)
        have OW9 := Lib.hid (OW8.out.below hb9)
        have KW9 := Lib.hid (KW8.out.below hb9 KW8.out.lt)
        have OX9 := Lib.hid (OX8.out.below hb9)
        have KX9 := Lib.hid (KX8.out.below hb9 KX8.out.lt)
        have OI9 := Lib.hid (OI8.out.below hb9)
        have hs9 : u8.heap.size ≤ u9.heap.size := hb9.size
        have OG9 := Lib.hid ho9
        have HGL : Hid (∀ g, (AG = some ⟨g, 0, none⟩ ∨ BG = some ⟨g, 0, none⟩) → u8.heap.size ≤ g ∧ g < u9.heap.size) := ho9.rows
        clear ho9
        clear xy0 xy1 xy2 xy3 xy4 xy5
        clear hb9
        obtain ⟨u10, HU10⟩ : ∃ V, Hid (u9.alloc (.cells (feedC rp rl rd rs AG rm cg BG rn dg) 28) = V) := ⟨_, rfl⟩
        have hb10 : Below u9.heap.size u9 u10 := by rw [← HU10.out]; exact (Below.refl _ _).alloc (Nat.le_refl _) _
        have HB10 : Hid (Below w.heap.size w u10) := HB9.out.trans (hb10.mono HB9.out.size)
        have KA10 := Lib.hid (KA9.out.below hb10 KA9.out.lt)
        have OW10 := Lib.hid (OW9.out.below hb10)
        have KW10 := Lib.hid (KW9.out.below hb10 KW9.out.lt)
        have OX10 := Lib.hid (OX9.out.below hb10)
        have KX10 := Lib.hid (KX9.out.below hb10 KX9.out.lt)
        have OI10 := Lib.hid (OI9.out.below hb10)
        have OG10 := Lib.hid (OG9.out.below hb10)
        have hs10 : u9.heap.size ≤ u10.heap.size := hb10.size
        obtain ⟨gg, Hgg⟩ : ∃ g, Hid (u9.heap.size = g) := ⟨_, rfl⟩
        have KG10 : Hid (Blk u10 gg 28 (feedC rp rl rd rs AG rm cg BG rn dg)) := by rw [← HU10.out, ← Hgg.out]; exact Blk.new u9 _ _
        have hgg0 : u9.heap.size = gg := Hgg.out
        have hgg1 : gg < u10.heap.size := KG10.out.lt
        clear hb10
        go_upto_region 13 with fail
        rw [HU10.out]
        (try rw [Hgg.out])
        obtain ⟨gy0, gy1, gy2, gy3, gy4, gy5⟩ := feed_cells KG10.out
        obtain ⟨qy0, qy1, qy2, qy3, qy4, qy5⟩ := feed_cells KW10.out
        go_wp2_with fail
        refine (CE.out _ AG cg BG dg AW cw BW dw OG10.out.at_ OW10.out.at_).mono ?_
        rintro e u11 ⟨rfl, hb11⟩
        have HB11 : Hid (Below w.heap.size w u11) := HB10.out.trans (hb11.mono HB10.out.size)
        have KA11 := Lib.hid (KA10.out.below hb11 KA10.out.lt)
        have OW11 := Lib.hid (OW10.out.below hb11)
        have KW11 := Lib.hid (KW10.out.below hb11 KW10.out.lt)
        have OX11 := Lib.hid (OX10.out.below hb11)
        have KX11 := Lib.hid (KX10.out.below hb11 KX10.out.lt)
        have OI11 := Lib.hid (OI10.out.below hb11)
        have OG11 := Lib.hid (OG10.out.below hb11)
        have KG11 := Lib.hid (KG10.out.below hb11 KG10.out.lt)
        have hs11 : u10.heap.size ≤ u11.heap.size := hb11.size
        clear gy0 gy1 gy2 gy3 gy4 gy5 qy0 qy1 qy2 qy3 qy4 qy5
        clear hb11
        obtain ⟨xy0, xy1, xy2, xy3, xy4, xy5⟩ := feed_cells KX11.out
        obtain ⟨ay0, ay1, ay2, ay3, ay4, ay5⟩ := feed_cells KA11.out
        (try go_wp2_with fail)
        refine wp_region_held_drew (S := (fun w' => (w'.cell? ⟨gx, 0, none⟩ = some (.int .i64 p) ∧ w'.cell? ⟨gx, 1, none⟩ = some (.int .i64 l) ∧ w'.cell? ⟨gx, 2, none⟩ = some (.int .i64 d) ∧ w'.cell? ⟨gx, 3, none⟩ = some (.int .i64 s) ∧ w'.cell? ⟨gx, 4, none⟩ = some (.slice (some ⟨xa, 0, none⟩) nb nb) ∧ w'.cell? ⟨gx, 5, none⟩ = some (.slice (some ⟨xb, 0, none⟩) nh nh)) ∧ (w'.cell? ⟨w.heap.size, 0, none⟩ = some (.int .i64 p) ∧ w'.cell? ⟨w.heap.size, 1, none⟩ = some (.int .i64 l) ∧ w'.cell? ⟨w.heap.size, 2, none⟩ = some (.int .i64 d) ∧ w'.cell? ⟨w.heap.size, 3, none⟩ = some (.int .i64 s) ∧ w'.cell? ⟨w.heap.size, 4, none⟩ = some (.slice A1 nb c1) ∧ w'.cell? ⟨w.heap.size, 5, none⟩ = some (.slice A2 nh c2)))) (by kernel_rfl) (⟨feed_cells KX11.out, feed_cells KA11.out⟩) (fun hHeld => ?_)
        refine wpAnyH_take (i := 0) (v := ?zv170001) rfl (by kernel_rfl) (by kernel_rfl) (by kernel_rfl) (fun _ _ _ h => h) (Or.inl ⟨by kernel_rfl, ?zy170001⟩) (by assumption) ?zr170001
        case zy170001 => (intro w hSw; (try dsimp only at hSw); go_simp; try with_reducible rfl)
        change wpAnyH _ _ _ _ _ _ _ (Act.put _ (some 63) _) _
        simp only [Act.put, List.setIfInBounds_toArray, List.set_cons_zero, List.set_cons_succ]
        refine wpAnyH_take (i := 1) (v := ?zv170002) rfl (by kernel_rfl) (by kernel_rfl) (by kernel_rfl) (fun _ _ _ h => h) (Or.inl ⟨by kernel_rfl, ?zy170002⟩) (by assumption) ?zr170002
        case zy170002 => (intro w hSw; (try dsimp only at hSw); go_simp; try with_reducible rfl)
        change wpAnyH _ _ _ _ _ _ _ (Act.put _ (some 64) _) _
        simp only [Act.put, List.setIfInBounds_toArray, List.set_cons_zero, List.set_cons_succ]
        refine wpAnyH_ready (rs := [2]) (by kernel_rfl) (by simp) (AllReadyH.cons rfl (fun K hK => ?_) AllReadyH.nil)
        go_simp
        go_at_call 19
        refine (CA.out _ (below_drew HB11.out)).mono ?_
        rintro e u12 ⟨sa, sb, rfl, ho12, hb12d⟩
        have hb12 : Below u11.heap.size u11 u12 := below_drew_l hb12d
        clear hb12d
        have HB12 : Hid (Below w.heap.size w u12) := HB11.out.trans (hb12.mono HB11.out.size)
        have KA12 := Lib.hid (KA11.out.below hb12 KA11.out.lt)
        have OW12 := Lib.hid (OW11.out.below hb12)
        have KW12 := Lib.hid (KW11.out.below hb12 KW11.out.lt)
        have OX12 := Lib.hid (OX11.out.below hb12)
        have KX12 := Lib.hid (KX11.out.below hb12 KX11.out.lt)
        have OI12 := Lib.hid (OI11.out.below hb12)
        have OG12 := Lib.hid (OG11.out.below hb12)
        have KG12 := Lib.hid (KG11.out.below hb12 KG11.out.lt)
        have hs12 : u11.heap.size ≤ u12.heap.size := hb12.size
        have OT12 := Lib.hid ho12
        clear ho12 hb12
        refine hK.out _ _ (⟨feed_cells KX12.out, feed_cells KA12.out⟩) (fun hHeld => ?_)
        clear hK K
        (try simp only [Act.put, List.setIfInBounds_toArray, List.set_cons_zero, List.set_cons_succ])
        refine wpAnyH_ready (rs := [3]) (by kernel_rfl) (by simp) (AllReadyH.cons rfl (fun K hK => ?_) AllReadyH.nil)
        go_simp
        go_at_call 21
        refine (CEX.out _ xa xb sa sb OX12.out.at_ OT12.out.at_).mono ?_
        rintro e u13 ⟨rfl, hb13⟩
        have HB13 : Hid (Below w.heap.size w u13) := HB12.out.trans (hb13.mono HB12.out.size)
        have KA13 := Lib.hid (KA12.out.below hb13 KA12.out.lt)
        have OW13 := Lib.hid (OW12.out.below hb13)
        have KW13 := Lib.hid (KW12.out.below hb13 KW12.out.lt)
        have OX13 := Lib.hid (OX12.out.below hb13)
        have KX13 := Lib.hid (KX12.out.below hb13 KX12.out.lt)
        have OI13 := Lib.hid (OI12.out.below hb13)
        have OG13 := Lib.hid (OG12.out.below hb13)
        have KG13 := Lib.hid (KG12.out.below hb13 KG12.out.lt)
        have OT13 := Lib.hid (OT12.out.below hb13)
        have hs13 : u12.heap.size ≤ u13.heap.size := hb13.size
        clear hb13
        refine hK.out _ _ (⟨feed_cells KX13.out, feed_cells KA13.out⟩) (fun hHeld => ?_)
        clear hK K
        (try simp only [Act.put, List.setIfInBounds_toArray, List.set_cons_zero, List.set_cons_succ])
        refine wpAnyH_take (i := 4) (v := ?zv170003) rfl (by kernel_rfl) (by kernel_rfl) (by kernel_rfl) (fun _ _ _ h => h) (Or.inl ⟨by kernel_rfl, ?zy170003⟩) (by assumption) ?zr170003
        case zy170003 => (intro w hSw; (try dsimp only at hSw); go_simp; try with_reducible rfl)
        change wpAnyH _ _ _ _ _ _ _ (Act.put _ (some 67) _) _
        simp only [Act.put, List.setIfInBounds_toArray, List.set_cons_zero, List.set_cons_succ]
        refine wpAnyH_done (by kernel_rfl) ?_ _
        clear xy0 xy1 xy2 xy3 xy4 xy5 ay0 ay1 ay2 ay3 ay4 ay5
        go_wp2_with fail
        refine (CZ.out _ HB13.out).mono ?_
        rintro e u14 ⟨sg, rfl, ho14, hb14⟩
        have HB14 : Hid (Below w.heap.size w u14) := HB13.out.trans (hb14.mono HB13.out.size)
        have KA14 := Lib.hid (KA13.out.below hb14 KA13.out.lt)
        have OW14 := Lib.hid (OW13.out.below hb14)
        have KW14 := Lib.hid (KW13.out.below hb14 KW13.out.lt)
        have OX14 := Lib.hid (OX13.out.below hb14)
        have KX14 := Lib.hid (KX13.out.below hb14 KX13.out.lt)
        have OI14 := Lib.hid (OI13.out.below hb14)
        have OG14 := Lib.hid (OG13.out.below hb14)
        have KG14 := Lib.hid (KG13.out.below hb14 KG13.out.lt)
        have hs14 : u13.heap.size ≤ u14.heap.size := hb14.size
        have OJ14 := Lib.hid ho14
        clear ho14
        clear hb14
        go_wp2_with fail
        refine (eqInts_n (some ⟨xg, 0, none⟩) nz (some ⟨sg, 0, none⟩) nz zs u14 OI14.out.ints OJ14.out.ints HZM.out HNZ.out).mono ?_
        rintro e u15 ⟨rfl, hb15⟩
        have HB15 : Hid (Below w.heap.size w u15) := HB14.out.trans (hb15.mono HB14.out.size)
        have KA15 := Lib.hid (KA14.out.below hb15 KA14.out.lt)
        have OW15 := Lib.hid (OW14.out.below hb15)
        have KW15 := Lib.hid (KW14.out.below hb15 KW14.out.lt)
        have OX15 := Lib.hid (OX14.out.below hb15)
        have KX15 := Lib.hid (KX14.out.below hb15 KX14.out.lt)
        have OI15 := Lib.hid (OI14.out.below hb15)
        have OG15 := Lib.hid (OG14.out.below hb15)
        have KG15 := Lib.hid (KG14.out.below hb15 KG14.out.lt)
        have OJ15 := Lib.hid (OJ14.out.below hb15)
        have hs15 : u14.heap.size ≤ u15.heap.size := hb15.size
        clear hb15
        obtain ⟨xy0, xy1, xy2, xy3, xy4, xy5⟩ := feed_cells KX15.out
        obtain ⟨k1, HK1⟩ : ∃ k, Hid (1 + nb + nh = k) := ⟨_, rfl⟩
        obtain ⟨k2, HK2⟩ : ∃ k, Hid (k1 + nz = k) := ⟨_, rfl⟩
        have hk1 : k1 ≤ 4000000 := by have := HK1.out; omega
        have hk2 : ¬ ((k2 : Int) < 0) := by omega
        go_wp2_with fail
        refine (markFeed_n p l d s u5.heap.size (some ⟨xa, 0, none⟩) nb (some ⟨xb, 0, none⟩) nh bs hs u15 OX15.out HL.out.1 HL.out.2 (by omega) HNB.out HNH.out HK1.out).mono ?_
        rintro e u16 ⟨rfl, -, hb16, hk16⟩
        have HKP : Hid (∀ i, i < u15.heap.size → (i ≠ xa ∧ i ≠ xb) → u16.heap[i]? = u15.heap[i]?) := fun i hi hne => hk16 i hi (by rintro g (e | e) <;> (injection e with e; injection e with e _ _; omega))
        have HB16 : Hid (Below w.heap.size w u16) := HB15.out.trans (hb16.mono (by omega))
        have hs16 : u15.heap.size ≤ u16.heap.size := hb16.size
        have OI16 := Lib.hid (own_block OI15.out fun r hr => HKP.out r (own_lt OI15.out r hr).2 (by injection hr with hr; injection hr with hr _ _; omega))
        have KA16 : Hid (Blk u16 w.heap.size 45 (feedC p l d s A1 nb c1 A2 nh c2)) := (HKP.out _ KA15.out.lt ⟨by omega, by omega⟩).trans KA15.out
        have KW16 : Hid (Blk u16 gw 28 (feedC rp rl rd rs AW rm cw BW rn dw)) := (HKP.out _ KW15.out.lt ⟨by omega, by omega⟩).trans KW15.out
        have KG16 : Hid (Blk u16 gg 28 (feedC rp rl rd rs AG rm cg BG rn dg)) := (HKP.out _ KG15.out.lt ⟨by omega, by omega⟩).trans KG15.out
        have OW16 := Lib.hid (OW15.out.blocks fun r hr => HKP.out r (OW15.out.rows r hr).2 (by have := HWL.out r hr; omega))
        have OG16 := Lib.hid (OG15.out.blocks fun r hr => HKP.out r (OG15.out.rows r hr).2 (by have := HGL.out r hr; omega))
        clear hk16 hb16
        clear xy0 xy1 xy2 xy3 xy4 xy5
        go_wp2_with fail
        refine (markInts_n u7.heap.size xg nz k1 zs u16 OI16.out HZM.out hk1 HNZ.out HK2.out).mono ?_
        rintro e u17 ⟨rfl, hg17⟩
        have HKQ : Hid (∀ i, i < u16.heap.size → i ≠ xg → u17.heap[i]? = u16.heap[i]?) := fun i hi hne => hg17.block i hi (fun e => hne (by injection e))
        have HB17 : Hid (Below w.heap.size w u17) := HB16.out.grown hg17 (by omega) (fun k hk => by injection hk with hk; omega)
        have hs17 : u16.heap.size ≤ u17.heap.size := hg17.size
        have KA17 : Hid (Blk u17 w.heap.size 45 (feedC p l d s A1 nb c1 A2 nh c2)) := (HKQ.out _ KA16.out.lt (by omega)).trans KA16.out
        have KW17 : Hid (Blk u17 gw 28 (feedC rp rl rd rs AW rm cw BW rn dw)) := (HKQ.out _ KW16.out.lt (by omega)).trans KW16.out
        have KG17 : Hid (Blk u17 gg 28 (feedC rp rl rd rs AG rm cg BG rn dg)) := (HKQ.out _ KG16.out.lt (by omega)).trans KG16.out
        have OW17 := Lib.hid (OW16.out.blocks fun r hr => HKQ.out r (OW16.out.rows r hr).2 (by have := HWL.out r hr; omega))
        have OG17 := Lib.hid (OG16.out.blocks fun r hr => HKQ.out r (OG16.out.rows r hr).2 (by have := HGL.out r hr; omega))
        clear hg17
        obtain ⟨gy0, gy1, gy2, gy3, gy4, gy5⟩ := feed_cells KG17.out
        obtain ⟨qy0, qy1, qy2, qy3, qy4, qy5⟩ := feed_cells KW17.out
        go_wp2_with fail
        refine (CE.out _ AG cg BG dg AW cw BW dw OG17.out.at_ OW17.out.at_).mono ?_
        rintro e u18 ⟨rfl, hb18⟩
        have HB18 : Hid (Below w.heap.size w u18) := HB17.out.trans (hb18.mono HB17.out.size)
        have KA18 := Lib.hid (KA17.out.below hb18 KA17.out.lt)
        have KW18 := Lib.hid (KW17.out.below hb18 KW17.out.lt)
        have KG18 := Lib.hid (KG17.out.below hb18 KG17.out.lt)
        have OW18 := Lib.hid (OW17.out.below hb18)
        have OG18 := Lib.hid (OG17.out.below hb18)
        have hs18 : u17.heap.size ≤ u18.heap.size := hb18.size
        clear gy0 gy1 gy2 gy3 gy4 gy5 qy0 qy1 qy2 qy3 qy4 qy5
        clear hb18
        obtain ⟨gy0, gy1, gy2, gy3, gy4, gy5⟩ := feed_cells KG18.out
        obtain ⟨k3, HK3⟩ : ∃ k, Hid (1 + rm + rn = k) := ⟨_, rfl⟩
        have hk3 : ¬ ((k3 : Int) < 0) := by omega
        have hk33 : ((k3 : Int) != (k3 : Int)) = false := by simp
        go_wp2_with fail
        refine (markFeed_n rp rl rd rs u8.heap.size AG cg BG dg rb rh u18 OG18.out HRL.out.1 HRL.out.2 (by omega) HRM.out HRN.out HK3.out).mono ?_
        rintro e u19 ⟨rfl, hm19, hb19, hk19⟩
        have MG19 := Lib.hid hm19
        have HKR : Hid (∀ i, i < u18.heap.size → (∀ g, (AG = some ⟨g, 0, none⟩ ∨ BG = some ⟨g, 0, none⟩) → i ≠ g) → u19.heap[i]? = u18.heap[i]?) := hk19
        have HB19 : Hid (Below w.heap.size w u19) := HB18.out.trans (hb19.mono (by omega))
        have hs19 : u18.heap.size ≤ u19.heap.size := hb19.size
        have KA19 : Hid (Blk u19 w.heap.size 45 (feedC p l d s A1 nb c1 A2 nh c2)) := (HKR.out _ KA18.out.lt (fun g e => by have := HGL.out g e; omega)).trans KA18.out
        have KW19 : Hid (Blk u19 gw 28 (feedC rp rl rd rs AW rm cw BW rn dw)) := (HKR.out _ KW18.out.lt (fun g e => by have := HGL.out g e; omega)).trans KW18.out
        have KG19 : Hid (Blk u19 gg 28 (feedC rp rl rd rs AG rm cg BG rn dg)) := (HKR.out _ KG18.out.lt (fun g e => by have := HGL.out g e; omega)).trans KG18.out
        have OW19 := Lib.hid (OW18.out.blocks fun r hr => HKR.out r (OW18.out.rows r hr).2 (fun g e => by have := HGL.out g e; have := HWL.out r hr; omega))
        clear hm19 hb19 hk19
        clear gy0 gy1 gy2 gy3 gy4 gy5
        obtain ⟨gy0, gy1, gy2, gy3, gy4, gy5⟩ := feed_cells KG19.out
        go_wp2_with fail
        refine (heldFeed_n rp rl rd rs AG cg BG dg rm rn u19 MG19.out.at_ HRL2.out.1 HRL2.out.2 HK3.out).mono ?_
        rintro e u20 ⟨rfl, hb20⟩
        have HB20 : Hid (Below w.heap.size w u20) := HB19.out.trans (hb20.mono HB19.out.size)
        have KA20 := Lib.hid (KA19.out.below hb20 KA19.out.lt)
        have KW20 := Lib.hid (KW19.out.below hb20 KW19.out.lt)
        have KG20 := Lib.hid (KG19.out.below hb20 KG19.out.lt)
        have OW20 := Lib.hid (OW19.out.below hb20)
        have MG20 := Lib.hid (MG19.out.below hb20)
        have hs20 : u19.heap.size ≤ u20.heap.size := hb20.size
        clear gy0 gy1 gy2 gy3 gy4 gy5
        clear hb20
        obtain ⟨ay0, ay1, ay2, ay3, ay4, ay5⟩ := feed_cells KA20.out
        go_wp2_with fail
        refine (CA.out _ HB20.out).mono ?_
        rintro e u21 ⟨ya, yb, rfl, ho21, hb21⟩
        have HB21 : Hid (Below w.heap.size w u21) := HB20.out.trans (hb21.mono HB20.out.size)
        have KA21 := Lib.hid (KA20.out.below hb21 KA20.out.lt)
        have KW21 := Lib.hid (KW20.out.below hb21 KW20.out.lt)
        have KG21 := Lib.hid (KG20.out.below hb21 KG20.out.lt)
        have OW21 := Lib.hid (OW20.out.below hb21)
        have MG21 := Lib.hid (MG20.out.below hb21)
        have hs21 : u20.heap.size ≤ u21.heap.size := hb21.size
        have OT21 := Lib.hid ho21
        clear ho21
        clear ay0 ay1 ay2 ay3 ay4 ay5
        clear hb21
        go_wp2_with fail
        refine (CZ.out _ HB21.out).mono ?_
        rintro e u22 ⟨yg, rfl, ho22, hb22⟩
        have HB22 : Hid (Below w.heap.size w u22) := HB21.out.trans (hb22.mono HB21.out.size)
        have KA22 := Lib.hid (KA21.out.below hb22 KA21.out.lt)
        have KW22 := Lib.hid (KW21.out.below hb22 KW21.out.lt)
        have KG22 := Lib.hid (KG21.out.below hb22 KG21.out.lt)
        have OW22 := Lib.hid (OW21.out.below hb22)
        have MG22 := Lib.hid (MG21.out.below hb22)
        have OT22 := Lib.hid (OT21.out.below hb22)
        have hs22 : u21.heap.size ≤ u22.heap.size := hb22.size
        have OJ22 := Lib.hid ho22
        clear ho22
        clear hb22
        go_wp2_with fail
        refine (CV.out _ ya yb yg HB22.out OT22.out.at_ OJ22.out.ints).mono ?_
        rintro e u23 ⟨AH, ch, BH, dh, rfl, ho23, hb23⟩
        have HB23 : Hid (Below w.heap.size w u23) := HB22.out.trans (hb23.mono HB22.out.size)
        have KA23 := Lib.hid (KA22.out.below hb23 KA22.out.lt)
        have KW23 := Lib.hid (KW22.out.below hb23 KW22.out.lt)
        have KG23 := Lib.hid (KG22.out.below hb23 KG22.out.lt)
        have OW23 := Lib.hid (OW22.out.below hb23)
        have MG23 := Lib.hid (MG22.out.below hb23)
        have OT23 := Lib.hid (OT22.out.below hb23)
        have OJ23 := Lib.hid (OJ22.out.below hb23)
        have hs23 : u22.heap.size ≤ u23.heap.size := hb23.size
        have OH23 := Lib.hid ho23
        clear ho23
        clear hb23
        obtain ⟨u24, HU24⟩ : ∃ V, Hid (u23.alloc (.cells (feedC rp rl rd rs AH rm ch BH rn dh) 28) = V) := ⟨_, rfl⟩
        have hb24 : Below u23.heap.size u23 u24 := by rw [← HU24.out]; exact (Below.refl _ _).alloc (Nat.le_refl _) _
        have HB24 : Hid (Below w.heap.size w u24) := HB23.out.trans (hb24.mono HB23.out.size)
        have KA24 := Lib.hid (KA23.out.below hb24 KA23.out.lt)
        have KW24 := Lib.hid (KW23.out.below hb24 KW23.out.lt)
        have KG24 := Lib.hid (KG23.out.below hb24 KG23.out.lt)
        have OW24 := Lib.hid (OW23.out.below hb24)
        have MG24 := Lib.hid (MG23.out.below hb24)
        have OH24 := Lib.hid (OH23.out.below hb24)
        have hs24 : u23.heap.size ≤ u24.heap.size := hb24.size
        obtain ⟨gh, Hgh⟩ : ∃ g, Hid (u23.heap.size = g) := ⟨_, rfl⟩
        have KH24 : Hid (Blk u24 gh 28 (feedC rp rl rd rs AH rm ch BH rn dh)) := by rw [← HU24.out, ← Hgh.out]; exact Blk.new u23 _ _
        have hgh0 : u23.heap.size = gh := Hgh.out
        have hgh1 : gh < u24.heap.size := KH24.out.lt
        clear hb24
        go_upto_region 33 with fail
        rw [HU24.out]
        (try rw [Hgh.out])
        obtain ⟨zy0, zy1, zy2, zy3, zy4, zy5⟩ := feed_cells KH24.out
        obtain ⟨qy0, qy1, qy2, qy3, qy4, qy5⟩ := feed_cells KW24.out
        go_wp2_with fail
        refine (CE.out _ AH ch BH dh AW cw BW dw OH24.out.at_ OW24.out.at_).mono ?_
        rintro e u25 ⟨rfl, hb25⟩
        have HB25 : Hid (Below w.heap.size w u25) := HB24.out.trans (hb25.mono HB24.out.size)
        have KA25 := Lib.hid (KA24.out.below hb25 KA24.out.lt)
        have KW25 := Lib.hid (KW24.out.below hb25 KW24.out.lt)
        have KG25 := Lib.hid (KG24.out.below hb25 KG24.out.lt)
        have OW25 := Lib.hid (OW24.out.below hb25)
        have MG25 := Lib.hid (MG24.out.below hb25)
        have OH25 := Lib.hid (OH24.out.below hb25)
        have KH25 := Lib.hid (KH24.out.below hb25 KH24.out.lt)
        have hs25 : u24.heap.size ≤ u25.heap.size := hb25.size
        clear zy0 zy1 zy2 zy3 zy4 zy5 qy0 qy1 qy2 qy3 qy4 qy5
        clear hb25
        obtain ⟨gy0, gy1, gy2, gy3, gy4, gy5⟩ := feed_cells KG25.out
        go_wp2_with fail
        refine (heldFeed_n rp rl rd rs AG cg BG dg rm rn u25 MG25.out.at_ HRL2.out.1 HRL2.out.2 HK3.out).mono ?_
        rintro e u26 ⟨rfl, hb26⟩
        have HB26 : Hid (Below w.heap.size w u26) := HB25.out.trans (hb26.mono HB25.out.size)
        have KA26 := Lib.hid (KA25.out.below hb26 KA25.out.lt)
        have KW26 := Lib.hid (KW25.out.below hb26 KW25.out.lt)
        have KG26 := Lib.hid (KG25.out.below hb26 KG25.out.lt)
        have OW26 := Lib.hid (OW25.out.below hb26)
        have MG26 := Lib.hid (MG25.out.below hb26)
        have OH26 := Lib.hid (OH25.out.below hb26)
        have KH26 := Lib.hid (KH25.out.below hb26 KH25.out.lt)
        have hs26 : u25.heap.size ≤ u26.heap.size := hb26.size
        clear gy0 gy1 gy2 gy3 gy4 gy5
        clear hb26
        go_wp2
        go_ret
        exact ⟨rfl, HB26.out⟩
      · clear hr2
        go_wp2
        go_ret
        exact ⟨rfl, HB.out.trans (hb1.mono HB.out.size)⟩
    · have hzl2 : (1048576 : Int) < (nz : Int) := by omega
      go_enter Tryd.func8, Tryd.ntmps8
      go_wp2
      go_ret
      exact ⟨rfl, by first | exact HB.out | (rw [HW.out]; exact HB.out)⟩
  · have htl2 : (1048576 : Int) < (t.size : Int) := by omega
    go_enter Tryd.func8, Tryd.ntmps8
    go_wp2
    go_ret
    exact ⟨rfl, by first | exact HB.out | (rw [HW.out]; exact HB.out)⟩

end Go.Proofs.YtgklkceoafohmaaDoor
