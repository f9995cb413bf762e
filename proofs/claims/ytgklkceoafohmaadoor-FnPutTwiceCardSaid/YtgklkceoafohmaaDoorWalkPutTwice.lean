/- The walk of FnPutTwice: it returns true and changes nothing that was there. Condition: the codes' bytes lie in memory. -/
import Derived.Test.YtgklkceoafohmaaDoorDrawPut
import Derived.Test.YtgklkceoafohmaaDoorSFeedPut
import Derived.Test.YtgklkceoafohmaaDoorBaseL
import Derived.Test.YtgklkceoafohmaaDoorPutMath
import Derived.Test.YtgklkceoafohmaaDoorBaseA
namespace Go.Proofs.YtgklkceoafohmaaDoor
open Go.RowKit
set_option linter.unusedVariables false

set_option maxHeartbeats 16000000 in
set_option maxRecDepth 100000 in
theorem walkPutTwice (A : Option Addr) (len cap : Nat) (A_1 : Option Addr) (len1 cap1 : Nat) (w : World) (hTab : Tab w) (hI : In w A len cap) (hI1 : In w A_1 len1 cap1) :
    Calls Tryd.prog 5 #[.slice A len cap, .slice A_1 len1 cap1] w fun e w' => e = .returned (.bool true) ∧ Below w.heap.size w w' := by
  have hm := hI.len_le
  have hm1 := hI1.len_le
  unfold maxLen at hm hm1
  have HI := Lib.hid hI
  have HTB := Lib.hid hTab
  clear hI hI1 hTab
  by_cases hlen : len ≤ 1048576
  · by_cases hlen1 : len1 ≤ 1048576
    · have hd0 : decide (1048576 < len) = false := by simp; omega
      go_enter Tryd.func5, Tryd.ntmps5
      go_wp2_with fail
      refine (drawFeedPut_any A len cap _ HI.out).mono ?_
      rintro e w1 ⟨p, l, d, s, A1, c1, A2, c2, bs, hs, i, t, X, cz, zs, rfl, ho1, hlb, hlh, ht, hi0, hi1, hoz, hzl, hb1⟩
      have HB1 := Lib.hid hb1
      have HF := Lib.hid ho1.at_
      have HF1 := Lib.hid ho1
      have HZ1 := Lib.hid hoz
      have HNC := Lib.hid (own_nil_cap ho1)
      have HT8 : Hid (t.size ≤ maxLen) := by show _ ≤ _; unfold maxLen; omega
      have HTB1 := Lib.hid (HTB.out.below HB1.out)
      obtain ⟨⟨rp, rl, rd, rs, rb, rh⟩, HRR⟩ : ∃ f, Hid (putR ⟨p, l, d, s, bs, hs⟩ i t zs = f) := ⟨_, rfl⟩
      obtain ⟨R, HR⟩ : ∃ R, Hid (putOk ⟨p, l, d, s, bs, hs⟩ i t zs = R) := ⟨_, rfl⟩
      have CV : Hid (∀ U, Below w1.heap.size w1 U → Calls Tryd.prog 10 #[feedV p l d s A1 bs.length c1 A2 hs.length c2, .int .i64 i, .string t, .slice X zs.length cz] U fun e w' => ∃ B1 e1 B2 e2, e = .returned (.tuple #[feedV rp rl rd rs B1 rb.length e1 B2 rh.length e2, .bool R]) ∧ OwnFeed w' U.heap.size B1 e1 B2 e2 rb rh ∧ Below U.heap.size U w') := fun U hU => by
        have h := feedPut_any p l d s A1 c1 A2 c2 bs hs i t X cz zs U (HTB1.out.below hU) (HF.out.belowS hU) (HZ1.out.below hU).ints HZ1.out.formA HZ1.out.le.1 HZ1.out.le.2 HT8.out
        rw [HRR.out, HR.out] at h
        exact h
      have CS : Hid (∀ U, Below w1.heap.size w1 U → Calls Tryd.prog 11 #[feedV p l d s A1 bs.length c1 A2 hs.length c2, .int .i64 i, .string t, .slice X zs.length cz] U fun e w' => ∃ B1 e1 B2 e2, e = .returned (.tuple #[feedV rp rl rd rs B1 rb.length e1 B2 rh.length e2, .bool R]) ∧ OwnFeed w' U.heap.size B1 e1 B2 e2 rb rh ∧ Below U.heap.size U w') := fun U hU => by
        have h := sfeedPut_any p l d s A1 c1 A2 c2 bs hs i t X cz zs U (HF.out.belowS hU) HNC.out.1 HNC.out.2 (HZ1.out.below hU).ints (Nat.le_trans HZ1.out.le.1 HZ1.out.le.2) HT8.out
        rw [HRR.out, HR.out] at h
        exact h
      obtain ⟨V, HV⟩ : ∃ V, Hid (w1.alloc (.cells (feedC p l d s A1 bs.length c1 A2 hs.length c2) 28) = V) := ⟨_, rfl⟩
      have HBV : Hid (Below w1.heap.size w1 V) := by rw [← HV.out]; exact (Below.refl _ w1).alloc (Nat.le_refl _) _
      have KV : Hid (Blk V w1.heap.size 28 (feedC p l d s A1 bs.length c1 A2 hs.length c2)) := by rw [← HV.out]; exact Blk.new w1 _ _
      obtain ⟨nb, HNB⟩ : ∃ n, Hid (bs.length = n) := ⟨_, rfl⟩
      obtain ⟨nh, HNH⟩ : ∃ n, Hid (hs.length = n) := ⟨_, rfl⟩
      obtain ⟨nz, HNZ⟩ : ∃ n, Hid (zs.length = n) := ⟨_, rfl⟩
      obtain ⟨rm, HRM⟩ : ∃ n, Hid (rb.length = n) := ⟨_, rfl⟩
      obtain ⟨rn, HRN⟩ : ∃ n, Hid (rh.length = n) := ⟨_, rfl⟩
      rw [HNB.out, HNH.out, HNZ.out, HRM.out, HRN.out] at CV CS
      rw [HNB.out, HNH.out] at HV KV
      rw [HNB.out] at hlb
      rw [HNH.out] at hlh
      rw [HNB.out, HNH.out, HNZ.out]
      clear ho1 hb1 hoz ht hzl
      go_wp2_with fail
      rw [HV.out]
      refine (CV.out _ HBV.out).mono ?_
      rintro e w2 ⟨B1, e1, B2, e2, rfl, ho2, hb2⟩
      obtain ⟨V2, HV2⟩ : ∃ V, Hid (w2.alloc (.cells (feedC rp rl rd rs B1 rm e1 B2 rn e2) 28) = V) := ⟨_, rfl⟩
      have hbA : Below w2.heap.size w2 V2 := by rw [← HV2.out]; exact (Below.refl _ w2).alloc (Nat.le_refl _) _
      have KF2 := Lib.hid ((KV.out.below hb2 KV.out.lt).below hbA (KV.out.below hb2 KV.out.lt).lt)
      have KO2 : Hid (Blk V2 w2.heap.size 28 (feedC rp rl rd rs B1 rm e1 B2 rn e2)) := by rw [← HV2.out]; exact Blk.new w2 _ _
      have HO2 := Lib.hid (ho2.below hbA)
      have HB2 : Hid (Below w1.heap.size w1 V2) := HBV.out.trans ((hb2.trans (hbA.mono hb2.size)).mono HBV.out.size)
      clear hb2 ho2 hbA
      go_upto_region 5 with fail
      rw [HV2.out]
      obtain ⟨k0, k1, k2, k3, k4, k5⟩ := feed_cells KF2.out
      go_wp2_with fail
      refine (CS.out _ HB2.out).mono ?_
      rintro e w3 ⟨C1, f1, C2, f2, rfl, ho3, hb3⟩
      clear k0 k1 k2 k3 k4 k5
      obtain ⟨V3, HV3⟩ : ∃ V, Hid (w3.alloc (.cells (feedC rp rl rd rs C1 rm f1 C2 rn f2) 28) = V) := ⟨_, rfl⟩
      have hbA : Below w3.heap.size w3 V3 := by rw [← HV3.out]; exact (Below.refl _ w3).alloc (Nat.le_refl _) _
      have hbC : Below V2.heap.size V2 V3 := hb3.trans (hbA.mono hb3.size)
      have KF3 := Lib.hid (KF2.out.below hbC KF2.out.lt)
      have KO3 := Lib.hid (KO2.out.below hbC KO2.out.lt)
      have KW3 : Hid (Blk V3 w3.heap.size 28 (feedC rp rl rd rs C1 rm f1 C2 rn f2)) := by rw [← HV3.out]; exact Blk.new w3 _ _
      have HO3 := Lib.hid (HO2.out.below hbC)
      have HW3 := Lib.hid (ho3.below hbA)
      have HB3 : Hid (Below w1.heap.size w1 V3) := HB2.out.trans (hbC.mono HB2.out.size)
      have HBW3 : Hid (Below w.heap.size w V3) := HB1.out.trans (HB3.out.mono HB1.out.size)
      clear hbA hbC hb3 ho3
      have CE : Hid (∀ U, Below V3.heap.size V3 U → Calls Tryd.prog 12 #[feedV rp rl rd rs B1 rm e1 B2 rn e2, feedV rp rl rd rs C1 rm f1 C2 rn f2] U fun e w' => e = .returned (.bool true) ∧ Below U.heap.size U w') := fun U hU => by
        have h := sameFeed_same rp rl rd rs B1 e1 B2 e2 C1 f1 C2 f2 rb rh U (HO3.out.at_.belowS hU) (HW3.out.at_.belowS hU)
        rw [HRM.out, HRN.out] at h
        exact h
      go_upto_region 6 with fail
      rw [HV3.out]
      obtain ⟨o0, o1, o2, o3, o4, o5⟩ := feed_cells KO3.out
      obtain ⟨u0, u1, u2, u3, u4, u5⟩ := feed_cells KW3.out
      cases hR : R with
      | false =>
        subst hR
        go_wp2_with fail
        refine (CE.out _ (Below.refl _ _)).mono ?_
        rintro e w4 ⟨rfl, hb4⟩
        clear o0 o1 o2 o3 o4 o5 u0 u1 u2 u3 u4 u5
        obtain ⟨o0, o1, o2, o3, o4, o5⟩ := feed_cells (KO3.out.below hb4 KO3.out.lt)
        obtain ⟨u0, u1, u2, u3, u4, u5⟩ := feed_cells (KW3.out.below hb4 KW3.out.lt)
        go_wp2_with fail
        refine (CE.out _ hb4).mono ?_
        rintro e w5 ⟨rfl, hb5⟩
        go_wp2
        go_ret
        exact ⟨rfl, HBW3.out.trans ((hb4.trans (hb5.mono hb4.size)).mono HBW3.out.size)⟩
      | true =>
        subst hR
        have HOK := Lib.hid ((putOk_iff _ _ _ _).1 HR.out)
        have HRF : Hid (putF ⟨p, l, d, s, bs, hs⟩ i.toNat t = ⟨rp, rl, rd, rs, rb, rh⟩) := by
          have h := HRR.out
          rw [putR_yes HR.out] at h
          exact h
        go_wp2_with fail
        refine (CE.out _ (Below.refl _ _)).mono ?_
        rintro e w4 ⟨rfl, hb4⟩
        clear o0 o1 o2 o3 o4 o5 u0 u1 u2 u3 u4 u5
        have KF4 := Lib.hid (KF3.out.below hb4 KF3.out.lt)
        have KO4 := Lib.hid (KO3.out.below hb4 KO3.out.lt)
        have HO4 := Lib.hid (HO3.out.below hb4)
        have HB4 : Hid (Below w1.heap.size w1 w4) := HB3.out.trans (hb4.mono HB3.out.size)
        have HBW4 : Hid (Below w.heap.size w w4) := HBW3.out.trans (hb4.mono HBW3.out.size)
        clear hb4
        have CT : Hid (∀ (t2 : ByteArray) U, t2.size ≤ 8 → Below w4.heap.size w4 U → Calls Tryd.prog 10 #[feedV rp rl rd rs B1 rb.length e1 B2 rh.length e2, .int .i64 i, .string t2, .slice X zs.length cz] U fun e w' => ∃ D1 g1 D2 g2, e = .returned (.tuple #[feedV rp rl rd rs D1 rb.length g1 D2 rh.length g2, .bool false]) ∧ OwnFeed w' U.heap.size D1 g1 D2 g2 rb rh ∧ Below U.heap.size U w') := fun t2 U h2 hU => by
          have h := feedPut_any rp rl rd rs B1 e1 B2 e2 rb rh i t2 X cz zs U (HTB1.out.below (HB4.out.trans (hU.mono HB4.out.size))) (HO4.out.at_.belowS hU) (HZ1.out.below (HB4.out.trans (hU.mono HB4.out.size))).ints HZ1.out.formA HZ1.out.le.1 HZ1.out.le.2 (Nat.le_trans h2 (by unfold maxLen; omega))
          have hno : putOk ⟨rp, rl, rd, rs, rb, rh⟩ i t2 zs = false := by rw [← HRF.out]; exact put_twice HR.out t2 zs
          rw [hno, putR_no (by rw [← HRF.out]; exact HOK.out.2.2.2.2) h2 hno] at h
          exact h
        rw [HNZ.out, HRM.out, HRN.out] at CT
        obtain ⟨o0, o1, o2, o3, o4, o5⟩ := feed_cells KO4.out
        have hcv := run_one_byte w4 (97 + (len1 : Int) % 26)
        have hb0 : 0 ≤ (len1 : Int) % 26 := by omega
        go_wp2_with fail
        refine (CT.out _ _ (by first | (show (1 : Nat) ≤ 8; decide) | (simp only [ByteArray.size_push]; decide) | (show (ByteArray.push ByteArray.empty _).data.size ≤ 8; simp only [ByteArray.push, Array.size_push]; decide)) ((Below.refl _ w4).alloc (Nat.le_refl _) _)).mono ?_
        rintro e w5 ⟨D1, g1, D2, g2, rfl, ho5, hb5⟩
        have hba : Below w4.heap.size w4 w5 := ((Below.refl _ w4).alloc (Nat.le_refl _) _).trans (hb5.mono (by simp))
        clear o0 o1 o2 o3 o4 o5 hcv hb0
        obtain ⟨V5, HV5⟩ : ∃ V, Hid (w5.alloc (.cells (feedC rp rl rd rs D1 rm g1 D2 rn g2) 28) = V) := ⟨_, rfl⟩
        have hbA : Below w5.heap.size w5 V5 := by rw [← HV5.out]; exact (Below.refl _ w5).alloc (Nat.le_refl _) _
        have hbC : Below w4.heap.size w4 V5 := hba.trans (hbA.mono hba.size)
        have KO5 := Lib.hid (KO4.out.below hbC KO4.out.lt)
        have KX5 : Hid (Blk V5 w5.heap.size 28 (feedC rp rl rd rs D1 rm g1 D2 rn g2)) := by rw [← HV5.out]; exact Blk.new w5 _ _
        have HO5 := Lib.hid (HO4.out.below hbC)
        have HX5 := Lib.hid (ho5.below hbA)
        have HBW5 : Hid (Below w.heap.size w V5) := HBW4.out.trans (hbC.mono HBW4.out.size)
        clear hba hbA hbC hb5 ho5
        have CE2 : Hid (Calls Tryd.prog 12 #[feedV rp rl rd rs D1 rm g1 D2 rn g2, feedV rp rl rd rs B1 rm e1 B2 rn e2] V5 fun e w' => e = .returned (.bool true) ∧ Below V5.heap.size V5 w') := by
          have h := sameFeed_same rp rl rd rs D1 g1 D2 g2 B1 e1 B2 e2 rb rh V5 HX5.out.at_ HO5.out.at_
          rw [HRM.out, HRN.out] at h
          exact h
        go_upto_region 9 with fail
        rw [HV5.out]
        obtain ⟨o0, o1, o2, o3, o4, o5⟩ := feed_cells KO5.out
        obtain ⟨u0, u1, u2, u3, u4, u5⟩ := feed_cells KX5.out
        go_wp2_with fail
        refine CE2.out.mono ?_
        rintro e w6 ⟨rfl, hb6⟩
        go_wp2
        go_ret
        exact ⟨rfl, HBW5.out.trans (hb6.mono HBW5.out.size)⟩
    · have hd0 : decide (1048576 < len) = false := by simp; omega
      have hd1 : decide (1048576 < len1) = true := by simp; omega
      go_enter Tryd.func5, Tryd.ntmps5
      go_wp2
      go_ret
      exact ⟨rfl, Below.refl _ _⟩
  · have hd0 : decide (1048576 < len) = true := by simp; omega
    go_enter Tryd.func5, Tryd.ntmps5
    go_wp2
    go_ret
    exact ⟨rfl, Below.refl _ _⟩

end Go.Proofs.YtgklkceoafohmaaDoor
