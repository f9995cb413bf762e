/- The walk of FnPut: it returns true and changes nothing that was there. Condition: the codes' bytes lie in memory. -/
import Derived.Test.YtgklkceoafohmaaDoorDrawPut
import Derived.Test.YtgklkceoafohmaaDoorSFeedPut
import Derived.Test.YtgklkceoafohmaaDoorBaseL
import Derived.Test.YtgklkceoafohmaaDoorPutMath
import Derived.Test.YtgklkceoafohmaaDoorFeedValid
namespace Go.Proofs.YtgklkceoafohmaaDoor
open Go.RowKit
set_option linter.unusedVariables false

set_option maxHeartbeats 16000000 in
set_option maxRecDepth 100000 in
theorem walkPut (A : Option Addr) (len cap : Nat) (w : World) (hTab : Tab w) (hI : In w A len cap) :
    Calls Tryd.prog 3 #[.slice A len cap] w fun e w' => e = .returned (.bool true) ∧ Below w.heap.size w w' := by
  have hm := hI.len_le
  unfold maxLen at hm
  have HI := Lib.hid hI
  have HTB := Lib.hid hTab
  clear hI hTab
  by_cases hlen : len ≤ 1048576
  · go_enter Tryd.func3, Tryd.ntmps3
    go_wp2_with fail
    refine (drawFeedPut_any A len cap _ HI.out).mono ?_
    rintro e w1 ⟨p, l, d, s, A1, c1, A2, c2, bs, hs, i, t, X, cz, zs, rfl, ho1, hlb, hlh, ht, hi0, hi1, hoz, hzl, hb1⟩
    have HB1 := Lib.hid hb1
    have HF := Lib.hid ho1.at_
    have HF1 := Lib.hid ho1
    have HZ1 := Lib.hid hoz
    have HNC := Lib.hid (own_nil_cap ho1)
    have HT8 : Hid (t.size ≤ maxLen) := by show _ ≤ _; unfold maxLen; omega
    have HTB1 := Lib.hid (HTB.out.below HB1.out)
    obtain ⟨⟨rp, rl, rd, rs, rb, rh⟩, HRR⟩ : ∃ f, Hid (putR ⟨p, l, d, s, bs, hs⟩ i t zs = f) := ⟨_, rfl⟩
    obtain ⟨R, HR⟩ : ∃ R, Hid (putOk ⟨p, l, d, s, bs, hs⟩ i t zs = R) := ⟨_, rfl⟩
    have CV : Hid (∀ U, Below w1.heap.size w1 U → Calls Tryd.prog 10 #[feedV p l d s A1 bs.length c1 A2 hs.length c2, .int .i64 i, .string t, .slice X zs.length cz] U fun e w' => ∃ B1 e1 B2 e2, e = .returned (.tuple #[feedV rp rl rd rs B1 rb.length e1 B2 rh.length e2, .bool R]) ∧ OwnFeed w' U.heap.size B1 e1 B2 e2 rb rh ∧ Below U.heap.size U w') := fun U hU => by
      have h := feedPut_any p l d s A1 c1 A2 c2 bs hs i t X cz zs U (HTB1.out.below hU) (HF.out.belowS hU) (HZ1.out.below hU).ints HZ1.out.formA HZ1.out.le.1 HZ1.out.le.2 HT8.out
      rw [HRR.out, HR.out] at h
      exact h
    have CS : Hid (∀ U, Below w1.heap.size w1 U → Calls Tryd.prog 11 #[feedV p l d s A1 bs.length c1 A2 hs.length c2, .int .i64 i, .string t, .slice X zs.length cz] U fun e w' => ∃ B1 e1 B2 e2, e = .returned (.tuple #[feedV rp rl rd rs B1 rb.length e1 B2 rh.length e2, .bool R]) ∧ OwnFeed w' U.heap.size B1 e1 B2 e2 rb rh ∧ Below U.heap.size U w') := fun U hU => by
      have h := sfeedPut_any p l d s A1 c1 A2 c2 bs hs i t X cz zs U (HF.out.belowS hU) HNC.out.1 HNC.out.2 (HZ1.out.below hU).ints (Nat.le_trans HZ1.out.le.1 HZ1.out.le.2) HT8.out
      rw [HRR.out, HR.out] at h
      exact h
    obtain ⟨V, HV⟩ : ∃ V, Hid (w1.alloc (.cells (feedC p l d s A1 bs.length c1 A2 hs.length c2) 28) = V) := ⟨_, rfl⟩
    have HBV : Hid (Below w1.heap.size w1 V) := by rw [← HV.out]; exact (Below.refl _ w1).alloc (Nat.le_refl _) _
    have KV : Hid (Blk V w1.heap.size 28 (feedC p l d s A1 bs.length c1 A2 hs.length c2)) := by rw [← HV.out]; exact Blk.new w1 _ _
    obtain ⟨nb, HNB⟩ : ∃ n, Hid (bs.length = n) := ⟨_, rfl⟩
    obtain ⟨nh, HNH⟩ : ∃ n, Hid (hs.length = n) := ⟨_, rfl⟩
    obtain ⟨nz, HNZ⟩ : ∃ n, Hid (zs.length = n) := ⟨_, rfl⟩
    obtain ⟨rm, HRM⟩ : ∃ n, Hid (rb.length = n) := ⟨_, rfl⟩
    obtain ⟨rn, HRN⟩ : ∃ n, Hid (rh.length = n) := ⟨_, rfl⟩
    rw [HNB.out, HNH.out, HNZ.out, HRM.out, HRN.out] at CV CS
    rw [HNB.out, HNH.out] at HV KV
    rw [HNB.out] at hlb
    rw [HNH.out] at hlh
    rw [HNB.out, HNH.out, HNZ.out]
    clear ho1 hb1 hoz ht hzl
    go_wp2_with fail
    rw [HV.out]
    refine (CV.out _ HBV.out).mono ?_
    rintro e w2 ⟨B1, e1, B2, e2, rfl, ho2, hb2⟩
    obtain ⟨V2, HV2⟩ : ∃ V, Hid (w2.alloc (.cells (feedC rp rl rd rs B1 rm e1 B2 rn e2) 28) = V) := ⟨_, rfl⟩
    have hbA : Below w2.heap.size w2 V2 := by rw [← HV2.out]; exact (Below.refl _ w2).alloc (Nat.le_refl _) _
    have KF2 := Lib.hid ((KV.out.below hb2 KV.out.lt).below hbA (KV.out.below hb2 KV.out.lt).lt)
    have KO2 : Hid (Blk V2 w2.heap.size 28 (feedC rp rl rd rs B1 rm e1 B2 rn e2)) := by rw [← HV2.out]; exact Blk.new w2 _ _
    have HO2 := Lib.hid (ho2.below hbA)
    have HB2 : Hid (Below w1.heap.size w1 V2) := HBV.out.trans ((hb2.trans (hbA.mono hb2.size)).mono HBV.out.size)
    clear hb2 ho2 hbA
    go_upto_region 5 with fail
    rw [HV2.out]
    obtain ⟨k0, k1, k2, k3, k4, k5⟩ := feed_cells KF2.out
    go_wp2_with fail
    refine (CS.out _ HB2.out).mono ?_
    rintro e w3 ⟨C1, f1, C2, f2, rfl, ho3, hb3⟩
    clear k0 k1 k2 k3 k4 k5
    obtain ⟨V3, HV3⟩ : ∃ V, Hid (w3.alloc (.cells (feedC rp rl rd rs C1 rm f1 C2 rn f2) 28) = V) := ⟨_, rfl⟩
    have hbA : Below w3.heap.size w3 V3 := by rw [← HV3.out]; exact (Below.refl _ w3).alloc (Nat.le_refl _) _
    have hbC : Below V2.heap.size V2 V3 := hb3.trans (hbA.mono hb3.size)
    have KF3 := Lib.hid (KF2.out.below hbC KF2.out.lt)
    have KO3 := Lib.hid (KO2.out.below hbC KO2.out.lt)
    have KW3 : Hid (Blk V3 w3.heap.size 28 (feedC rp rl rd rs C1 rm f1 C2 rn f2)) := by rw [← HV3.out]; exact Blk.new w3 _ _
    have HO3 := Lib.hid (HO2.out.below hbC)
    have HW3 := Lib.hid (ho3.below hbA)
    have HB3 : Hid (Below w1.heap.size w1 V3) := HB2.out.trans (hbC.mono HB2.out.size)
    have HBW3 : Hid (Below w.heap.size w V3) := HB1.out.trans (HB3.out.mono HB1.out.size)
    clear hbA hbC hb3 ho3
    have CE : Hid (∀ U, Below V3.heap.size V3 U → Calls Tryd.prog 12 #[feedV rp rl rd rs B1 rm e1 B2 rn e2, feedV rp rl rd rs C1 rm f1 C2 rn f2] U fun e w' => e = .returned (.bool true) ∧ Below U.heap.size U w') := fun U hU => by
      have h := sameFeed_same rp rl rd rs B1 e1 B2 e2 C1 f1 C2 f2 rb rh U (HO3.out.at_.belowS hU) (HW3.out.at_.belowS hU)
      rw [HRM.out, HRN.out] at h
      exact h
    go_upto_region 6 with fail
    rw [HV3.out]
    obtain ⟨o0, o1, o2, o3, o4, o5⟩ := feed_cells KO3.out
    obtain ⟨u0, u1, u2, u3, u4, u5⟩ := feed_cells KW3.out
    cases hR : R with
    | false =>
      subst hR
      go_wp2_with fail
      refine (CE.out _ (Below.refl _ _)).mono ?_
      rintro e w4 ⟨rfl, hb4⟩
      clear o0 o1 o2 o3 o4 o5 u0 u1 u2 u3 u4 u5
      obtain ⟨o0, o1, o2, o3, o4, o5⟩ := feed_cells (KO3.out.below hb4 KO3.out.lt)
      obtain ⟨u0, u1, u2, u3, u4, u5⟩ := feed_cells (KW3.out.below hb4 KW3.out.lt)
      go_wp2_with fail
      refine (CE.out _ hb4).mono ?_
      rintro e w5 ⟨rfl, hb5⟩
      go_wp2
      go_ret
      exact ⟨rfl, HBW3.out.trans ((hb4.trans (hb5.mono hb4.size)).mono HBW3.out.size)⟩
    | true =>
      subst hR
      have HOK := Lib.hid ((putOk_iff _ _ _ _).1 HR.out)
      have HRF : Hid (putF ⟨p, l, d, s, bs, hs⟩ i.toNat t = ⟨rp, rl, rd, rs, rb, rh⟩) := by
        have h := HRR.out
        rw [putR_yes HR.out] at h
        exact h
      go_wp2_with fail
      refine (CE.out _ (Below.refl _ _)).mono ?_
      rintro e w4 ⟨rfl, hb4⟩
      clear o0 o1 o2 o3 o4 o5 u0 u1 u2 u3 u4 u5
      have KF4 := Lib.hid (KF3.out.below hb4 KF3.out.lt)
      have KO4 := Lib.hid (KO3.out.below hb4 KO3.out.lt)
      have HO4 := Lib.hid (HO3.out.below hb4)
      have HB4 : Hid (Below w1.heap.size w1 w4) := HB3.out.trans (hb4.mono HB3.out.size)
      have HBW4 : Hid (Below w.heap.size w w4) := HBW3.out.trans (hb4.mono HBW3.out.size)
      clear hb4
      obtain ⟨hok, ht8, hlk, htree, hok2⟩ := HOK.out
      obtain ⟨h0, h1, h2⟩ := (lacksB_iff _ _).1 hlk
      simp only at h1 h2
      have hlen := ((okB_iff _).1 hok).len
      simp only at hlen
      obtain ⟨k, rfl⟩ : ∃ k : Nat, i = (k : Int) := ⟨i.toNat, by omega⟩
      rw [Int.toNat_natCast] at h2 hok2
      have hrf := HRF.out
      rw [Int.toNat_natCast] at hrf
      unfold putF at hrf
      injection hrf with i1 i2 i3 i4 i5 i6
      simp only at i1 i2 i3 i4 i5 i6
      subst i1 i2 i3 i4 i5 i6
      have hnn : nb = nh := by rw [← HNH.out, ← HNB.out]; exact hlen.2.symm
      have hrn : nb = rn := by rw [← HRN.out, List.length_set, HNH.out]; exact hnn
      have hrm : nb = rm := by rw [← HRM.out, List.length_set, HNB.out]
      subst hnn
      subst hrn
      subst hrm
      obtain ⟨n, hn⟩ : ∃ n, n = nb := ⟨_, rfl⟩
      subst hn
      have hkn : k < n := by rw [← HNH.out]; omega
      have HBS : Hid (k < bs.length) := by show _ < _; rw [HNB.out]; exact hkn
      have HHS : Hid (k < hs.length) := by show _ < _; rw [HNH.out]; exact hkn
      have HF4 := Lib.hid (HF.out.belowS HB4.out)
      have CVD : Hid (∀ U, Below w4.heap.size w4 U → Calls Tryd.prog 13 #[feedV p l d s B1 n e1 B2 n e2] U fun e w' => e = .returned (.bool true) ∧ Below U.heap.size U w') := fun U hU => by
        have h := feedValid_any p l d s B1 e1 B2 e2 (bs.set k t) (hs.set k true) U (HO4.out.at_.belowS hU)
        rw [show okB ⟨p, l, d, s, bs.set k t, hs.set k true⟩ = true from hok2, HRM.out, HRN.out] at h
        exact h
      obtain ⟨ba, oa, rfl, -, -⟩ := HF4.out.strs.at_ (by rw [HNB.out]; omega)
      obtain ⟨bb, ob, rfl, -, -⟩ := HF4.out.bits.at_ (by rw [HNH.out]; omega)
      obtain ⟨bc, oc, rfl, -, -⟩ := HO4.out.strs.ints.at_ (by rw [HRM.out]; omega)
      obtain ⟨bd, od, rfl, -, -⟩ := HO4.out.bits.ints.at_ (by rw [HRN.out]; omega)
      have HQ : Hid (∀ U, Below w4.heap.size w4 U → ∀ j, j < n → U.cell? ⟨ba, oa + j, none⟩ = some (.string (sth bs j)) ∧ U.cell? ⟨bb, ob + j, none⟩ = some (.bool (bth hs j)) ∧ U.cell? ⟨bc, oc + j, none⟩ = some (.string (if j = k then t else sth bs j)) ∧ U.cell? ⟨bd, od + j, none⟩ = some (.bool (if j = k then true else bth hs j))) := fun U hU j hj => by
        have a1 := ((HF4.out.belowS hU).strs.lt (by rw [HNB.out]; omega)).2 j (by rw [HNB.out]; exact hj)
        have a2 := ((HF4.out.belowS hU).bits.lt (by rw [HNH.out]; omega)).2 j (by rw [HNH.out]; exact hj)
        have a3 := ((HO4.out.strs.ints.belowS hU).lt (by rw [HRM.out]; omega)).2 j (by rw [HRM.out]; exact hj)
        have a4 := ((HO4.out.bits.ints.belowS hU).lt (by rw [HRN.out]; omega)).2 j (by rw [HRN.out]; exact hj)
        rw [sth_set' _ _ _ _ HBS.out] at a3
        rw [bth_set' _ _ _ _ HHS.out] at a4
        exact ⟨a1, a2, a3, a4⟩
      have H2 := Lib.hid h2
      have hk0 : (0 : Int) ≤ (k : Int) := by omega
      have hkn2 : (k : Int) < (n : Int) := by omega
      clear hok ht8 hlk htree hok2 h0 h1 h2 hlen
      go_wp2_with fail
      go_loopw [11] (fun i w' => ∃ j : Nat, j ≤ n ∧ i = .int .i64 (j : Int) ∧ ∃ q, w' = w4.drewN q) (fun i _ => n - (intOf i).toNat)
      case atStart => exact ⟨0, Nat.zero_le _, rfl, 0, rfl⟩
      case round =>
        obtain ⟨j, hj, rfl, q, hqw⟩ := hrel
        have HBr : Hid (Below w4.heap.size w4 wr) := by rw [hqw]; exact below_drewN (Below.refl _ _) q
        have HQW := Lib.hid hqw
        clear hqw
        obtain ⟨k0, k1, k2, k3, k4, k5⟩ := feed_cells (KF4.out.below HBr.out KF4.out.lt)
        obtain ⟨o0, o1, o2, o3, o4, o5⟩ := feed_cells (KO4.out.below HBr.out KO4.out.lt)
        by_cases hjn : j < n
        · have hjn2 : (j : Int) < (n : Int) := by omega
          have hj0 : (0 : Int) ≤ (j : Int) := by omega
          by_cases hjk : j = k
          · subst hjk
            have hne : ((j : Int) != (j : Int)) = false := by simp
            (try go_wp2_with fail)
            refine wp_region_held_drew (S := (fun w' => w'.cell? ⟨w1.heap.size, 4, none⟩ = some (.slice (some ⟨ba, oa, none⟩) n c1) ∧ w'.cell? ⟨w1.heap.size, 5, none⟩ = some (.slice (some ⟨bb, ob, none⟩) n c2) ∧ w'.cell? ⟨w2.heap.size, 4, none⟩ = some (.slice (some ⟨bc, oc, none⟩) n e1) ∧ w'.cell? ⟨w2.heap.size, 5, none⟩ = some (.slice (some ⟨bd, od, none⟩) n e2))) (by kernel_rfl) (⟨k4, k5, o4, o5⟩) (fun hHeld => ?_)
            refine wpAnyH_take (i := 0) (v := ?zv150001) rfl (by kernel_rfl) (by kernel_rfl) (by kernel_rfl) (fun _ _ _ h => h) (Or.inl ⟨by kernel_rfl, ?zy150001⟩) (by assumption) ?zr150001
            case zy150001 => (intro w hSw; (try dsimp only at hSw); go_simp; try with_reducible rfl)
            change wpAnyH _ _ _ _ _ _ _ (Act.put _ (some 66) _) _
            simp only [Act.put, List.setIfInBounds_toArray, List.set_cons_zero, List.set_cons_succ]
            refine wpAnyH_take (i := 1) (v := ?zv150002) rfl (by kernel_rfl) (by kernel_rfl) (by kernel_rfl) (fun _ _ _ h => h) (Or.inl ⟨by kernel_rfl, ?zy150002⟩) (by assumption) ?zr150002
            case zy150002 => (intro w hSw; (try dsimp only at hSw); go_simp; try with_reducible rfl)
            change wpAnyH _ _ _ _ _ _ _ (Act.put _ (some 67) _) _
            simp only [Act.put, List.setIfInBounds_toArray, List.set_cons_zero, List.set_cons_succ]
            refine wpAnyH_take (i := 2) (v := ?zv150003) rfl (by kernel_rfl) (by kernel_rfl) (by kernel_rfl) (fun _ _ _ h => h) (Or.inl ⟨by kernel_rfl, ?zy150003⟩) (by assumption) ?zr150003
            case zy150003 => (intro w hSw; (try dsimp only at hSw); go_simp; try with_reducible rfl)
            change wpAnyH _ _ _ _ _ _ _ (Act.put _ (some 68) _) _
            simp only [Act.put, List.setIfInBounds_toArray, List.set_cons_zero, List.set_cons_succ]
            refine wpAnyH_take (i := 3) (v := ?zv150004) rfl (by kernel_rfl) (by kernel_rfl) (by kernel_rfl) (fun _ _ _ h => h) (Or.inl ⟨by kernel_rfl, ?zy150004⟩) (by assumption) ?zr150004
            case zy150004 => (intro w hSw; (try dsimp only at hSw); go_simp; try with_reducible rfl)
            change wpAnyH _ _ _ _ _ _ _ (Act.put _ (some 69) _) _
            simp only [Act.put, List.setIfInBounds_toArray, List.set_cons_zero, List.set_cons_succ]
            refine wpAnyH_take (i := 4) (v := undef) rfl (by kernel_rfl) (by kernel_rfl) (by kernel_rfl) (fun _ _ _ h => h) (Or.inr ⟨by kernel_rfl, rfl⟩) (by assumption) ?_
            change wpAnyH _ _ _ _ _ _ _ (Act.put _ (some 70) _) _
            simp only [Act.put, List.setIfInBounds_toArray, List.set_cons_zero, List.set_cons_succ]
            refine wpAnyH_take (i := 5) (v := undef) rfl (by kernel_rfl) (by kernel_rfl) (by kernel_rfl) (fun _ _ _ h => h) (Or.inr ⟨by kernel_rfl, rfl⟩) (by assumption) ?_
            change wpAnyH _ _ _ _ _ _ _ (Act.put _ (some 71) _) _
            simp only [Act.put, List.setIfInBounds_toArray, List.set_cons_zero, List.set_cons_succ]
            refine wpAnyH_take (i := 6) (v := undef) rfl (by kernel_rfl) (by kernel_rfl) (by kernel_rfl) (fun _ _ _ h => h) (Or.inr ⟨by kernel_rfl, rfl⟩) (by assumption) ?_
            change wpAnyH _ _ _ _ _ _ _ (Act.put _ (some 72) _) _
            simp only [Act.put, List.setIfInBounds_toArray, List.set_cons_zero, List.set_cons_succ]
            refine wpAnyH_take (i := 7) (v := undef) rfl (by kernel_rfl) (by kernel_rfl) (by kernel_rfl) (fun _ _ _ h => h) (Or.inr ⟨by kernel_rfl, rfl⟩) (by assumption) ?_
            change wpAnyH _ _ _ _ _ _ _ (Act.put _ (some 73) _) _
            simp only [Act.put, List.setIfInBounds_toArray, List.set_cons_zero, List.set_cons_succ]
            refine wpAnyH_take (i := 8) (v := undef) rfl (by kernel_rfl) (by kernel_rfl) (by kernel_rfl) (fun _ _ _ h => h) (Or.inr ⟨by kernel_rfl, rfl⟩) (by assumption) ?_
            change wpAnyH _ _ _ _ _ _ _ (Act.put _ (some 74) _) _
            simp only [Act.put, List.setIfInBounds_toArray, List.set_cons_zero, List.set_cons_succ]
            refine wpAnyH_take (i := 9) (v := undef) rfl (by kernel_rfl) (by kernel_rfl) (by kernel_rfl) (fun _ _ _ h => h) (Or.inr ⟨by kernel_rfl, rfl⟩) (by assumption) ?_
            change wpAnyH _ _ _ _ _ _ _ (Act.put _ (some 75) _) _
            simp only [Act.put, List.setIfInBounds_toArray, List.set_cons_zero, List.set_cons_succ]
            refine wpAnyH_take (i := 10) (v := undef) rfl (by kernel_rfl) (by kernel_rfl) (by kernel_rfl) (fun _ _ _ h => h) (Or.inr ⟨by kernel_rfl, rfl⟩) (by assumption) ?_
            change wpAnyH _ _ _ _ _ _ _ (Act.put _ (some 76) _) _
            simp only [Act.put, List.setIfInBounds_toArray, List.set_cons_zero, List.set_cons_succ]
            refine wpAnyH_take (i := 11) (v := undef) rfl (by kernel_rfl) (by kernel_rfl) (by kernel_rfl) (fun _ _ _ h => h) (Or.inr ⟨by kernel_rfl, rfl⟩) (by assumption) ?_
            change wpAnyH _ _ _ _ _ _ _ (Act.put _ (some 77) _) _
            simp only [Act.put, List.setIfInBounds_toArray, List.set_cons_zero, List.set_cons_succ]
            refine wpAnyH_take (i := 12) (v := undef) rfl (by kernel_rfl) (by kernel_rfl) (by kernel_rfl) (fun _ _ _ h => h) (Or.inr ⟨by kernel_rfl, rfl⟩) (by assumption) ?_
            change wpAnyH _ _ _ _ _ _ _ (Act.put _ (some 78) _) _
            simp only [Act.put, List.setIfInBounds_toArray, List.set_cons_zero, List.set_cons_succ]
            refine wpAnyH_take (i := 13) (v := undef) rfl (by kernel_rfl) (by kernel_rfl) (by kernel_rfl) (fun _ _ _ h => h) (Or.inr ⟨by kernel_rfl, rfl⟩) (by assumption) ?_
            change wpAnyH _ _ _ _ _ _ _ (Act.put _ (some 79) _) _
            simp only [Act.put, List.setIfInBounds_toArray, List.set_cons_zero, List.set_cons_succ]
            refine wpAnyH_take (i := 14) (v := undef) rfl (by kernel_rfl) (by kernel_rfl) (by kernel_rfl) (fun _ _ _ h => h) (Or.inr ⟨by kernel_rfl, rfl⟩) (by assumption) ?_
            change wpAnyH _ _ _ _ _ _ _ (Act.put _ (some 80) _) _
            simp only [Act.put, List.setIfInBounds_toArray, List.set_cons_zero, List.set_cons_succ]
            refine wpAnyH_take (i := 15) (v := undef) rfl (by kernel_rfl) (by kernel_rfl) (by kernel_rfl) (fun _ _ _ h => h) (Or.inr ⟨by kernel_rfl, rfl⟩) (by assumption) ?_
            change wpAnyH _ _ _ _ _ _ _ (Act.put _ (some 81) _) _
            simp only [Act.put, List.setIfInBounds_toArray, List.set_cons_zero, List.set_cons_succ]
            refine wpAnyH_take (i := 16) (v := undef) rfl (by kernel_rfl) (by kernel_rfl) (by kernel_rfl) (fun _ _ _ h => h) (Or.inr ⟨by kernel_rfl, rfl⟩) (by assumption) ?_
            change wpAnyH _ _ _ _ _ _ _ (Act.put _ (some 82) _) _
            simp only [Act.put, List.setIfInBounds_toArray, List.set_cons_zero, List.set_cons_succ]
            refine wpAnyH_take (i := 17) (v := undef) rfl (by kernel_rfl) (by kernel_rfl) (by kernel_rfl) (fun _ _ _ h => h) (Or.inr ⟨by kernel_rfl, rfl⟩) (by assumption) ?_
            change wpAnyH _ _ _ _ _ _ _ (Act.put _ (some 83) _) _
            simp only [Act.put, List.setIfInBounds_toArray, List.set_cons_zero, List.set_cons_succ]
            refine wpAnyH_take (i := 18) (v := undef) rfl (by kernel_rfl) (by kernel_rfl) (by kernel_rfl) (fun _ _ _ h => h) (Or.inr ⟨by kernel_rfl, rfl⟩) (by assumption) ?_
            change wpAnyH _ _ _ _ _ _ _ (Act.put _ (some 84) _) _
            simp only [Act.put, List.setIfInBounds_toArray, List.set_cons_zero, List.set_cons_succ]
            refine wpAnyH_take (i := 19) (v := undef) rfl (by kernel_rfl) (by kernel_rfl) (by kernel_rfl) (fun _ _ _ h => h) (Or.inr ⟨by kernel_rfl, rfl⟩) (by assumption) ?_
            change wpAnyH _ _ _ _ _ _ _ (Act.put _ (some 85) _) _
            simp only [Act.put, List.setIfInBounds_toArray, List.set_cons_zero, List.set_cons_succ]
            refine wpAnyH_take (i := 20) (v := undef) rfl (by kernel_rfl) (by kernel_rfl) (by kernel_rfl) (fun _ _ _ h => h) (Or.inr ⟨by kernel_rfl, rfl⟩) (by assumption) ?_
            change wpAnyH _ _ _ _ _ _ _ (Act.put _ (some 86) _) _
            simp only [Act.put, List.setIfInBounds_toArray, List.set_cons_zero, List.set_cons_succ]
            refine wpAnyH_take (i := 21) (v := undef) rfl (by kernel_rfl) (by kernel_rfl) (by kernel_rfl) (fun _ _ _ h => h) (Or.inr ⟨by kernel_rfl, rfl⟩) (by assumption) ?_
            change wpAnyH _ _ _ _ _ _ _ (Act.put _ (some 87) _) _
            simp only [Act.put, List.setIfInBounds_toArray, List.set_cons_zero, List.set_cons_succ]
            refine wpAnyH_take (i := 22) (v := undef) rfl (by kernel_rfl) (by kernel_rfl) (by kernel_rfl) (fun _ _ _ h => h) (Or.inr ⟨by kernel_rfl, rfl⟩) (by assumption) ?_
            change wpAnyH _ _ _ _ _ _ _ (Act.put _ (some 88) _) _
            simp only [Act.put, List.setIfInBounds_toArray, List.set_cons_zero, List.set_cons_succ]
            refine wpAnyH_take (i := 23) (v := undef) rfl (by kernel_rfl) (by kernel_rfl) (by kernel_rfl) (fun _ _ _ h => h) (Or.inr ⟨by kernel_rfl, rfl⟩) (by assumption) ?_
            change wpAnyH _ _ _ _ _ _ _ (Act.put _ (some 89) _) _
            simp only [Act.put, List.setIfInBounds_toArray, List.set_cons_zero, List.set_cons_succ]
            refine wpAnyH_take (i := 24) (v := undef) rfl (by kernel_rfl) (by kernel_rfl) (by kernel_rfl) (fun _ _ _ h => h) (Or.inr ⟨by kernel_rfl, rfl⟩) (by assumption) ?_
            change wpAnyH _ _ _ _ _ _ _ (Act.put _ (some 90) _) _
            simp only [Act.put, List.setIfInBounds_toArray, List.set_cons_zero, List.set_cons_succ]
            refine wpAnyH_take (i := 25) (v := undef) rfl (by kernel_rfl) (by kernel_rfl) (by kernel_rfl) (fun _ _ _ h => h) (Or.inr ⟨by kernel_rfl, rfl⟩) (by assumption) ?_
            change wpAnyH _ _ _ _ _ _ _ (Act.put _ (some 91) _) _
            simp only [Act.put, List.setIfInBounds_toArray, List.set_cons_zero, List.set_cons_succ]
            refine wpAnyH_take (i := 26) (v := undef) rfl (by kernel_rfl) (by kernel_rfl) (by kernel_rfl) (fun _ _ _ h => h) (Or.inr ⟨by kernel_rfl, rfl⟩) (by assumption) ?_
            change wpAnyH _ _ _ _ _ _ _ (Act.put _ (some 92) _) _
            simp only [Act.put, List.setIfInBounds_toArray, List.set_cons_zero, List.set_cons_succ]
            refine wpAnyH_take (i := 27) (v := undef) rfl (by kernel_rfl) (by kernel_rfl) (by kernel_rfl) (fun _ _ _ h => h) (Or.inr ⟨by kernel_rfl, rfl⟩) (by assumption) ?_
            change wpAnyH _ _ _ _ _ _ _ (Act.put _ (some 93) _) _
            simp only [Act.put, List.setIfInBounds_toArray, List.set_cons_zero, List.set_cons_succ]
            refine wpAnyH_take (i := 28) (v := ?zv150005) rfl (by kernel_rfl) (by kernel_rfl) (by kernel_rfl) (fun _ _ _ h => h) (Or.inl ⟨by kernel_rfl, ?zy150005⟩) (by assumption) ?zr150005
            case zy150005 => (intro w hSw; (try dsimp only at hSw); go_simp; try with_reducible rfl)
            change wpAnyH _ _ _ _ _ _ _ (Act.put _ (some 94) _) _
            simp only [Act.put, List.setIfInBounds_toArray, List.set_cons_zero, List.set_cons_succ]
            refine wpAnyH_done (by kernel_rfl) ?_ _
            go_wp2_with fail
            go_roundw
            case rel => exact ⟨j + 1, by omega, by go_num, q + 1, by rw [HQW.out]; rfl⟩
            case measure => simp [intOf]; omega
          · have hne : ((j : Int) != (k : Int)) = true := by simp; omega
            obtain ⟨q0, q1, q2, q3⟩ := HQ.out _ HBr.out j hjn
            rw [if_neg hjk] at q2 q3
            obtain ⟨tj, HTJ⟩ : ∃ v, Hid (sth bs j = v) := ⟨_, rfl⟩
            obtain ⟨xj, HXJ⟩ : ∃ v, Hid (bth hs j = v) := ⟨_, rfl⟩
            rw [HTJ.out] at q0 q2
            rw [HXJ.out] at q1 q3
            have hen : (tj.toList != tj.toList) = false := by simp
            have hbn : (xj != xj) = false := by simp
            (try go_wp2_with fail)
            refine wp_region_held_drew (S := (fun w' => w'.cell? ⟨w1.heap.size, 4, none⟩ = some (.slice (some ⟨ba, oa, none⟩) n c1) ∧ w'.cell? ⟨w1.heap.size, 5, none⟩ = some (.slice (some ⟨bb, ob, none⟩) n c2) ∧ w'.cell? ⟨w2.heap.size, 4, none⟩ = some (.slice (some ⟨bc, oc, none⟩) n e1) ∧ w'.cell? ⟨w2.heap.size, 5, none⟩ = some (.slice (some ⟨bd, od, none⟩) n e2) ∧ w'.cell? ⟨ba, oa + j, none⟩ = some (.string tj) ∧ w'.cell? ⟨bb, ob + j, none⟩ = some (.bool xj) ∧ w'.cell? ⟨bc, oc + j, none⟩ = some (.string tj) ∧ w'.cell? ⟨bd, od + j, none⟩ = some (.bool xj))) (by kernel_rfl) (⟨k4, k5, o4, o5, q0, q1, q2, q3⟩) (fun hHeld => ?_)
            refine wpAnyH_take (i := 0) (v := ?zv150006) rfl (by kernel_rfl) (by kernel_rfl) (by kernel_rfl) (fun _ _ _ h => h) (Or.inl ⟨by kernel_rfl, ?zy150006⟩) (by assumption) ?zr150006
            case zy150006 => (intro w hSw; (try dsimp only at hSw); go_simp; try with_reducible rfl)
            change wpAnyH _ _ _ _ _ _ _ (Act.put _ (some 66) _) _
            simp only [Act.put, List.setIfInBounds_toArray, List.set_cons_zero, List.set_cons_succ]
            refine wpAnyH_take (i := 1) (v := ?zv150007) rfl (by kernel_rfl) (by kernel_rfl) (by kernel_rfl) (fun _ _ _ h => h) (Or.inl ⟨by kernel_rfl, ?zy150007⟩) (by assumption) ?zr150007
            case zy150007 => (intro w hSw; (try dsimp only at hSw); go_simp; try with_reducible rfl)
            change wpAnyH _ _ _ _ _ _ _ (Act.put _ (some 67) _) _
            simp only [Act.put, List.setIfInBounds_toArray, List.set_cons_zero, List.set_cons_succ]
            refine wpAnyH_take (i := 2) (v := ?zv150008) rfl (by kernel_rfl) (by kernel_rfl) (by kernel_rfl) (fun _ _ _ h => h) (Or.inl ⟨by kernel_rfl, ?zy150008⟩) (by assumption) ?zr150008
            case zy150008 => (intro w hSw; (try dsimp only at hSw); go_simp; try with_reducible rfl)
            change wpAnyH _ _ _ _ _ _ _ (Act.put _ (some 68) _) _
            simp only [Act.put, List.setIfInBounds_toArray, List.set_cons_zero, List.set_cons_succ]
            refine wpAnyH_take (i := 3) (v := ?zv150009) rfl (by kernel_rfl) (by kernel_rfl) (by kernel_rfl) (fun _ _ _ h => h) (Or.inl ⟨by kernel_rfl, ?zy150009⟩) (by assumption) ?zr150009
            case zy150009 => (intro w hSw; (try dsimp only at hSw); go_simp; try with_reducible rfl)
            change wpAnyH _ _ _ _ _ _ _ (Act.put _ (some 69) _) _
            simp only [Act.put, List.setIfInBounds_toArray, List.set_cons_zero, List.set_cons_succ]
            refine wpAnyH_take (i := 4) (v := ?zv150010) rfl (by kernel_rfl) (by kernel_rfl) (by kernel_rfl) (fun _ _ _ h => h) (Or.inl ⟨by kernel_rfl, ?zy150010⟩) (by assumption) ?zr150010
            case zy150010 => (intro w hSw; (try dsimp only at hSw); go_simp; try with_reducible rfl)
            change wpAnyH _ _ _ _ _ _ _ (Act.put _ (some 70) _) _
            simp only [Act.put, List.setIfInBounds_toArray, List.set_cons_zero, List.set_cons_succ]
            refine wpAnyH_take (i := 5) (v := ?zv150011) rfl (by kernel_rfl) (by kernel_rfl) (by kernel_rfl) (fun _ _ _ h => h) (Or.inl ⟨by kernel_rfl, ?zy150011⟩) (by assumption) ?zr150011
            case zy150011 => (intro w hSw; (try dsimp only at hSw); go_simp; try with_reducible rfl)
            change wpAnyH _ _ _ _ _ _ _ (Act.put _ (some 71) _) _
            simp only [Act.put, List.setIfInBounds_toArray, List.set_cons_zero, List.set_cons_succ]
            refine wpAnyH_take (i := 6) (v := ?zv150012) rfl (by kernel_rfl) (by kernel_rfl) (by kernel_rfl) (fun _ _ _ h => h) (Or.inl ⟨by kernel_rfl, ?zy150012⟩) (by assumption) ?zr150012
            case zy150012 => (intro w hSw; (try dsimp only at hSw); go_simp; try with_reducible rfl)
            change wpAnyH _ _ _ _ _ _ _ (Act.put _ (some 72) _) _
            simp only [Act.put, List.setIfInBounds_toArray, List.set_cons_zero, List.set_cons_succ]
            refine wpAnyH_take (i := 7) (v := ?zv150013) rfl (by kernel_rfl) (by kernel_rfl) (by kernel_rfl) (fun _ _ _ h => h) (Or.inl ⟨by kernel_rfl, ?zy150013⟩) (by assumption) ?zr150013
            case zy150013 => (intro w hSw; (try dsimp only at hSw); go_simp; try with_reducible rfl)
            change wpAnyH _ _ _ _ _ _ _ (Act.put _ (some 73) _) _
            simp only [Act.put, List.setIfInBounds_toArray, List.set_cons_zero, List.set_cons_succ]
            refine wpAnyH_take (i := 8) (v := ?zv150014) rfl (by kernel_rfl) (by kernel_rfl) (by kernel_rfl) (fun _ _ _ h => h) (Or.inl ⟨by kernel_rfl, ?zy150014⟩) (by assumption) ?zr150014
            case zy150014 => (intro w hSw; (try dsimp only at hSw); go_simp; try with_reducible rfl)
            change wpAnyH _ _ _ _ _ _ _ (Act.put _ (some 74) _) _
            simp only [Act.put, List.setIfInBounds_toArray, List.set_cons_zero, List.set_cons_succ]
            refine wpAnyH_take (i := 9) (v := ?zv150015) rfl (by kernel_rfl) (by kernel_rfl) (by kernel_rfl) (fun _ _ _ h => h) (Or.inl ⟨by kernel_rfl, ?zy150015⟩) (by assumption) ?zr150015
            case zy150015 => (intro w hSw; (try dsimp only at hSw); go_simp; try with_reducible rfl)
            change wpAnyH _ _ _ _ _ _ _ (Act.put _ (some 75) _) _
            simp only [Act.put, List.setIfInBounds_toArray, List.set_cons_zero, List.set_cons_succ]
            refine wpAnyH_take (i := 10) (v := ?zv150016) rfl (by kernel_rfl) (by kernel_rfl) (by kernel_rfl) (fun _ _ _ h => h) (Or.inl ⟨by kernel_rfl, ?zy150016⟩) (by assumption) ?zr150016
            case zy150016 => (intro w hSw; (try dsimp only at hSw); go_simp; try with_reducible rfl)
            change wpAnyH _ _ _ _ _ _ _ (Act.put _ (some 76) _) _
            simp only [Act.put, List.setIfInBounds_toArray, List.set_cons_zero, List.set_cons_succ]
            refine wpAnyH_take (i := 11) (v := ?zv150017) rfl (by kernel_rfl) (by kernel_rfl) (by kernel_rfl) (fun _ _ _ h => h) (Or.inl ⟨by kernel_rfl, ?zy150017⟩) (by assumption) ?zr150017
            case zy150017 => (intro w hSw; (try dsimp only at hSw); go_simp; try with_reducible rfl)
            change wpAnyH _ _ _ _ _ _ _ (Act.put _ (some 77) _) _
            simp only [Act.put, List.setIfInBounds_toArray, List.set_cons_zero, List.set_cons_succ]
            refine wpAnyH_take (i := 12) (v := ?zv150018) rfl (by kernel_rfl) (by kernel_rfl) (by kernel_rfl) (fun _ _ _ h => h) (Or.inl ⟨by kernel_rfl, ?zy150018⟩) (by assumption) ?zr150018
            case zy150018 => (intro w hSw; (try dsimp only at hSw); go_simp; try with_reducible rfl)
            change wpAnyH _ _ _ _ _ _ _ (Act.put _ (some 78) _) _
            simp only [Act.put, List.setIfInBounds_toArray, List.set_cons_zero, List.set_cons_succ]
            refine wpAnyH_take (i := 13) (v := ?zv150019) rfl (by kernel_rfl) (by kernel_rfl) (by kernel_rfl) (fun _ _ _ h => h) (Or.inl ⟨by kernel_rfl, ?zy150019⟩) (by assumption) ?zr150019
            case zy150019 => (intro w hSw; (try dsimp only at hSw); go_simp; try with_reducible rfl)
            change wpAnyH _ _ _ _ _ _ _ (Act.put _ (some 79) _) _
            simp only [Act.put, List.setIfInBounds_toArray, List.set_cons_zero, List.set_cons_succ]
            refine wpAnyH_take (i := 14) (v := ?zv150020) rfl (by kernel_rfl) (by kernel_rfl) (by kernel_rfl) (fun _ _ _ h => h) (Or.inl ⟨by kernel_rfl, ?zy150020⟩) (by assumption) ?zr150020
            case zy150020 => (intro w hSw; (try dsimp only at hSw); go_simp; try with_reducible rfl)
            change wpAnyH _ _ _ _ _ _ _ (Act.put _ (some 80) _) _
            simp only [Act.put, List.setIfInBounds_toArray, List.set_cons_zero, List.set_cons_succ]
            refine wpAnyH_take (i := 15) (v := ?zv150021) rfl (by kernel_rfl) (by kernel_rfl) (by kernel_rfl) (fun _ _ _ h => h) (Or.inl ⟨by kernel_rfl, ?zy150021⟩) (by assumption) ?zr150021
            case zy150021 => (intro w hSw; (try dsimp only at hSw); go_simp; try with_reducible rfl)
            change wpAnyH _ _ _ _ _ _ _ (Act.put _ (some 81) _) _
            simp only [Act.put, List.setIfInBounds_toArray, List.set_cons_zero, List.set_cons_succ]
            refine wpAnyH_take (i := 16) (v := ?zv150022) rfl (by kernel_rfl) (by kernel_rfl) (by kernel_rfl) (fun _ _ _ h => h) (Or.inl ⟨by kernel_rfl, ?zy150022⟩) (by assumption) ?zr150022
            case zy150022 => (intro w hSw; (try dsimp only at hSw); go_simp; try with_reducible rfl)
            change wpAnyH _ _ _ _ _ _ _ (Act.put _ (some 82) _) _
            simp only [Act.put, List.setIfInBounds_toArray, List.set_cons_zero, List.set_cons_succ]
            refine wpAnyH_take (i := 17) (v := ?zv150023) rfl (by kernel_rfl) (by kernel_rfl) (by kernel_rfl) (fun _ _ _ h => h) (Or.inl ⟨by kernel_rfl, ?zy150023⟩) (by assumption) ?zr150023
            case zy150023 => (intro w hSw; (try dsimp only at hSw); go_simp; try with_reducible rfl)
            change wpAnyH _ _ _ _ _ _ _ (Act.put _ (some 83) _) _
            simp only [Act.put, List.setIfInBounds_toArray, List.set_cons_zero, List.set_cons_succ]
            refine wpAnyH_take (i := 18) (v := ?zv150024) rfl (by kernel_rfl) (by kernel_rfl) (by kernel_rfl) (fun _ _ _ h => h) (Or.inl ⟨by kernel_rfl, ?zy150024⟩) (by assumption) ?zr150024
            case zy150024 => (intro w hSw; (try dsimp only at hSw); go_simp; try with_reducible rfl)
            change wpAnyH _ _ _ _ _ _ _ (Act.put _ (some 84) _) _
            simp only [Act.put, List.setIfInBounds_toArray, List.set_cons_zero, List.set_cons_succ]
            refine wpAnyH_take (i := 19) (v := ?zv150025) rfl (by kernel_rfl) (by kernel_rfl) (by kernel_rfl) (fun _ _ _ h => h) (Or.inl ⟨by kernel_rfl, ?zy150025⟩) (by assumption) ?zr150025
            case zy150025 => (intro w hSw; (try dsimp only at hSw); go_simp; try with_reducible rfl)
            change wpAnyH _ _ _ _ _ _ _ (Act.put _ (some 85) _) _
            simp only [Act.put, List.setIfInBounds_toArray, List.set_cons_zero, List.set_cons_succ]
            refine wpAnyH_take (i := 20) (v := ?zv150026) rfl (by kernel_rfl) (by kernel_rfl) (by kernel_rfl) (fun _ _ _ h => h) (Or.inl ⟨by kernel_rfl, ?zy150026⟩) (by assumption) ?zr150026
            case zy150026 => (intro w hSw; (try dsimp only at hSw); go_simp; try with_reducible rfl)
            change wpAnyH _ _ _ _ _ _ _ (Act.put _ (some 86) _) _
            simp only [Act.put, List.setIfInBounds_toArray, List.set_cons_zero, List.set_cons_succ]
            refine wpAnyH_take (i := 21) (v := ?zv150027) rfl (by kernel_rfl) (by kernel_rfl) (by kernel_rfl) (fun _ _ _ h => h) (Or.inl ⟨by kernel_rfl, ?zy150027⟩) (by assumption) ?zr150027
            case zy150027 => (intro w hSw; (try dsimp only at hSw); go_simp; try with_reducible rfl)
            change wpAnyH _ _ _ _ _ _ _ (Act.put _ (some 87) _) _
            simp only [Act.put, List.setIfInBounds_toArray, List.set_cons_zero, List.set_cons_succ]
            refine wpAnyH_take (i := 22) (v := ?zv150028) rfl (by kernel_rfl) (by kernel_rfl) (by kernel_rfl) (fun _ _ _ h => h) (Or.inl ⟨by kernel_rfl, ?zy150028⟩) (by assumption) ?zr150028
            case zy150028 => (intro w hSw; (try dsimp only at hSw); go_simp; try with_reducible rfl)
            change wpAnyH _ _ _ _ _ _ _ (Act.put _ (some 88) _) _
            simp only [Act.put, List.setIfInBounds_toArray, List.set_cons_zero, List.set_cons_succ]
            refine wpAnyH_take (i := 23) (v := ?zv150029) rfl (by kernel_rfl) (by kernel_rfl) (by kernel_rfl) (fun _ _ _ h => h) (Or.inl ⟨by kernel_rfl, ?zy150029⟩) (by assumption) ?zr150029
            case zy150029 => (intro w hSw; (try dsimp only at hSw); go_simp; try with_reducible rfl)
            change wpAnyH _ _ _ _ _ _ _ (Act.put _ (some 89) _) _
            simp only [Act.put, List.setIfInBounds_toArray, List.set_cons_zero, List.set_cons_succ]
            refine wpAnyH_take (i := 24) (v := ?zv150030) rfl (by kernel_rfl) (by kernel_rfl) (by kernel_rfl) (fun _ _ _ h => h) (Or.inl ⟨by kernel_rfl, ?zy150030⟩) (by assumption) ?zr150030
            case zy150030 => (intro w hSw; (try dsimp only at hSw); go_simp; try with_reducible rfl)
            change wpAnyH _ _ _ _ _ _ _ (Act.put _ (some 90) _) _
            simp only [Act.put, List.setIfInBounds_toArray, List.set_cons_zero, List.set_cons_succ]
            refine wpAnyH_take (i := 25) (v := ?zv150031) rfl (by kernel_rfl) (by kernel_rfl) (by kernel_rfl) (fun _ _ _ h => h) (Or.inl ⟨by kernel_rfl, ?zy150031⟩) (by assumption) ?zr150031
            case zy150031 => (intro w hSw; (try dsimp only at hSw); go_simp; try with_reducible rfl)
            change wpAnyH _ _ _ _ _ _ _ (Act.put _ (some 91) _) _
            simp only [Act.put, List.setIfInBounds_toArray, List.set_cons_zero, List.set_cons_succ]
            refine wpAnyH_take (i := 26) (v := ?zv150032) rfl (by kernel_rfl) (by kernel_rfl) (by kernel_rfl) (fun _ _ _ h => h) (Or.inl ⟨by kernel_rfl, ?zy150032⟩) (by assumption) ?zr150032
            case zy150032 => (intro w hSw; (try dsimp only at hSw); go_simp; try with_reducible rfl)
            change wpAnyH _ _ _ _ _ _ _ (Act.put _ (some 92) _) _
            simp only [Act.put, List.setIfInBounds_toArray, List.set_cons_zero, List.set_cons_succ]
            refine wpAnyH_take (i := 27) (v := ?zv150033) rfl (by kernel_rfl) (by kernel_rfl) (by kernel_rfl) (fun _ _ _ h => h) (Or.inl ⟨by kernel_rfl, ?zy150033⟩) (by assumption) ?zr150033
            case zy150033 => (intro w hSw; (try dsimp only at hSw); go_simp; try with_reducible rfl)
            change wpAnyH _ _ _ _ _ _ _ (Act.put _ (some 93) _) _
            simp only [Act.put, List.setIfInBounds_toArray, List.set_cons_zero, List.set_cons_succ]
            refine wpAnyH_take (i := 28) (v := ?zv150034) rfl (by kernel_rfl) (by kernel_rfl) (by kernel_rfl) (fun _ _ _ h => h) (Or.inl ⟨by kernel_rfl, ?zy150034⟩) (by assumption) ?zr150034
            case zy150034 => (intro w hSw; (try dsimp only at hSw); go_simp; try with_reducible rfl)
            change wpAnyH _ _ _ _ _ _ _ (Act.put _ (some 94) _) _
            simp only [Act.put, List.setIfInBounds_toArray, List.set_cons_zero, List.set_cons_succ]
            refine wpAnyH_done (by kernel_rfl) ?_ _
            go_wp2_with fail
            go_roundw
            case rel => exact ⟨j + 1, by omega, by go_num, q + 1, by rw [HQW.out]; rfl⟩
            case measure => simp [intOf]; omega
        · have hjn2 : j = n := by omega
          subst hjn2
          obtain ⟨q0, q1, q2, q3⟩ := HQ.out _ HBr.out k hkn
          rw [if_pos rfl] at q2 q3
          rw [H2.out] at q1
          have het : (t.toList == t.toList) = true := by simp
          go_wp2_with fail
          refine (CVD.out _ HBr.out).mono ?_
          rintro e w9 ⟨rfl, hb9⟩
          obtain ⟨k0, k1, k2, k3, k4, k5⟩ := feed_cells ((KF4.out.below HBr.out KF4.out.lt).below hb9 (KF4.out.below HBr.out KF4.out.lt).lt)
          obtain ⟨o0, o1, o2, o3, o4, o5⟩ := feed_cells ((KO4.out.below HBr.out KO4.out.lt).below hb9 (KO4.out.below HBr.out KO4.out.lt).lt)
          go_wp2
          go_ret
          exact ⟨ret_bool (by simp), HBW4.out.trans ((HBr.out.trans (hb9.mono HBr.out.size)).mono HBW4.out.size)⟩
  · have h9 : 1048576 < len := by omega
    clear hlen
    go_enter Tryd.func3, Tryd.ntmps3
    go_wp2
    go_ret
    exact ⟨rfl, Below.refl _ _⟩

end Go.Proofs.YtgklkceoafohmaaDoor
