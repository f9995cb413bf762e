/- The walk of FnPutWhole: it returns true and changes nothing that was there. Condition: the codes' bytes lie in memory. -/
import Derived.Test.YtgklkceoafohmaaDoorDrawPut
import Derived.Test.YtgklkceoafohmaaDoorSFeedPut
import Derived.Test.YtgklkceoafohmaaDoorBaseL
import Derived.Test.YtgklkceoafohmaaDoorPutMath
import Derived.Test.YtgklkceoafohmaaDoorBaseK
import Derived.Test.YtgklkceoafohmaaDoorProofLaws
namespace Go.Proofs.YtgklkceoafohmaaDoor
open Go.RowKit
set_option linter.unusedVariables false

set_option maxHeartbeats 16000000 in
set_option maxRecDepth 100000 in
theorem walkPutWhole (A : Option Addr) (len cap : Nat) (A_1 : Option Addr) (len1 cap1 : Nat) (w : World) (hTab : Tab w) (hI : In w A len cap) (hI1 : In w A_1 len1 cap1) :
    Calls Tryd.prog 6 #[.slice A len cap, .slice A_1 len1 cap1] w fun e w' => e = .returned (.bool true) ∧ Below w.heap.size w w' := by
  have hm := hI.len_le
  have hm1 := hI1.len_le
  unfold maxLen at hm hm1
  have HI := Lib.hid hI
  have HTB := Lib.hid hTab
  clear hI hI1 hTab
  by_cases hlen : len ≤ 1048576
  · by_cases hlen1 : len1 ≤ 1048576
    · have hd0 : decide (1048576 < len) = false := by simp; omega
      go_enter Tryd.func6, Tryd.ntmps6
      go_wp2_with fail
      refine (drawFeedPut_any A len cap _ HI.out).mono ?_
      rintro e w1 ⟨p, l, d, s, A1, c1, A2, c2, bs, hs, i, t, X, cz, zs, rfl, ho1, hlb, hlh, ht, hi0, hi1, hoz, hzl, hb1⟩
      have HB1 := Lib.hid hb1
      have HF := Lib.hid ho1.at_
      have HF1 := Lib.hid ho1
      have HZ1 := Lib.hid hoz
      have HNC := Lib.hid (own_nil_cap ho1)
      have HT8 : Hid (t.size ≤ maxLen) := by show _ ≤ _; unfold maxLen; omega
      have HTB1 := Lib.hid (HTB.out.below HB1.out)
      obtain ⟨⟨rp, rl, rd, rs, rb, rh⟩, HRR⟩ : ∃ f, Hid (putR ⟨p, l, d, s, bs, hs⟩ i t zs = f) := ⟨_, rfl⟩
      obtain ⟨R, HR⟩ : ∃ R, Hid (putOk ⟨p, l, d, s, bs, hs⟩ i t zs = R) := ⟨_, rfl⟩
      have CV : Hid (∀ U, Below w1.heap.size w1 U → Calls Tryd.prog 10 #[feedV p l d s A1 bs.length c1 A2 hs.length c2, .int .i64 i, .string t, .slice X zs.length cz] U fun e w' => ∃ B1 e1 B2 e2, e = .returned (.tuple #[feedV rp rl rd rs B1 rb.length e1 B2 rh.length e2, .bool R]) ∧ OwnFeed w' U.heap.size B1 e1 B2 e2 rb rh ∧ Below U.heap.size U w') := fun U hU => by
        have h := feedPut_any p l d s A1 c1 A2 c2 bs hs i t X cz zs U (HTB1.out.below hU) (HF.out.belowS hU) (HZ1.out.below hU).ints HZ1.out.formA HZ1.out.le.1 HZ1.out.le.2 HT8.out
        rw [HRR.out, HR.out] at h
        exact h
      have CS : Hid (∀ U, Below w1.heap.size w1 U → Calls Tryd.prog 11 #[feedV p l d s A1 bs.length c1 A2 hs.length c2, .int .i64 i, .string t, .slice X zs.length cz] U fun e w' => ∃ B1 e1 B2 e2, e = .returned (.tuple #[feedV rp rl rd rs B1 rb.length e1 B2 rh.length e2, .bool R]) ∧ OwnFeed w' U.heap.size B1 e1 B2 e2 rb rh ∧ Below U.heap.size U w') := fun U hU => by
        have h := sfeedPut_any p l d s A1 c1 A2 c2 bs hs i t X cz zs U (HF.out.belowS hU) HNC.out.1 HNC.out.2 (HZ1.out.below hU).ints (Nat.le_trans HZ1.out.le.1 HZ1.out.le.2) HT8.out
        rw [HRR.out, HR.out] at h
        exact h
      obtain ⟨V, HV⟩ : ∃ V, Hid (w1.alloc (.cells (feedC p l d s A1 bs.length c1 A2 hs.length c2) 28) = V) := ⟨_, rfl⟩
      have HBV : Hid (Below w1.heap.size w1 V) := by rw [← HV.out]; exact (Below.refl _ w1).alloc (Nat.le_refl _) _
      have KV : Hid (Blk V w1.heap.size 28 (feedC p l d s A1 bs.length c1 A2 hs.length c2)) := by rw [← HV.out]; exact Blk.new w1 _ _
      obtain ⟨nb, HNB⟩ : ∃ n, Hid (bs.length = n) := ⟨_, rfl⟩
      obtain ⟨nh, HNH⟩ : ∃ n, Hid (hs.length = n) := ⟨_, rfl⟩
      obtain ⟨nz, HNZ⟩ : ∃ n, Hid (zs.length = n) := ⟨_, rfl⟩
      obtain ⟨rm, HRM⟩ : ∃ n, Hid (rb.length = n) := ⟨_, rfl⟩
      obtain ⟨rn, HRN⟩ : ∃ n, Hid (rh.length = n) := ⟨_, rfl⟩
      rw [HNB.out, HNH.out, HNZ.out, HRM.out, HRN.out] at CV CS
      rw [HNB.out, HNH.out] at HV KV
      rw [HNB.out] at hlb
      rw [HNH.out] at hlh
      rw [HNB.out, HNH.out, HNZ.out]
      clear ho1 hb1 hoz ht hzl
      go_wp2_with fail
      rw [HV.out]
      refine (CV.out _ HBV.out).mono ?_
      rintro e w2 ⟨B1, e1, B2, e2, rfl, ho2, hb2⟩
      obtain ⟨V2, HV2⟩ : ∃ V, Hid (w2.alloc (.cells (feedC rp rl rd rs B1 rm e1 B2 rn e2) 28) = V) := ⟨_, rfl⟩
      have hbA : Below w2.heap.size w2 V2 := by rw [← HV2.out]; exact (Below.refl _ w2).alloc (Nat.le_refl _) _
      have KF2 := Lib.hid ((KV.out.below hb2 KV.out.lt).below hbA (KV.out.below hb2 KV.out.lt).lt)
      have KO2 : Hid (Blk V2 w2.heap.size 28 (feedC rp rl rd rs B1 rm e1 B2 rn e2)) := by rw [← HV2.out]; exact Blk.new w2 _ _
      have HO2 := Lib.hid (ho2.below hbA)
      have HB2 : Hid (Below w1.heap.size w1 V2) := HBV.out.trans ((hb2.trans (hbA.mono hb2.size)).mono HBV.out.size)
      clear hb2 ho2 hbA
      go_upto_region 5 with fail
      rw [HV2.out]
      obtain ⟨k0, k1, k2, k3, k4, k5⟩ := feed_cells KF2.out
      go_wp2_with fail
      refine (CS.out _ HB2.out).mono ?_
      rintro e w3 ⟨C1, f1, C2, f2, rfl, ho3, hb3⟩
      clear k0 k1 k2 k3 k4 k5
      obtain ⟨V3, HV3⟩ : ∃ V, Hid (w3.alloc (.cells (feedC rp rl rd rs C1 rm f1 C2 rn f2) 28) = V) := ⟨_, rfl⟩
      have hbA : Below w3.heap.size w3 V3 := by rw [← HV3.out]; exact (Below.refl _ w3).alloc (Nat.le_refl _) _
      have hbC : Below V2.heap.size V2 V3 := hb3.trans (hbA.mono hb3.size)
      have KF3 := Lib.hid (KF2.out.below hbC KF2.out.lt)
      have KO3 := Lib.hid (KO2.out.below hbC KO2.out.lt)
      have KW3 : Hid (Blk V3 w3.heap.size 28 (feedC rp rl rd rs C1 rm f1 C2 rn f2)) := by rw [← HV3.out]; exact Blk.new w3 _ _
      have HO3 := Lib.hid (HO2.out.below hbC)
      have HW3 := Lib.hid (ho3.below hbA)
      have HB3 : Hid (Below w1.heap.size w1 V3) := HB2.out.trans (hbC.mono HB2.out.size)
      have HBW3 : Hid (Below w.heap.size w V3) := HB1.out.trans (HB3.out.mono HB1.out.size)
      clear hbA hbC hb3 ho3
      have CE : Hid (∀ U, Below V3.heap.size V3 U → Calls Tryd.prog 12 #[feedV rp rl rd rs B1 rm e1 B2 rn e2, feedV rp rl rd rs C1 rm f1 C2 rn f2] U fun e w' => e = .returned (.bool true) ∧ Below U.heap.size U w') := fun U hU => by
        have h := sameFeed_same rp rl rd rs B1 e1 B2 e2 C1 f1 C2 f2 rb rh U (HO3.out.at_.belowS hU) (HW3.out.at_.belowS hU)
        rw [HRM.out, HRN.out] at h
        exact h
      go_upto_region 6 with fail
      rw [HV3.out]
      obtain ⟨o0, o1, o2, o3, o4, o5⟩ := feed_cells KO3.out
      obtain ⟨u0, u1, u2, u3, u4, u5⟩ := feed_cells KW3.out
      cases hR : R with
      | false =>
        subst hR
        go_wp2_with fail
        refine (CE.out _ (Below.refl _ _)).mono ?_
        rintro e w4 ⟨rfl, hb4⟩
        clear o0 o1 o2 o3 o4 o5 u0 u1 u2 u3 u4 u5
        obtain ⟨o0, o1, o2, o3, o4, o5⟩ := feed_cells (KO3.out.below hb4 KO3.out.lt)
        obtain ⟨u0, u1, u2, u3, u4, u5⟩ := feed_cells (KW3.out.below hb4 KW3.out.lt)
        go_wp2_with fail
        refine (CE.out _ hb4).mono ?_
        rintro e w5 ⟨rfl, hb5⟩
        go_wp2
        go_ret
        exact ⟨rfl, HBW3.out.trans ((hb4.trans (hb5.mono hb4.size)).mono HBW3.out.size)⟩
      | true =>
        subst hR
        have HOK := Lib.hid ((putOk_iff _ _ _ _).1 HR.out)
        have HRF : Hid (putF ⟨p, l, d, s, bs, hs⟩ i.toNat t = ⟨rp, rl, rd, rs, rb, rh⟩) := by
          have h := HRR.out
          rw [putR_yes HR.out] at h
          exact h
        go_wp2_with fail
        refine (CE.out _ (Below.refl _ _)).mono ?_
        rintro e w4 ⟨rfl, hb4⟩
        clear o0 o1 o2 o3 o4 o5 u0 u1 u2 u3 u4 u5
        have KF4 := Lib.hid (KF3.out.below hb4 KF3.out.lt)
        have KO4 := Lib.hid (KO3.out.below hb4 KO3.out.lt)
        have HO4 := Lib.hid (HO3.out.below hb4)
        have HB4 : Hid (Below w1.heap.size w1 w4) := HB3.out.trans (hb4.mono HB3.out.size)
        have HBW4 : Hid (Below w.heap.size w w4) := HBW3.out.trans (hb4.mono HBW3.out.size)
        clear hb4
        obtain ⟨hok, ht8, hlk, htree, hok2⟩ := HOK.out
        obtain ⟨h0, h1, h2⟩ := (lacksB_iff _ _).1 hlk
        simp only at h1 h2
        have hlen := ((okB_iff _).1 hok).len
        simp only at hlen
        have hpos : 0 < nb := by rw [← HNB.out]; omega
        clear hok ht8 hlk htree hok2 h0 h1 h2 hlen
        obtain ⟨k, HK⟩ : ∃ k, Hid (len1 % nb = k) := ⟨_, rfl⟩
        have hmz : ¬ nb = 0 := by omega
        have hmod : (len1 : Int) % (nb : Int) = (k : Int) := by rw [← HK.out]; rfl
        obtain ⟨Z, HZ⟩ : ∃ Z, Hid (proveL ⟨rp, rl, rd, rs, rb, rh⟩ (k : Int) = Z) := ⟨_, rfl⟩
        obtain ⟨Q, HQ⟩ : ∃ Q, Hid (proveOk ⟨rp, rl, rd, rs, rb, rh⟩ (k : Int) = Q) := ⟨_, rfl⟩
        have CP : Hid (Calls Tryd.prog 16 #[feedV rp rl rd rs B1 rb.length e1 B2 rh.length e2, .int .i64 (k : Int)] w4 fun e w' => ∃ Y c, e = .returned (.tuple #[.slice Y Z.length c, .bool Q]) ∧ OwnInts w' w4.heap.size Y c Z ∧ Below w4.heap.size w4 w') := by
          have h := feedProve_any rp rl rd rs B1 e1 B2 e2 rb rh (k : Int) w4 HO4.out.at_
          rw [HZ.out, HQ.out] at h
          exact h
        rw [HRM.out, HRN.out] at CP
        obtain ⟨o0, o1, o2, o3, o4, o5⟩ := feed_cells KO4.out
        obtain ⟨k0, k1, k2, k3, k4, k5⟩ := feed_cells KF4.out
        go_wp2_with fail
        refine CP.out.mono ?_
        rintro e w5 ⟨Y, c, rfl, ho5, hb5⟩
        have HBW5 : Hid (Below w.heap.size w w5) := HBW4.out.trans (hb5.mono HBW4.out.size)
        clear o0 o1 o2 o3 o4 o5 k0 k1 k2 k3 k4 k5
        obtain ⟨zn, HZN⟩ : ∃ n, Hid (Z.length = n) := ⟨_, rfl⟩
        rw [HZN.out]
        cases hQ : Q with
        | false =>
          go_wp2
          go_ret
          exact ⟨rfl, HBW5.out⟩
        | true =>
          subst hQ
          by_cases hki : (k : Int) = i
          · subst hki
            go_wp2
            go_ret
            exact ⟨rfl, HBW5.out⟩
          · have hbe : ((k : Int) == i) = false := beq_eq_false_iff_ne.2 hki
            obtain ⟨htr, hz6⟩ := prove_ok HQ.out
            obtain ⟨_, _, hp0, hp1⟩ := (proveOk_iff _ _).1 HQ.out
            simp only at htr hp1
            rw [HZ.out] at htr
            rw [HZ.out, HZN.out] at hz6
            obtain ⟨tk, HTKK⟩ : ∃ v, Hid (sth rb k = v) := ⟨_, rfl⟩
            rw [HTKK.out] at htr
            have hkr : k < rb.length := by omega
            have HTFIT : Hid (tk.size ≤ maxLen) := by rw [← HTKK.out]; exact HO4.out.fit k
            have HO5 := Lib.hid (HO4.out.below hb5)
            obtain ⟨b, o, rfl, hb, hcell⟩ := HO5.out.strs.ints.at_ (by omega)
            have HTK : Hid (∀ U, Below w5.heap.size w5 U → U.cell? ⟨b, o + k, none⟩ = some (.string tk)) := fun U hU => by
              have h := ((HO5.out.strs.ints.belowS hU).lt (by omega)).2 k hkr
              rw [HTKK.out] at h
              exact h
            have KO5 := Lib.hid (KO4.out.below hb5 KO4.out.lt)
            have HZ5 := Lib.hid ho5
            have HTB5 := Lib.hid (HTB.out.below HBW5.out)
            obtain ⟨tz, HTZ⟩ : ∃ v, Hid (textOr tk = v) := ⟨_, rfl⟩
            rw [HTZ.out] at htr
            have HTR := Lib.hid htr
            have CTX : Hid (∀ U, Calls Tryd.prog 15 #[.string tk] U fun e w' => e = .returned (.int .i64 tz) ∧ Below U.heap.size U w') := fun U => by
              have h := text_any tk U HTFIT.out
              rw [HTZ.out] at h
              exact h.mono fun e w' ⟨he, hw⟩ => ⟨he, by subst hw; exact Below.refl _ _⟩
            have CTR : Hid (∀ U, Below w5.heap.size w5 U → Calls Tryd.prog 14 #[.int .i64 rd, .int .i64 rl, .int .i64 (k : Int), .int .i64 tz, .slice Y zn c] U fun e w' => e = .returned (.bool true) ∧ Below U.heap.size U w') := fun U hU => by
              have h := tcheck_any rd rl (k : Int) tz Z Y c U (HTB5.out.below hU) (HZ5.out.below hU).ints HZ5.out.formA HZ5.out.le.1 HZ5.out.le.2
              rw [HTR.out, HZN.out] at h
              exact h
            have hrm : k < rm := by rw [← HRM.out]; exact hkr
            have hki2 : (k : Int) < (rm : Int) := by omega
            have hk0 : (0 : Int) ≤ (k : Int) := by omega
            have hle : decide ((zn : Int) ≤ 6) = true := by simp; omega
            clear hb5 ho5 hcell hb htr hz6 hp0 hp1 hki hkr
            go_upto_region 12 with fail
            refine wp_region_held_drew (S := (fun w' => w'.cell? ⟨w2.heap.size, 1, none⟩ = some (.int .i64 rl) ∧ w'.cell? ⟨w2.heap.size, 2, none⟩ = some (.int .i64 rd) ∧ w'.cell? ⟨w2.heap.size, 4, none⟩ = some (.slice (some ⟨b, o, none⟩) rm e1) ∧ w'.cell? ⟨b, o + k, none⟩ = some (.string tk))) (by kernel_rfl) (⟨KO5.out.cell 1, KO5.out.cell 2, KO5.out.cell 4, HTK.out _ (below_drew (Below.refl _ _))⟩) (fun hHeld => ?_)
            obtain ⟨U0, HU0⟩ : ∃ U, Hid (w5.drew = U) := ⟨_, rfl⟩
            have HY0 : Hid (Below w.heap.size w U0) := by rw [← HU0.out]; exact below_drew HBW5.out
            have HX0 : Hid (Below w5.heap.size w5 U0) := by rw [← HU0.out]; exact below_drew (Below.refl _ _)
            have KO0 : Hid (Blk U0 w2.heap.size 28 (feedC rp rl rd rs (some ⟨b, o, none⟩) rm e1 B2 rn e2)) := by rw [← HU0.out]; exact KO5.out
            rw [HU0.out] at hHeld ⊢
            refine wpAnyH_take (i := 0) (v := ?zv140022) rfl (by kernel_rfl) (by kernel_rfl) (by kernel_rfl) (fun _ _ _ h => h) (Or.inl ⟨by kernel_rfl, ?zy140022⟩) (by assumption) ?zr140022
            case zy140022 => (intro w hSw; (try dsimp only at hSw); go_simp; try with_reducible rfl)
            change wpAnyH _ _ _ _ _ _ _ (Act.put _ (some 87) _) _
            simp only [Act.put, List.setIfInBounds_toArray, List.set_cons_zero, List.set_cons_succ]
            refine wpAnyH_take (i := 1) (v := ?zv140023) rfl (by kernel_rfl) (by kernel_rfl) (by kernel_rfl) (fun _ _ _ h => h) (Or.inl ⟨by kernel_rfl, ?zy140023⟩) (by assumption) ?zr140023
            case zy140023 => (intro w hSw; (try dsimp only at hSw); go_simp; try with_reducible rfl)
            change wpAnyH _ _ _ _ _ _ _ (Act.put _ (some 88) _) _
            simp only [Act.put, List.setIfInBounds_toArray, List.set_cons_zero, List.set_cons_succ]
            refine wpAnyH_take (i := 2) (v := ?zv140024) rfl (by kernel_rfl) (by kernel_rfl) (by kernel_rfl) (fun _ _ _ h => h) (Or.inl ⟨by kernel_rfl, ?zy140024⟩) (by assumption) ?zr140024
            case zy140024 => (intro w hSw; (try dsimp only at hSw); go_simp; try with_reducible rfl)
            change wpAnyH _ _ _ _ _ _ _ (Act.put _ (some 89) _) _
            simp only [Act.put, List.setIfInBounds_toArray, List.set_cons_zero, List.set_cons_succ]
            refine wpAnyH_take (i := 3) (v := ?zv140025) rfl (by kernel_rfl) (by kernel_rfl) (by kernel_rfl) (fun _ _ _ h => h) (Or.inl ⟨by kernel_rfl, ?zy140025⟩) (by assumption) ?zr140025
            case zy140025 => (intro w hSw; (try dsimp only at hSw); go_simp; try with_reducible rfl)
            change wpAnyH _ _ _ _ _ _ _ (Act.put _ (some 90) _) _
            simp only [Act.put, List.setIfInBounds_toArray, List.set_cons_zero, List.set_cons_succ]
            refine wpAnyH_take (i := 4) (v := ?zv140026) rfl (by kernel_rfl) (by kernel_rfl) (by kernel_rfl) (fun _ _ _ h => h) (Or.inl ⟨by kernel_rfl, ?zy140026⟩) (by assumption) ?zr140026
            case zy140026 => (intro w hSw; (try dsimp only at hSw); go_simp; try with_reducible rfl)
            change wpAnyH _ _ _ _ _ _ _ (Act.put _ (some 91) _) _
            simp only [Act.put, List.setIfInBounds_toArray, List.set_cons_zero, List.set_cons_succ]
            refine wpAnyH_take (i := 7) (v := ?zv140027) rfl (by kernel_rfl) (by kernel_rfl) (by kernel_rfl) (fun _ _ _ h => h) (Or.inl ⟨by kernel_rfl, ?zy140027⟩) (by assumption) ?zr140027
            case zy140027 => (intro w hSw; (try dsimp only at hSw); go_simp; try with_reducible rfl)
            change wpAnyH _ _ _ _ _ _ _ (Act.put _ (some 94) _) _
            simp only [Act.put, List.setIfInBounds_toArray, List.set_cons_zero, List.set_cons_succ]
            refine wpAnyH_take (i := 10) (v := ?zv140028) rfl (by kernel_rfl) (by kernel_rfl) (by kernel_rfl) (fun _ _ _ h => h) (Or.inl ⟨by kernel_rfl, ?zy140028⟩) (by assumption) ?zr140028
            case zy140028 => (intro w hSw; (try dsimp only at hSw); go_simp; try with_reducible rfl)
            change wpAnyH _ _ _ _ _ _ _ (Act.put _ (some 97) _) _
            simp only [Act.put, List.setIfInBounds_toArray, List.set_cons_zero, List.set_cons_succ]
            refine wpAnyH_take (i := 11) (v := ?zv140029) rfl (by kernel_rfl) (by kernel_rfl) (by kernel_rfl) (fun _ _ _ h => h) (Or.inl ⟨by kernel_rfl, ?zy140029⟩) (by assumption) ?zr140029
            case zy140029 => (intro w hSw; (try dsimp only at hSw); go_simp; try with_reducible rfl)
            change wpAnyH _ _ _ _ _ _ _ (Act.put _ (some 98) _) _
            simp only [Act.put, List.setIfInBounds_toArray, List.set_cons_zero, List.set_cons_succ]
            refine wpAnyH_take (i := 13) (v := ?zv140030) rfl (by kernel_rfl) (by kernel_rfl) (by kernel_rfl) (fun _ _ _ h => h) (Or.inl ⟨by kernel_rfl, ?zy140030⟩) (by assumption) ?zr140030
            case zy140030 => (intro w hSw; (try dsimp only at hSw); go_simp; try with_reducible rfl)
            change wpAnyH _ _ _ _ _ _ _ (Act.put _ (some 100) _) _
            simp only [Act.put, List.setIfInBounds_toArray, List.set_cons_zero, List.set_cons_succ]
            refine wpAnyH_take (i := 17) (v := ?zv140031) rfl (by kernel_rfl) (by kernel_rfl) (by kernel_rfl) (fun _ _ _ h => h) (Or.inl ⟨by kernel_rfl, ?zy140031⟩) (by assumption) ?zr140031
            case zy140031 => (intro w hSw; (try dsimp only at hSw); go_simp; try with_reducible rfl)
            change wpAnyH _ _ _ _ _ _ _ (Act.put _ (some 104) _) _
            simp only [Act.put, List.setIfInBounds_toArray, List.set_cons_zero, List.set_cons_succ]
            refine wpAnyH_take (i := 5) (v := ?zv140032) rfl (by kernel_rfl) (by kernel_rfl) (by kernel_rfl) (fun _ _ _ h => h) (Or.inl ⟨by kernel_rfl, ?zy140032⟩) (by assumption) ?zr140032
            case zy140032 => (intro w hSw; (try dsimp only at hSw); go_simp; try with_reducible rfl)
            change wpAnyH _ _ _ _ _ _ _ (Act.put _ (some 92) _) _
            simp only [Act.put, List.setIfInBounds_toArray, List.set_cons_zero, List.set_cons_succ]
            refine wpAnyH_take (i := 8) (v := ?zv140033) rfl (by kernel_rfl) (by kernel_rfl) (by kernel_rfl) (fun _ _ _ h => h) (Or.inl ⟨by kernel_rfl, ?zy140033⟩) (by assumption) ?zr140033
            case zy140033 => (intro w hSw; (try dsimp only at hSw); go_simp; try with_reducible rfl)
            change wpAnyH _ _ _ _ _ _ _ (Act.put _ (some 95) _) _
            simp only [Act.put, List.setIfInBounds_toArray, List.set_cons_zero, List.set_cons_succ]
            refine wpAnyH_take (i := 12) (v := ?zv140034) rfl (by kernel_rfl) (by kernel_rfl) (by kernel_rfl) (fun _ _ _ h => h) (Or.inl ⟨by kernel_rfl, ?zy140034⟩) (by assumption) ?zr140034
            case zy140034 => (intro w hSw; (try dsimp only at hSw); go_simp; try with_reducible rfl)
            change wpAnyH _ _ _ _ _ _ _ (Act.put _ (some 99) _) _
            simp only [Act.put, List.setIfInBounds_toArray, List.set_cons_zero, List.set_cons_succ]
            refine wpAnyH_take (i := 6) (v := ?zv140035) rfl (by kernel_rfl) (by kernel_rfl) (by kernel_rfl) (fun _ _ _ h => h) (Or.inl ⟨by kernel_rfl, ?zy140035⟩) (by assumption) ?zr140035
            case zy140035 => (intro w hSw; (try dsimp only at hSw); go_simp; try with_reducible rfl)
            change wpAnyH _ _ _ _ _ _ _ (Act.put _ (some 93) _) _
            simp only [Act.put, List.setIfInBounds_toArray, List.set_cons_zero, List.set_cons_succ]
            refine wpAnyH_take (i := 9) (v := ?zv140036) rfl (by kernel_rfl) (by kernel_rfl) (by kernel_rfl) (fun _ _ _ h => h) (Or.inl ⟨by kernel_rfl, ?zy140036⟩) (by assumption) ?zr140036
            case zy140036 => (intro w hSw; (try dsimp only at hSw); go_simp; try with_reducible rfl)
            change wpAnyH _ _ _ _ _ _ _ (Act.put _ (some 96) _) _
            simp only [Act.put, List.setIfInBounds_toArray, List.set_cons_zero, List.set_cons_succ]
            refine wpAnyH_take (i := 14) (v := ?zv140037) rfl (by kernel_rfl) (by kernel_rfl) (by kernel_rfl) (fun _ _ _ h => h) (Or.inl ⟨by kernel_rfl, ?zy140037⟩) (by assumption) ?zr140037
            case zy140037 => (intro w hSw; (try dsimp only at hSw); go_simp; try with_reducible rfl)
            change wpAnyH _ _ _ _ _ _ _ (Act.put _ (some 101) _) _
            simp only [Act.put, List.setIfInBounds_toArray, List.set_cons_zero, List.set_cons_succ]
            refine wpAnyH_take (i := 15) (v := ?zv140038) rfl (by kernel_rfl) (by kernel_rfl) (by kernel_rfl) (fun _ _ _ h => h) (Or.inl ⟨by kernel_rfl, ?zy140038⟩) (by assumption) ?zr140038
            case zy140038 => (intro w hSw; (try dsimp only at hSw); go_simp; try with_reducible rfl)
            change wpAnyH _ _ _ _ _ _ _ (Act.put _ (some 102) _) _
            simp only [Act.put, List.setIfInBounds_toArray, List.set_cons_zero, List.set_cons_succ]
            refine wpAnyH_ready (rs := [16]) (by kernel_rfl) (by simp) (AllReadyH.cons rfl (fun K hK => ?zo140039_0) AllReadyH.nil)
            case zo140039_0 =>
              go_simp
              go_at_call 15
              refine (CTX.out U0).mono ?_
              rintro e U1 ⟨rfl, hb1⟩
              have KO1 := Lib.hid (KO0.out.below hb1 KO0.out.lt)
              have HY1 : Hid (Below w.heap.size w U1) := HY0.out.trans (hb1.mono HY0.out.size)
              have HX1 : Hid (Below w5.heap.size w5 U1) := HX0.out.trans (hb1.mono HX0.out.size)
              clear hb1
              refine hK.out _ _ (⟨KO1.out.cell 1, KO1.out.cell 2, KO1.out.cell 4, HTK.out _ HX1.out⟩) (fun hHeld => ?_)
              clear hK K
              (try simp only [Act.put, List.setIfInBounds_toArray, List.set_cons_zero, List.set_cons_succ])
              refine wpAnyH_ready (rs := [18]) (by kernel_rfl) (by simp) (AllReadyH.cons rfl (fun K hK => ?zo140040_0) AllReadyH.nil)
              case zo140040_0 =>
                go_simp
                go_at_call 14
                refine (CTR.out _ HX1.out).mono ?_
                rintro e U2 ⟨rfl, hb2⟩
                have KO2 := Lib.hid (KO1.out.below hb2 KO1.out.lt)
                have HY2 : Hid (Below w.heap.size w U2) := HY1.out.trans (hb2.mono HY1.out.size)
                have HX2 : Hid (Below w5.heap.size w5 U2) := HX1.out.trans (hb2.mono HX1.out.size)
                clear hb2
                refine hK.out _ _ (⟨KO2.out.cell 1, KO2.out.cell 2, KO2.out.cell 4, HTK.out _ HX2.out⟩) (fun hHeld => ?_)
                clear hK K
                (try simp only [Act.put, List.setIfInBounds_toArray, List.set_cons_zero, List.set_cons_succ])
                refine wpAnyH_take (i := 19) (v := ?zv140041) rfl (by kernel_rfl) (by kernel_rfl) (by kernel_rfl) (fun _ _ _ h => h) (Or.inl ⟨by kernel_rfl, ?zy140041⟩) (by assumption) ?zr140041
                case zy140041 => (intro w hSw; (try dsimp only at hSw); go_simp; try with_reducible rfl)
                change wpAnyH _ _ _ _ _ _ _ (Act.put _ (some 106) _) _
                simp only [Act.put, List.setIfInBounds_toArray, List.set_cons_zero, List.set_cons_succ]
                refine wpAnyH_take (i := 20) (v := ?zv140042) rfl (by kernel_rfl) (by kernel_rfl) (by kernel_rfl) (fun _ _ _ h => h) (Or.inl ⟨by kernel_rfl, ?zy140042⟩) (by assumption) ?zr140042
                case zy140042 => (intro w hSw; (try dsimp only at hSw); go_simp; try with_reducible rfl)
                change wpAnyH _ _ _ _ _ _ _ (Act.put _ (some 4) _) _
                simp only [Act.put, List.setIfInBounds_toArray, List.set_cons_zero, List.set_cons_succ]
                refine wpAnyH_done (by kernel_rfl) ?_ _
                go_wp2
                go_ret
                exact ⟨rfl, HY2.out⟩
    · have hd0 : decide (1048576 < len) = false := by simp; omega
      have hd1 : decide (1048576 < len1) = true := by simp; omega
      go_enter Tryd.func6, Tryd.ntmps6
      go_wp2
      go_ret
      exact ⟨rfl, Below.refl _ _⟩
  · have hd0 : decide (1048576 < len) = true := by simp; omega
    go_enter Tryd.func6, Tryd.ntmps6
    go_wp2
    go_ret
    exact ⟨rfl, Below.refl _ _⟩

end Go.Proofs.YtgklkceoafohmaaDoor
