/- The walk of FnPutProof: it returns true and changes nothing that was there. Condition: the codes' bytes lie in memory. -/
import Derived.Test.YtgklkceoafohmaaDoorDrawPut
import Derived.Test.YtgklkceoafohmaaDoorSFeedPut
import Derived.Test.YtgklkceoafohmaaDoorBaseL
import Derived.Test.YtgklkceoafohmaaDoorPutMath
import Derived.Test.YtgklkceoafohmaaDoorBaseK
namespace Go.Proofs.YtgklkceoafohmaaDoor
open Go.RowKit
set_option linter.unusedVariables false

set_option maxHeartbeats 16000000 in
set_option maxRecDepth 100000 in
theorem walkPutProof (A : Option Addr) (len cap : Nat) (w : World) (hTab : Tab w) (hI : In w A len cap) :
    Calls Tryd.prog 4 #[.slice A len cap] w fun e w' => e = .returned (.bool true) ∧ Below w.heap.size w w' := by
  have hm := hI.len_le
  unfold maxLen at hm
  have HI := Lib.hid hI
  have HTB := Lib.hid hTab
  clear hI hTab
  by_cases hlen : len ≤ 1048576
  · go_enter Tryd.func4, Tryd.ntmps4
    go_wp2_with fail
    refine (drawFeedPut_any A len cap _ HI.out).mono ?_
    rintro e w1 ⟨p, l, d, s, A1, c1, A2, c2, bs, hs, i, t, X, cz, zs, rfl, ho1, hlb, hlh, ht, hi0, hi1, hoz, hzl, hb1⟩
    have HB1 := Lib.hid hb1
    have HF := Lib.hid ho1.at_
    have HF1 := Lib.hid ho1
    have HZ1 := Lib.hid hoz
    have HNC := Lib.hid (own_nil_cap ho1)
    have HT8 : Hid (t.size ≤ maxLen) := by show _ ≤ _; unfold maxLen; omega
    have HTB1 := Lib.hid (HTB.out.below HB1.out)
    obtain ⟨⟨rp, rl, rd, rs, rb, rh⟩, HRR⟩ : ∃ f, Hid (putR ⟨p, l, d, s, bs, hs⟩ i t zs = f) := ⟨_, rfl⟩
    obtain ⟨R, HR⟩ : ∃ R, Hid (putOk ⟨p, l, d, s, bs, hs⟩ i t zs = R) := ⟨_, rfl⟩
    have CV : Hid (∀ U, Below w1.heap.size w1 U → Calls Tryd.prog 10 #[feedV p l d s A1 bs.length c1 A2 hs.length c2, .int .i64 i, .string t, .slice X zs.length cz] U fun e w' => ∃ B1 e1 B2 e2, e = .returned (.tuple #[feedV rp rl rd rs B1 rb.length e1 B2 rh.length e2, .bool R]) ∧ OwnFeed w' U.heap.size B1 e1 B2 e2 rb rh ∧ Below U.heap.size U w') := fun U hU => by
      have h := feedPut_any p l d s A1 c1 A2 c2 bs hs i t X cz zs U (HTB1.out.below hU) (HF.out.belowS hU) (HZ1.out.below hU).ints HZ1.out.formA HZ1.out.le.1 HZ1.out.le.2 HT8.out
      rw [HRR.out, HR.out] at h
      exact h
    have CS : Hid (∀ U, Below w1.heap.size w1 U → Calls Tryd.prog 11 #[feedV p l d s A1 bs.length c1 A2 hs.length c2, .int .i64 i, .string t, .slice X zs.length cz] U fun e w' => ∃ B1 e1 B2 e2, e = .returned (.tuple #[feedV rp rl rd rs B1 rb.length e1 B2 rh.length e2, .bool R]) ∧ OwnFeed w' U.heap.size B1 e1 B2 e2 rb rh ∧ Below U.heap.size U w') := fun U hU => by
      have h := sfeedPut_any p l d s A1 c1 A2 c2 bs hs i t X cz zs U (HF.out.belowS hU) HNC.out.1 HNC.out.2 (HZ1.out.below hU).ints (Nat.le_trans HZ1.out.le.1 HZ1.out.le.2) HT8.out
      rw [HRR.out, HR.out] at h
      exact h
    obtain ⟨V, HV⟩ : ∃ V, Hid (w1.alloc (.cells (feedC p l d s A1 bs.length c1 A2 hs.length c2) 28) = V) := ⟨_, rfl⟩
    have HBV : Hid (Below w1.heap.size w1 V) := by rw [← HV.out]; exact (Below.refl _ w1).alloc (Nat.le_refl _) _
    have KV : Hid (Blk V w1.heap.size 28 (feedC p l d s A1 bs.length c1 A2 hs.length c2)) := by rw [← HV.out]; exact Blk.new w1 _ _
    obtain ⟨nb, HNB⟩ : ∃ n, Hid (bs.length = n) := ⟨_, rfl⟩
    obtain ⟨nh, HNH⟩ : ∃ n, Hid (hs.length = n) := ⟨_, rfl⟩
    obtain ⟨nz, HNZ⟩ : ∃ n, Hid (zs.length = n) := ⟨_, rfl⟩
    obtain ⟨rm, HRM⟩ : ∃ n, Hid (rb.length = n) := ⟨_, rfl⟩
    obtain ⟨rn, HRN⟩ : ∃ n, Hid (rh.length = n) := ⟨_, rfl⟩
    rw [HNB.out, HNH.out, HNZ.out, HRM.out, HRN.out] at CV CS
    rw [HNB.out, HNH.out] at HV KV
    rw [HNB.out] at hlb
    rw [HNH.out] at hlh
    rw [HNB.out, HNH.out, HNZ.out]
    clear ho1 hb1 hoz ht hzl
    go_wp2_with fail
    rw [HV.out]
    refine (CV.out _ HBV.out).mono ?_
    rintro e w2 ⟨B1, e1, B2, e2, rfl, ho2, hb2⟩
    obtain ⟨V2, HV2⟩ : ∃ V, Hid (w2.alloc (.cells (feedC rp rl rd rs B1 rm e1 B2 rn e2) 28) = V) := ⟨_, rfl⟩
    have hbA : Below w2.heap.size w2 V2 := by rw [← HV2.out]; exact (Below.refl _ w2).alloc (Nat.le_refl _) _
    have KF2 := Lib.hid ((KV.out.below hb2 KV.out.lt).below hbA (KV.out.below hb2 KV.out.lt).lt)
    have KO2 : Hid (Blk V2 w2.heap.size 28 (feedC rp rl rd rs B1 rm e1 B2 rn e2)) := by rw [← HV2.out]; exact Blk.new w2 _ _
    have HO2 := Lib.hid (ho2.below hbA)
    have HB2 : Hid (Below w1.heap.size w1 V2) := HBV.out.trans ((hb2.trans (hbA.mono hb2.size)).mono HBV.out.size)
    clear hb2 ho2 hbA
    go_upto_region 5 with fail
    rw [HV2.out]
    obtain ⟨k0, k1, k2, k3, k4, k5⟩ := feed_cells KF2.out
    go_wp2_with fail
    refine (CS.out _ HB2.out).mono ?_
    rintro e w3 ⟨C1, f1, C2, f2, rfl, ho3, hb3⟩
    clear k0 k1 k2 k3 k4 k5
    obtain ⟨V3, HV3⟩ : ∃ V, Hid (w3.alloc (.cells (feedC rp rl rd rs C1 rm f1 C2 rn f2) 28) = V) := ⟨_, rfl⟩
    have hbA : Below w3.heap.size w3 V3 := by rw [← HV3.out]; exact (Below.refl _ w3).alloc (Nat.le_refl _) _
    have hbC : Below V2.heap.size V2 V3 := hb3.trans (hbA.mono hb3.size)
    have KF3 := Lib.hid (KF2.out.below hbC KF2.out.lt)
    have KO3 := Lib.hid (KO2.out.below hbC KO2.out.lt)
    have KW3 : Hid (Blk V3 w3.heap.size 28 (feedC rp rl rd rs C1 rm f1 C2 rn f2)) := by rw [← HV3.out]; exact Blk.new w3 _ _
    have HO3 := Lib.hid (HO2.out.below hbC)
    have HW3 := Lib.hid (ho3.below hbA)
    have HB3 : Hid (Below w1.heap.size w1 V3) := HB2.out.trans (hbC.mono HB2.out.size)
    have HBW3 : Hid (Below w.heap.size w V3) := HB1.out.trans (HB3.out.mono HB1.out.size)
    clear hbA hbC hb3 ho3
    have CE : Hid (∀ U, Below V3.heap.size V3 U → Calls Tryd.prog 12 #[feedV rp rl rd rs B1 rm e1 B2 rn e2, feedV rp rl rd rs C1 rm f1 C2 rn f2] U fun e w' => e = .returned (.bool true) ∧ Below U.heap.size U w') := fun U hU => by
      have h := sameFeed_same rp rl rd rs B1 e1 B2 e2 C1 f1 C2 f2 rb rh U (HO3.out.at_.belowS hU) (HW3.out.at_.belowS hU)
      rw [HRM.out, HRN.out] at h
      exact h
    go_upto_region 6 with fail
    rw [HV3.out]
    obtain ⟨o0, o1, o2, o3, o4, o5⟩ := feed_cells KO3.out
    obtain ⟨u0, u1, u2, u3, u4, u5⟩ := feed_cells KW3.out
    cases hR : R with
    | false =>
      subst hR
      go_wp2_with fail
      refine (CE.out _ (Below.refl _ _)).mono ?_
      rintro e w4 ⟨rfl, hb4⟩
      clear o0 o1 o2 o3 o4 o5 u0 u1 u2 u3 u4 u5
      obtain ⟨o0, o1, o2, o3, o4, o5⟩ := feed_cells (KO3.out.below hb4 KO3.out.lt)
      obtain ⟨u0, u1, u2, u3, u4, u5⟩ := feed_cells (KW3.out.below hb4 KW3.out.lt)
      go_wp2_with fail
      refine (CE.out _ hb4).mono ?_
      rintro e w5 ⟨rfl, hb5⟩
      go_wp2
      go_ret
      exact ⟨rfl, HBW3.out.trans ((hb4.trans (hb5.mono hb4.size)).mono HBW3.out.size)⟩
    | true =>
      subst hR
      have HOK := Lib.hid ((putOk_iff _ _ _ _).1 HR.out)
      have HRF : Hid (putF ⟨p, l, d, s, bs, hs⟩ i.toNat t = ⟨rp, rl, rd, rs, rb, rh⟩) := by
        have h := HRR.out
        rw [putR_yes HR.out] at h
        exact h
      go_wp2_with fail
      refine (CE.out _ (Below.refl _ _)).mono ?_
      rintro e w4 ⟨rfl, hb4⟩
      clear o0 o1 o2 o3 o4 o5 u0 u1 u2 u3 u4 u5
      have KF4 := Lib.hid (KF3.out.below hb4 KF3.out.lt)
      have KO4 := Lib.hid (KO3.out.below hb4 KO3.out.lt)
      have HO4 := Lib.hid (HO3.out.below hb4)
      have HB4 : Hid (Below w1.heap.size w1 w4) := HB3.out.trans (hb4.mono HB3.out.size)
      have HBW4 : Hid (Below w.heap.size w w4) := HBW3.out.trans (hb4.mono HBW3.out.size)
      clear hb4
      obtain ⟨tz, HTZ⟩ : ∃ v, Hid (textOr t = v) := ⟨_, rfl⟩
      have CTX : Hid (∀ U, Calls Tryd.prog 15 #[.string t] U fun e w' => e = .returned (.int .i64 tz) ∧ Below U.heap.size U w') := fun U => by
        have h := text_any t U HT8.out
        rw [HTZ.out] at h
        exact h.mono fun e w' ⟨he, hw⟩ => ⟨he, by subst hw; exact Below.refl _ _⟩
      have CTR : Hid (∀ U, Below w1.heap.size w1 U → Calls Tryd.prog 14 #[.int .i64 d, .int .i64 l, .int .i64 i, .int .i64 tz, .slice X nz cz] U fun e w' => e = .returned (.bool true) ∧ Below U.heap.size U w') := fun U hU => by
        have h := tcheck_any d l i tz zs X cz U (HTB1.out.below hU) (HZ1.out.below hU).ints HZ1.out.formA HZ1.out.le.1 HZ1.out.le.2
        have h4 : treeOkB d l i (textOr t) zs = true := HOK.out.2.2.2.1
        rw [HTZ.out] at h4
        rw [h4, HNZ.out] at h
        exact h
      go_upto_region 8 with fail
      refine wp_region_held_drew (S := (fun w' => w'.cell? ⟨w1.heap.size, 0, none⟩ = some (.int .i64 p) ∧ w'.cell? ⟨w1.heap.size, 1, none⟩ = some (.int .i64 l) ∧ w'.cell? ⟨w1.heap.size, 2, none⟩ = some (.int .i64 d) ∧ w'.cell? ⟨w1.heap.size, 3, none⟩ = some (.int .i64 s) ∧ w'.cell? ⟨w1.heap.size, 4, none⟩ = some (.slice A1 nb c1) ∧ w'.cell? ⟨w1.heap.size, 5, none⟩ = some (.slice A2 nh c2))) (by kernel_rfl) (feed_cells KF4.out) (fun hHeld => ?_)
      obtain ⟨U0, HU0⟩ : ∃ U, Hid (w4.drew = U) := ⟨_, rfl⟩
      have HY0 : Hid (Below w.heap.size w U0) := by rw [← HU0.out]; exact below_drew HBW4.out
      have HX0 : Hid (Below w1.heap.size w1 U0) := by rw [← HU0.out]; exact below_drew HB4.out
      have HO0 : Hid (OwnFeed U0 V.heap.size B1 e1 B2 e2 rb rh) := by rw [← HU0.out]; exact ⟨HO4.out.strs.drewN 1, HO4.out.bits.drewN 1, HO4.out.fit⟩
      have KF0 : Hid (Blk U0 w1.heap.size 28 (feedC p l d s A1 nb c1 A2 nh c2)) := by rw [← HU0.out]; exact KF4.out
      rw [HU0.out] at hHeld ⊢
      refine wpAnyH_take (i := 0) (v := ?zv140001) rfl (by kernel_rfl) (by kernel_rfl) (by kernel_rfl) (fun _ _ _ h => h) (Or.inl ⟨by kernel_rfl, ?zy140001⟩) (by assumption) ?zr140001
      case zy140001 => (intro w hSw; (try dsimp only at hSw); go_simp; try with_reducible rfl)
      change wpAnyH _ _ _ _ _ _ _ (Act.put _ (some 58) _) _
      simp only [Act.put, List.setIfInBounds_toArray, List.set_cons_zero, List.set_cons_succ]
      refine wpAnyH_take (i := 3) (v := ?zv140002) rfl (by kernel_rfl) (by kernel_rfl) (by kernel_rfl) (fun _ _ _ h => h) (Or.inl ⟨by kernel_rfl, ?zy140002⟩) (by assumption) ?zr140002
      case zy140002 => (intro w hSw; (try dsimp only at hSw); go_simp; try with_reducible rfl)
      change wpAnyH _ _ _ _ _ _ _ (Act.put _ (some 61) _) _
      simp only [Act.put, List.setIfInBounds_toArray, List.set_cons_zero, List.set_cons_succ]
      refine wpAnyH_take (i := 6) (v := ?zv140003) rfl (by kernel_rfl) (by kernel_rfl) (by kernel_rfl) (fun _ _ _ h => h) (Or.inl ⟨by kernel_rfl, ?zy140003⟩) (by assumption) ?zr140003
      case zy140003 => (intro w hSw; (try dsimp only at hSw); go_simp; try with_reducible rfl)
      change wpAnyH _ _ _ _ _ _ _ (Act.put _ (some 64) _) _
      simp only [Act.put, List.setIfInBounds_toArray, List.set_cons_zero, List.set_cons_succ]
      refine wpAnyH_take (i := 7) (v := ?zv140004) rfl (by kernel_rfl) (by kernel_rfl) (by kernel_rfl) (fun _ _ _ h => h) (Or.inl ⟨by kernel_rfl, ?zy140004⟩) (by assumption) ?zr140004
      case zy140004 => (intro w hSw; (try dsimp only at hSw); go_simp; try with_reducible rfl)
      change wpAnyH _ _ _ _ _ _ _ (Act.put _ (some 65) _) _
      simp only [Act.put, List.setIfInBounds_toArray, List.set_cons_zero, List.set_cons_succ]
      refine wpAnyH_take (i := 9) (v := ?zv140005) rfl (by kernel_rfl) (by kernel_rfl) (by kernel_rfl) (fun _ _ _ h => h) (Or.inl ⟨by kernel_rfl, ?zy140005⟩) (by assumption) ?zr140005
      case zy140005 => (intro w hSw; (try dsimp only at hSw); go_simp; try with_reducible rfl)
      change wpAnyH _ _ _ _ _ _ _ (Act.put _ (some 67) _) _
      simp only [Act.put, List.setIfInBounds_toArray, List.set_cons_zero, List.set_cons_succ]
      refine wpAnyH_take (i := 1) (v := ?zv140006) rfl (by kernel_rfl) (by kernel_rfl) (by kernel_rfl) (fun _ _ _ h => h) (Or.inl ⟨by kernel_rfl, ?zy140006⟩) (by assumption) ?zr140006
      case zy140006 => (intro w hSw; (try dsimp only at hSw); go_simp; try with_reducible rfl)
      change wpAnyH _ _ _ _ _ _ _ (Act.put _ (some 59) _) _
      simp only [Act.put, List.setIfInBounds_toArray, List.set_cons_zero, List.set_cons_succ]
      refine wpAnyH_take (i := 4) (v := ?zv140007) rfl (by kernel_rfl) (by kernel_rfl) (by kernel_rfl) (fun _ _ _ h => h) (Or.inl ⟨by kernel_rfl, ?zy140007⟩) (by assumption) ?zr140007
      case zy140007 => (intro w hSw; (try dsimp only at hSw); go_simp; try with_reducible rfl)
      change wpAnyH _ _ _ _ _ _ _ (Act.put _ (some 62) _) _
      simp only [Act.put, List.setIfInBounds_toArray, List.set_cons_zero, List.set_cons_succ]
      refine wpAnyH_take (i := 2) (v := ?zv140008) rfl (by kernel_rfl) (by kernel_rfl) (by kernel_rfl) (fun _ _ _ h => h) (Or.inl ⟨by kernel_rfl, ?zy140008⟩) (by assumption) ?zr140008
      case zy140008 => (intro w hSw; (try dsimp only at hSw); go_simp; try with_reducible rfl)
      change wpAnyH _ _ _ _ _ _ _ (Act.put _ (some 60) _) _
      simp only [Act.put, List.setIfInBounds_toArray, List.set_cons_zero, List.set_cons_succ]
      refine wpAnyH_take (i := 5) (v := ?zv140009) rfl (by kernel_rfl) (by kernel_rfl) (by kernel_rfl) (fun _ _ _ h => h) (Or.inl ⟨by kernel_rfl, ?zy140009⟩) (by assumption) ?zr140009
      case zy140009 => (intro w hSw; (try dsimp only at hSw); go_simp; try with_reducible rfl)
      change wpAnyH _ _ _ _ _ _ _ (Act.put _ (some 63) _) _
      simp only [Act.put, List.setIfInBounds_toArray, List.set_cons_zero, List.set_cons_succ]
      refine wpAnyH_ready (rs := [8]) (by kernel_rfl) (by simp) (AllReadyH.cons rfl (fun K hK => ?zo140010_0) AllReadyH.nil)
      case zo140010_0 =>
        go_simp
        go_at_call 15
        refine (CTX.out U0).mono ?_
        rintro e U1 ⟨rfl, hb1⟩
        have KF1 := Lib.hid (KF0.out.below hb1 KF0.out.lt)
        have HO1 := Lib.hid (HO0.out.below hb1)
        have HY1 : Hid (Below w.heap.size w U1) := HY0.out.trans (hb1.mono HY0.out.size)
        have HX1 : Hid (Below w1.heap.size w1 U1) := HX0.out.trans (hb1.mono HX0.out.size)
        clear hb1
        refine hK.out _ _ (feed_cells KF1.out) (fun hHeld => ?_)
        clear hK K
        (try simp only [Act.put, List.setIfInBounds_toArray, List.set_cons_zero, List.set_cons_succ])
        refine wpAnyH_ready (rs := [10]) (by kernel_rfl) (by simp) (AllReadyH.cons rfl (fun K hK => ?zo140011_0) AllReadyH.nil)
        case zo140011_0 =>
          go_simp
          go_at_call 14
          refine (CTR.out _ HX1.out).mono ?_
          rintro e U2 ⟨rfl, hb2⟩
          have KF2 := Lib.hid (KF1.out.below hb2 KF1.out.lt)
          have HO2 := Lib.hid (HO1.out.below hb2)
          have HY2 : Hid (Below w.heap.size w U2) := HY1.out.trans (hb2.mono HY1.out.size)
          have HX2 : Hid (Below w1.heap.size w1 U2) := HX1.out.trans (hb2.mono HX1.out.size)
          clear hb2
          refine hK.out _ _ (feed_cells KF2.out) (fun hHeld => ?_)
          clear hK K
          (try simp only [Act.put, List.setIfInBounds_toArray, List.set_cons_zero, List.set_cons_succ])
          refine wpAnyH_take (i := 11) (v := ?zv140012) rfl (by kernel_rfl) (by kernel_rfl) (by kernel_rfl) (fun _ _ _ h => h) (Or.inl ⟨by kernel_rfl, ?zy140012⟩) (by assumption) ?zr140012
          case zy140012 => (intro w hSw; (try dsimp only at hSw); go_simp; try with_reducible rfl)
          change wpAnyH _ _ _ _ _ _ _ (Act.put _ (some 2) _) _
          simp only [Act.put, List.setIfInBounds_toArray, List.set_cons_zero, List.set_cons_succ]
          refine wpAnyH_done (by kernel_rfl) ?_ _
          go_wp2
          go_ret
          exact ⟨rfl, HY2.out⟩
  · have h9 : 1048576 < len := by omega
    clear hlen
    go_enter Tryd.func4, Tryd.ntmps4
    go_wp2
    go_ret
    exact ⟨rfl, Below.refl _ _⟩

end Go.Proofs.YtgklkceoafohmaaDoor
