/- The walk of FnFeedHeadSelf: it returns true and changes nothing that was there. Condition: the codes' bytes lie in memory. -/
import Derived.Test.YtgpmodidpdjhkaaDrawFeed
import Derived.Test.YtgpmodidpdjhkaaFeedProve
import Derived.Test.YtgpmodidpdjhkaaSame
import Derived.Test.YtgpmodidpdjhkaaBaseG
import Derived.Test.YtgpmodidpdjhkaaBaseD
namespace Go.Proofs.Ytgpmodidpdjhkaa
open Go.RowKit
set_option linter.unusedVariables false

set_option maxHeartbeats 8000000 in
set_option maxRecDepth 100000 in
theorem walkFeedHeadSelf (A : Option Addr) (len cap : Nat) (A9 : Option Addr) (len1 cap1 : Nat) (w : World) (hI : In w A len cap) (hI1 : In w A9 len1 cap1) :
    Calls Try.prog 6 #[.slice A len cap, .slice A9 len1 cap1] w fun e w' => e = .returned (.bool true) ∧ Below w.heap.size w w' := by
  have hm := hI.len_le
  have hm1 := hI1.len_le
  unfold maxLen at hm hm1
  have HI := Lib.hid hI
  clear hI hI1
  by_cases hlen : len ≤ 1048576
  · by_cases hlen1 : len1 ≤ 1048576
    · go_enter Try.func6, Try.ntmps6
      go_wp2_with fail
      refine (drawFeedProve_any A len cap _ HI.out).mono ?_
      rintro e w1 ⟨p, l, d, s, A1, c1, A2, c2, bs, hs, i, rfl, ho1, hlb, hlh, hi0, hi1, hb1⟩
      have HB1 := Lib.hid hb1
      have HF := Lib.hid ho1.at_
      obtain ⟨V, HV⟩ : ∃ V, Hid (w1.alloc (.cells (feedC p l d s A1 bs.length c1 A2 hs.length c2) 29) = V) := ⟨_, rfl⟩
      have HBV : Hid (Below w1.heap.size w1 V) := by rw [← HV.out]; exact (Below.refl _ w1).alloc (Nat.le_refl _) _
      have KV : Hid (Blk V w1.heap.size 29 (feedC p l d s A1 bs.length c1 A2 hs.length c2)) := by rw [← HV.out]; exact Blk.new w1 _ _
      have CV : Hid (∀ U, Below w1.heap.size w1 U → Calls Try.prog 21 #[feedV p l d s A1 bs.length c1 A2 hs.length c2, .int .i64 i] U (ProveRet U (proveL ⟨p, l, d, s, bs, hs⟩ i) (proveOk ⟨p, l, d, s, bs, hs⟩ i))) := fun U hU => feedProve_any p l d s A1 c1 A2 c2 bs hs i U (HF.out.belowS hU)
      have CS : Hid (∀ U, Below w1.heap.size w1 U → Calls Try.prog 22 #[feedV p l d s A1 bs.length c1 A2 hs.length c2, .int .i64 i] U (ProveRet U (proveL ⟨p, l, d, s, bs, hs⟩ i) (proveOk ⟨p, l, d, s, bs, hs⟩ i))) := fun U hU => sfeedProve_any p l d s A1 c1 A2 c2 bs hs i U (HF.out.belowS hU)
      have CL : Hid (∀ U, Below w1.heap.size w1 U → Calls Try.prog 19 #[.slice A1 bs.length c1] U (RetInts U (leafL bs))) := fun U hU => leavesOf_any A1 c1 bs U (HF.out.belowS hU).strs HF.out.fit (by omega)
      have HLL : Hid ((leafL bs).length = bs.length) := leafL_length bs
      have HZS : Hid ((proveL ⟨p, l, d, s, bs, hs⟩ i).length ≤ maxLen) := by
        show _ ≤ _
        unfold proveL
        split
        · exact Nat.le_trans (proofOr_short _ _) (by unfold maxLen; omega)
        · simp
      obtain ⟨Z, HZ⟩ : ∃ Z, Hid (proveL ⟨p, l, d, s, bs, hs⟩ i = Z) := ⟨_, rfl⟩
      obtain ⟨R, HR⟩ : ∃ R, Hid (proveOk ⟨p, l, d, s, bs, hs⟩ i = R) := ⟨_, rfl⟩
      rw [HZ.out] at CV CS HZS
      rw [HR.out] at CV CS
      have hne : (R != R) = false := by simp
      have heq : (R == R) = true := by simp
      obtain ⟨m, HM⟩ : ∃ m, Hid (bs.length = m) := ⟨_, rfl⟩
      obtain ⟨n, HN⟩ : ∃ n, Hid (hs.length = n) := ⟨_, rfl⟩
      rw [HM.out] at CV CS CL HLL HV KV hlb ⊢
      rw [HN.out] at CV CS HV KV hlh ⊢
      clear ho1 hb1
      go_wp2_with fail
      rw [HV.out]
      refine (CV.out _ HBV.out).mono ?_
      rintro e w2 ⟨X2, e2, rfl, ho2, hb2⟩
      have K2 := Lib.hid (KV.out.below hb2 KV.out.lt)
      have HB2 : Hid (Below w1.heap.size w1 w2) := HBV.out.trans (hb2.mono HBV.out.size)
      have HO2 := Lib.hid ho2
      obtain ⟨k0, k1, k2, k3, k4, k5⟩ := feed_cells K2.out
      clear hb2 ho2
      go_wp2_with fail
      refine (CS.out _ HB2.out).mono ?_
      rintro e w3 ⟨X3, e3, rfl, ho3, hb3⟩
      have K3 := Lib.hid (K2.out.below hb3 K2.out.lt)
      have HB3 : Hid (Below w1.heap.size w1 w3) := HB2.out.trans (hb3.mono HB2.out.size)
      have HB3w : Hid (Below w.heap.size w w3) := HB1.out.trans (HB3.out.mono HB1.out.size)
      have HO23 := Lib.hid (HO2.out.below hb3)
      have HO3 := Lib.hid ho3
      clear hb3 ho3 k0 k1 k2 k3 k4 k5
      have CE : Hid (∀ q, Calls Try.prog 23 #[.slice X2 Z.length e2, .slice X3 Z.length e3] (w3.drewN q) fun e w' => e = .returned (.bool true) ∧ ∃ q', w' = (w3.drewN q).drewN q') := fun q => by
        have h := same_any X2 e2 Z X3 e3 Z (w3.drewN q) (HO23.out.ints.drewN q) (HO3.out.ints.drewN q) HZS.out HZS.out
        rw [deci_same] at h
        exact h
      cases hR : R with
      | false =>
        subst hR
        go_wp2_with fail
        refine (CE.out 0).mono ?_
        rintro e w4 ⟨rfl, q1, rfl⟩
        rw [show (w3.drewN 0).drewN q1 = w3.drewN q1 from by rw [World.drewN_drewN, Nat.zero_add]]
        go_wp2_with fail
        refine (CE.out q1).mono ?_
        rintro e w5 ⟨rfl, q2, rfl⟩
        go_wp2
        go_ret
        exact ⟨rfl, below_drewN HB3w.out _⟩
      | true =>
        subst hR
        obtain ⟨hok, hwh, _, _⟩ := (proveOk_iff _ _).1 HR.out
        have h16 : m ≤ 16 := by have h2 : bs.length ≤ 16 := hok.len.1; rw [HM.out] at h2; exact h2
        have hlv : leavesB (leafL bs) = true := hok.leaves
        have hdg : digestOr (leafL bs) = d := hok.2.2.2.2 hwh
        obtain ⟨hl16, hds⟩ := leavesB_yes hlv
        have hm0 : 0 < m := by
          have h2 := ((wholeB_iff hs).1 hwh).1
          have h3 : hs.length = bs.length := hok.len.2
          rw [h3, HM.out] at h2
          exact h2
        obtain ⟨k, HKK⟩ : ∃ k, Hid (len1 % (m + 1) = k) := ⟨_, rfl⟩
        have hkm : k ≤ m := by rw [← HKK.out]; have := Nat.mod_lt len1 (show 0 < m + 1 by omega); omega
        have hmod : (len1 : Int) % ((m : Int) + 1) = (k : Int) := by rw [← HKK.out]; rfl
        have hmodt : (len1 : Int).tmod ((m : Int) + 1) = (k : Int) := by rw [← HKK.out]; exact tmod_nat len1 (m + 1)
        have hacc := growth_accept (leafL bs) k hl16 (by rw [HLL.out]; exact hkm) hds
        rw [← growthOr_yes hlv (by rw [HLL.out]; exact hkm), ← digestOr_of hl16 hds, ← digestOr_of (by rw [List.length_take]; omega) (hds.take k), hdg, HLL.out] at hacc
        obtain ⟨u, HU⟩ : ∃ u, Hid (digestOr ((leafL bs).take k) = u) := ⟨_, rfl⟩
        rw [HU.out] at hacc
        obtain ⟨G, HG⟩ : ∃ G, Hid (growthOr (leafL bs) (k : Int) = G) := ⟨_, rfl⟩
        rw [HG.out] at hacc
        have HACC := Lib.hid hacc
        have HLV := Lib.hid hlv
        clear hok hwh hlv hdg hds hl16 hacc
        go_wp2_with fail
        refine (CE.out 0).mono ?_
        rintro e w4 ⟨rfl, q1, rfl⟩
        have K4 : Hid (Blk ((w3.drewN 0).drewN q1) w1.heap.size 29 (feedC p l d s A1 m c1 A2 n c2)) := K3.out
        have HB4 : Hid (Below w1.heap.size w1 ((w3.drewN 0).drewN q1)) := below_drewN (below_drewN HB3.out 0) q1
        obtain ⟨Y, HY⟩ : ∃ Y, Hid ((w3.drewN 0).drewN q1 = Y) := ⟨_, rfl⟩
        rw [HY.out] at K4 HB4 ⊢
        obtain ⟨k0, k1, k2, k3, k4, k5⟩ := feed_cells K4.out
        go_wp2_with fail
        refine (CL.out _ HB4.out).mono ?_
        rintro e w5 ⟨X5, e5, rfl, ho5, hb5⟩
        rw [HLL.out]
        obtain ⟨y, hX⟩ := OwnInts.some_ ho5 (by rw [HLL.out]; omega)
        subst hX
        have HO5 := Lib.hid ho5
        have HB5 : Hid (Below w1.heap.size w1 w5) := HB4.out.trans (hb5.mono HB4.out.size)
        have K5 := Lib.hid (K4.out.below hb5 K4.out.lt)
        have hle := ho5.le
        rw [HLL.out] at hle
        have hle2 := hle.2
        unfold maxLen at hle2
        have CGR : Hid (Calls Try.prog 24 #[.slice (some ⟨y, 0, none⟩) m e5, .int .i64 (k : Int)] w5 (RetInts w5 G)) := by
          have h := growth_any (leafL bs) k y 0 e5 w5 ho5.ints ho5.le.1 ho5.le.2
          rw [HLL.out, HG.out] at h
          exact h
        clear hb5 ho5 k0 k1 k2 k3 k4 k5
        go_wp2_with fail
        refine CGR.out.mono ?_
        rintro e w6 ⟨X6, e6, rfl, ho6, hb6⟩
        have HO6 := Lib.hid ho6
        have HO56 := Lib.hid (HO5.out.below hb6)
        have HB6 : Hid (Below w1.heap.size w1 w6) := HB5.out.trans (hb6.mono HB5.out.size)
        have K6 := Lib.hid (K5.out.below hb6 K5.out.lt)
        have HB6z : Hid (Below w6.heap.size w6 w6.drew) := below_drew (Below.refl _ _)
        have CD : Hid (∀ U, Below w6.heap.size w6 U → Calls Try.prog 18 #[.slice (some ⟨y, 0, none⟩) k e5] U fun e w' => e = .returned (.int .i64 u) ∧ Below U.heap.size U w') := fun U hU => by
          have h := digest_any ((leafL bs).take k) y 0 e5 U ((HO56.out.below hU).ints.first k) (by rw [List.length_take]; omega) HO56.out.le.2
          rw [HU.out, show ((leafL bs).take k).length = k by rw [List.length_take, HLL.out]; omega] at h
          exact h
        have CG : Hid (∀ U, Below w6.heap.size w6 U → Calls Try.prog 25 #[.int .i64 (k : Int), .int .i64 u, .int .i64 (m : Int), .int .i64 d, .slice X6 G.length e6] U fun e w' => e = .returned (.bool true) ∧ Below U.heap.size U w') := fun U hU => by
          have h := gcheck_any G (k : Int) u (m : Int) d X6 e6 U (HO6.out.below hU).ints HO6.out.le.1 HO6.out.le.2
          rw [HACC.out] at h
          exact h
        obtain ⟨k0, k1, k2, k3, k4, k5⟩ := feed_cells K6.out
        have hki : (k : Int) ≤ (e5 : Int) := by omega
        have hk00 : (0 : Int) ≤ (k : Int) := by omega
        have hki2 : (k : Int) ≤ (m : Int) := by omega
        clear hb6 ho6
        go_wp2_with fail
        refine wp_region_held_drew (S := (fun w' => w'.cell? ⟨w1.heap.size, 0, none⟩ = some (.int .i64 p) ∧ w'.cell? ⟨w1.heap.size, 1, none⟩ = some (.int .i64 l) ∧ w'.cell? ⟨w1.heap.size, 2, none⟩ = some (.int .i64 d) ∧ w'.cell? ⟨w1.heap.size, 3, none⟩ = some (.int .i64 s) ∧ w'.cell? ⟨w1.heap.size, 4, none⟩ = some (.slice A1 m c1) ∧ w'.cell? ⟨w1.heap.size, 5, none⟩ = some (.slice A2 n c2))) (by kernel_rfl) (feed_cells K6.out) (fun hHeld => ?_)
        refine wpAnyH_take (i := 0) (v := ?zv1) rfl (by kernel_rfl) (by kernel_rfl) (by kernel_rfl) (fun _ _ _ h => h) (Or.inl ⟨by kernel_rfl, ?zy1⟩) (by assumption) ?zr1
        case zy1 => (intro w hSw; (try dsimp only at hSw); go_simp; try with_reducible rfl)
        change wpAnyH _ _ _ _ _ _ _ (Act.put _ (some 72) _) _
        simp only [Act.put, List.setIfInBounds_toArray, List.set_cons_zero, List.set_cons_succ]
        refine wpAnyH_take (i := 1) (v := ?zv2) rfl (by kernel_rfl) (by kernel_rfl) (by kernel_rfl) (fun _ _ _ h => h) (Or.inl ⟨by kernel_rfl, ?zy2⟩) (by assumption) ?zr2
        case zy2 => (intro w hSw; (try dsimp only at hSw); go_simp; try with_reducible rfl)
        change wpAnyH _ _ _ _ _ _ _ (Act.put _ (some 73) _) _
        simp only [Act.put, List.setIfInBounds_toArray, List.set_cons_zero, List.set_cons_succ]
        refine wpAnyH_take (i := 2) (v := ?zv3) rfl (by kernel_rfl) (by kernel_rfl) (by kernel_rfl) (fun _ _ _ h => h) (Or.inl ⟨by kernel_rfl, ?zy3⟩) (by assumption) ?zr3
        case zy3 => (intro w hSw; (try dsimp only at hSw); go_simp; try with_reducible rfl)
        change wpAnyH _ _ _ _ _ _ _ (Act.put _ (some 74) _) _
        simp only [Act.put, List.setIfInBounds_toArray, List.set_cons_zero, List.set_cons_succ]
        refine wpAnyH_take (i := 3) (v := ?zv4) rfl (by kernel_rfl) (by kernel_rfl) (by kernel_rfl) (fun _ _ _ h => h) (Or.inl ⟨by kernel_rfl, ?zy4⟩) (by assumption) ?zr4
        case zy4 => (intro w hSw; (try dsimp only at hSw); go_simp; try with_reducible rfl)
        change wpAnyH _ _ _ _ _ _ _ (Act.put _ (some 75) _) _
        simp only [Act.put, List.setIfInBounds_toArray, List.set_cons_zero, List.set_cons_succ]
        refine wpAnyH_take (i := 5) (v := ?zv5) rfl (by kernel_rfl) (by kernel_rfl) (by kernel_rfl) (fun _ _ _ h => h) (Or.inl ⟨by kernel_rfl, ?zy5⟩) (by assumption) ?zr5
        case zy5 => (intro w hSw; (try dsimp only at hSw); go_simp; try with_reducible rfl)
        change wpAnyH _ _ _ _ _ _ _ (Act.put _ (some 77) _) _
        simp only [Act.put, List.setIfInBounds_toArray, List.set_cons_zero, List.set_cons_succ]
        refine wpAnyH_take (i := 6) (v := ?zv6) rfl (by kernel_rfl) (by kernel_rfl) (by kernel_rfl) (fun _ _ _ h => h) (Or.inl ⟨by kernel_rfl, ?zy6⟩) (by assumption) ?zr6
        case zy6 => (intro w hSw; (try dsimp only at hSw); go_simp; try with_reducible rfl)
        change wpAnyH _ _ _ _ _ _ _ (Act.put _ (some 78) _) _
        simp only [Act.put, List.setIfInBounds_toArray, List.set_cons_zero, List.set_cons_succ]
        refine wpAnyH_take (i := 7) (v := ?zv7) rfl (by kernel_rfl) (by kernel_rfl) (by kernel_rfl) (fun _ _ _ h => h) (Or.inl ⟨by kernel_rfl, ?zy7⟩) (by assumption) ?zr7
        case zy7 => (intro w hSw; (try dsimp only at hSw); go_simp; try with_reducible rfl)
        change wpAnyH _ _ _ _ _ _ _ (Act.put _ (some 79) _) _
        simp only [Act.put, List.setIfInBounds_toArray, List.set_cons_zero, List.set_cons_succ]
        refine wpAnyH_take (i := 8) (v := ?zv8) rfl (by kernel_rfl) (by kernel_rfl) (by kernel_rfl) (fun _ _ _ h => h) (Or.inl ⟨by kernel_rfl, ?zy8⟩) (by assumption) ?zr8
        case zy8 => (intro w hSw; (try dsimp only at hSw); go_simp; try with_reducible rfl)
        change wpAnyH _ _ _ _ _ _ _ (Act.put _ (some 80) _) _
        simp only [Act.put, List.setIfInBounds_toArray, List.set_cons_zero, List.set_cons_succ]
        refine wpAnyH_take (i := 9) (v := ?zv9) rfl (by kernel_rfl) (by kernel_rfl) (by kernel_rfl) (fun _ _ _ h => h) (Or.inl ⟨by kernel_rfl, ?zy9⟩) (by assumption) ?zr9
        case zy9 => (intro w hSw; (try dsimp only at hSw); go_simp; try with_reducible rfl)
        change wpAnyH _ _ _ _ _ _ _ (Act.put _ (some 81) _) _
        simp only [Act.put, List.setIfInBounds_toArray, List.set_cons_zero, List.set_cons_succ]
        refine wpAnyH_take (i := 10) (v := ?zv10) rfl (by kernel_rfl) (by kernel_rfl) (by kernel_rfl) (fun _ _ _ h => h) (Or.inl ⟨by kernel_rfl, ?zy10⟩) (by assumption) ?zr10
        case zy10 => (intro w hSw; (try dsimp only at hSw); go_simp; try with_reducible rfl)
        change wpAnyH _ _ _ _ _ _ _ (Act.put _ (some 82) _) _
        simp only [Act.put, List.setIfInBounds_toArray, List.set_cons_zero, List.set_cons_succ]
        refine wpAnyH_ready (rs := [4]) (by kernel_rfl) (by simp) (AllReadyH.cons rfl (fun K hK => ?_) AllReadyH.nil)
        go_simp
        go_at_call 18
        refine (CD.out _ HB6z.out).mono ?_
        rintro e w7 ⟨rfl, hb7⟩
        have HB7 : Hid (Below w6.heap.size w6 w7) := below_drew_l hb7
        have K7 := Lib.hid (K6.out.below HB7.out K6.out.lt)
        clear hb7
        refine hK.out _ _ (feed_cells K7.out) (fun hHeld => ?_)
        clear hK K
        (try simp only [Act.put, List.setIfInBounds_toArray, List.set_cons_zero, List.set_cons_succ])
        refine wpAnyH_ready (rs := [11]) (by kernel_rfl) (by simp) (AllReadyH.cons rfl (fun K hK => ?_) AllReadyH.nil)
        go_simp
        go_at_call 25
        refine (CG.out _ HB7.out).mono ?_
        rintro e w8 ⟨rfl, hb8⟩
        have HB8 := Lib.hid hb8
        have K8 := Lib.hid (K7.out.below HB8.out K7.out.lt)
        clear hb8
        refine hK.out _ _ (feed_cells K8.out) (fun hHeld => ?_)
        clear hK K
        (try simp only [Act.put, List.setIfInBounds_toArray, List.set_cons_zero, List.set_cons_succ])
        refine wpAnyH_take (i := 12) (v := ?zv11) rfl (by kernel_rfl) (by kernel_rfl) (by kernel_rfl) (fun _ _ _ h => h) (Or.inl ⟨by kernel_rfl, ?zy11⟩) (by assumption) ?zr11
        case zy11 => (intro w hSw; (try dsimp only at hSw); go_simp; try with_reducible rfl)
        change wpAnyH _ _ _ _ _ _ _ (Act.put _ (some 4) _) _
        simp only [Act.put, List.setIfInBounds_toArray, List.set_cons_zero, List.set_cons_succ]
        refine wpAnyH_done (by kernel_rfl) ?_ _
        go_wp2
        go_ret
        exact ⟨rfl, HB1.out.trans ((HB6.out.trans ((HB7.out.mono HB6.out.size).trans (HB8.out.mono (Nat.le_trans HB6.out.size HB7.out.size)))).mono HB1.out.size)⟩
    · have h9 : 1048576 < len1 := by omega
      clear hlen1
      go_enter Try.func6, Try.ntmps6
      go_wp2
      go_ret
      exact ⟨rfl, Below.refl _ _⟩
  · have h9 : 1048576 < len := by omega
    clear hlen
    go_enter Try.func6, Try.ntmps6
    go_wp2
    go_ret
    exact ⟨rfl, Below.refl _ _⟩

end Go.Proofs.Ytgpmodidpdjhkaa
