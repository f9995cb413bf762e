/- The walk of FnProve: it returns true and changes nothing that was there. Condition: the codes' bytes lie in memory. -/
import Derived.Test.YtnffmmaclmeajaaDoorDrawFeed
import Derived.Test.YtnffmmaclmeajaaDoorFeedProve
import Derived.Test.YtnffmmaclmeajaaDoorSame
import Derived.Test.YtnffmmaclmeajaaDoorBaseK
import Derived.Test.YtnffmmaclmeajaaDoorPutMath
import Derived.Test.YtnffmmaclmeajaaDoorProofLaws
namespace Go.Proofs.YtnffmmaclmeajaaDoor
open Go.RowKit
set_option linter.unusedVariables false

set_option maxHeartbeats 8000000 in
set_option maxRecDepth 100000 in
theorem walkProve (A : Option Addr) (len cap : Nat) (w : World) (hTab : Tab w) (hI : In w A len cap) :
    Calls Tryd.prog 7 #[.slice A len cap] w fun e w' => e = .returned (.bool true) ∧ Below w.heap.size w w' := by
  have hm := hI.len_le
  unfold maxLen at hm
  have HI := Lib.hid hI
  have HTB := Lib.hid hTab
  clear hI hTab
  by_cases hlen : len ≤ 1048576
  · go_enter Tryd.func7, Tryd.ntmps7
    go_wp2_with fail
    refine (drawFeedProve_any A len cap _ HI.out).mono ?_
    rintro e w1 ⟨p, l, d, s, A1, c1, A2, c2, bs, hs, i, rfl, ho1, hlb, hlh, hi0, hi1, hb1⟩
    have HB1 := Lib.hid hb1
    have HF := Lib.hid ho1.at_
    obtain ⟨V, HV⟩ : ∃ V, Hid (w1.alloc (.cells (feedC p l d s A1 bs.length c1 A2 hs.length c2) 28) = V) := ⟨_, rfl⟩
    have HBV : Hid (Below w1.heap.size w1 V) := by rw [← HV.out]; exact (Below.refl _ w1).alloc (Nat.le_refl _) _
    have KV : Hid (Blk V w1.heap.size 28 (feedC p l d s A1 bs.length c1 A2 hs.length c2)) := by rw [← HV.out]; exact Blk.new w1 _ _
    have CV : Hid (∀ U, Below w1.heap.size w1 U → Calls Tryd.prog 19 #[feedV p l d s A1 bs.length c1 A2 hs.length c2, .int .i64 i] U (ProveRet U (proveL ⟨p, l, d, s, bs, hs⟩ i) (proveOk ⟨p, l, d, s, bs, hs⟩ i))) := fun U hU => feedProve_any p l d s A1 c1 A2 c2 bs hs i U (HF.out.belowS hU)
    have CS : Hid (∀ U, Below w1.heap.size w1 U → Calls Tryd.prog 21 #[feedV p l d s A1 bs.length c1 A2 hs.length c2, .int .i64 i] U (ProveRet U (proveL ⟨p, l, d, s, bs, hs⟩ i) (proveOk ⟨p, l, d, s, bs, hs⟩ i))) := fun U hU => sfeedProve_any p l d s A1 c1 A2 c2 bs hs i U (HF.out.belowS hU)
    have HZS : Hid ((proveL ⟨p, l, d, s, bs, hs⟩ i).length ≤ maxLen) := by
      show _ ≤ _
      unfold proveL
      split
      · exact Nat.le_trans (proofOr_short _ _) (by unfold maxLen; omega)
      · simp
    obtain ⟨Z, HZ⟩ : ∃ Z, Hid (proveL ⟨p, l, d, s, bs, hs⟩ i = Z) := ⟨_, rfl⟩
    obtain ⟨R, HR⟩ : ∃ R, Hid (proveOk ⟨p, l, d, s, bs, hs⟩ i = R) := ⟨_, rfl⟩
    rw [HZ.out] at CV CS HZS
    rw [HR.out] at CV CS
    have hne : (R != R) = false := by simp
    have heq : (R == R) = true := by simp
    obtain ⟨m, HM⟩ : ∃ m, Hid (bs.length = m) := ⟨_, rfl⟩
    obtain ⟨n, HN⟩ : ∃ n, Hid (hs.length = n) := ⟨_, rfl⟩
    rw [HM.out] at CV CS HV KV hlb ⊢
    rw [HN.out] at CV CS HV KV hlh ⊢
    clear ho1 hb1
    go_wp2_with fail
    rw [HV.out]
    refine (CV.out _ HBV.out).mono ?_
    rintro e w2 ⟨X2, e2, rfl, ho2, hb2⟩
    have K2 := Lib.hid (KV.out.below hb2 KV.out.lt)
    have HB2 : Hid (Below w1.heap.size w1 w2) := HBV.out.trans (hb2.mono HBV.out.size)
    have HO2 := Lib.hid ho2
    obtain ⟨k0, k1, k2, k3, k4, k5⟩ := feed_cells K2.out
    clear hb2 ho2
    go_wp2_with fail
    refine (CS.out _ HB2.out).mono ?_
    rintro e w3 ⟨X3, e3, rfl, ho3, hb3⟩
    have K3 := Lib.hid (K2.out.below hb3 K2.out.lt)
    have HB3 : Hid (Below w1.heap.size w1 w3) := HB2.out.trans (hb3.mono HB2.out.size)
    have HB3w : Hid (Below w.heap.size w w3) := HB1.out.trans (HB3.out.mono HB1.out.size)
    have HO23 := Lib.hid (HO2.out.below hb3)
    have HO3 := Lib.hid ho3
    clear hb3 ho3 k0 k1 k2 k3 k4 k5
    have CE : Hid (∀ q, Calls Tryd.prog 22 #[.slice X2 Z.length e2, .slice X3 Z.length e3] (w3.drewN q) fun e w' => e = .returned (.bool true) ∧ ∃ q', w' = (w3.drewN q).drewN q') := fun q => by
      have h := same_any X2 e2 Z X3 e3 Z (w3.drewN q) (HO23.out.ints.drewN q) (HO3.out.ints.drewN q) HZS.out HZS.out
      rw [deci_same] at h
      exact h
    cases hR : R with
    | false =>
      subst hR
      go_wp2_with fail
      refine (CE.out 0).mono ?_
      rintro e w4 ⟨rfl, q1, rfl⟩
      rw [show (w3.drewN 0).drewN q1 = w3.drewN q1 from by rw [World.drewN_drewN, Nat.zero_add]]
      go_wp2_with fail
      refine (CE.out q1).mono ?_
      rintro e w5 ⟨rfl, q2, rfl⟩
      go_wp2
      go_ret
      exact ⟨rfl, below_drewN HB3w.out _⟩
    | true =>
      subst hR
      obtain ⟨hok, hwh, hi00, hi01⟩ := (proveOk_iff _ _).1 HR.out
      have hi02 : i < (bs.length : Int) := hi01
      rw [HM.out] at hi02
      obtain ⟨k, hk⟩ : ∃ k : Nat, i = (k : Int) := ⟨i.toNat, by omega⟩
      subst hk
      have hkm : k < m := by omega
      have hacc : treeOkB d l (k : Int) (textOr (sth bs k)) Z = true := by
        have h := (prove_ok HR.out).1
        rw [HZ.out] at h
        exact h
      obtain ⟨t, HTX⟩ : ∃ t, Hid (sth bs k = t) := ⟨_, rfl⟩
      have hfk := HF.out.fit k
      rw [HTX.out] at hacc hfk
      have HFK := Lib.hid hfk
      have hpos : 0 < bs.length := by rw [HM.out]; omega
      obtain ⟨b, o, rfl, hb, hcell⟩ := HF.out.strs.at_ hpos
      have HTC : Hid (∀ U, Below w1.heap.size w1 U → U.cell? ⟨b, o + k, none⟩ = some (.string t)) := fun U hU => by
        have h := ((HF.out.belowS hU).strs.lt hpos).2 k (by rw [HM.out]; exact hkm)
        rw [HTX.out] at h
        exact h
      have hk0 : (0 : Int) ≤ (k : Int) := by omega
      have hki : (k : Int) < (m : Int) := by omega
      clear hok hwh hcell hfk
      go_wp2_with fail
      refine (CE.out 0).mono ?_
      rintro e w4 ⟨rfl, q1, rfl⟩
      have K4 : Hid (Blk ((w3.drewN 0).drewN q1) w1.heap.size 28 (feedC p l d s (some ⟨b, o, none⟩) m c1 A2 n c2)) := K3.out
      have HB4 : Hid (Below w1.heap.size w1 ((w3.drewN 0).drewN q1)) := below_drewN (below_drewN HB3.out 0) q1
      have HO4 := Lib.hid ((HO23.out.drewN 0).drewN q1)
      obtain ⟨Y, HY⟩ : ∃ Y, Hid ((w3.drewN 0).drewN q1 = Y) := ⟨_, rfl⟩
      rw [HY.out] at K4 HB4 HO4 ⊢
      have HBW : Hid (Below w.heap.size w Y) := HB1.out.trans (HB4.out.mono HB1.out.size)
      have CT : Hid (∀ U, Below Y.heap.size Y U → Calls Tryd.prog 17 #[.int .i64 d, .int .i64 l, .int .i64 (k : Int), .int .i64 (textOr t), .slice X2 Z.length e2] U fun e w' => e = .returned (.bool true) ∧ Below U.heap.size U w') := fun U hU => by
        have h := tcheck_any d l (k : Int) (textOr t) Z X2 e2 U (HTB.out.below (HBW.out.trans (hU.mono HBW.out.size))) (HO4.out.below hU).ints HO4.out.formA HO4.out.le.1 HO4.out.le.2
        rw [hacc] at h
        exact h
      have tc := HTC.out _ HB4.out
      obtain ⟨k0, k1, k2, k3, k4, k5⟩ := feed_cells K4.out
      (try go_wp2_with fail)
      refine wp_region_held_drew (S := (fun w' => w'.cell? ⟨w1.heap.size, 1, none⟩ = some (.int .i64 l) ∧ w'.cell? ⟨w1.heap.size, 2, none⟩ = some (.int .i64 d) ∧ w'.cell? ⟨w1.heap.size, 4, none⟩ = some (.slice (some ⟨b, o, none⟩) m c1) ∧ w'.cell? ⟨b, o + k, none⟩ = some (.string t))) (by kernel_rfl) (⟨k1, k2, k4, tc⟩) (fun hHeld => ?_)
      refine wpAnyH_take (i := 0) (v := ?zv50001) rfl (by kernel_rfl) (by kernel_rfl) (by kernel_rfl) (fun _ _ _ h => h) (Or.inl ⟨by kernel_rfl, ?zy50001⟩) (by assumption) ?zr50001
      case zy50001 => (intro w hSw; (try dsimp only at hSw); go_simp; try with_reducible rfl)
      change wpAnyH _ _ _ _ _ _ _ (Act.put _ (some 50) _) _
      simp only [Act.put, List.setIfInBounds_toArray, List.set_cons_zero, List.set_cons_succ]
      refine wpAnyH_take (i := 1) (v := ?zv50002) rfl (by kernel_rfl) (by kernel_rfl) (by kernel_rfl) (fun _ _ _ h => h) (Or.inl ⟨by kernel_rfl, ?zy50002⟩) (by assumption) ?zr50002
      case zy50002 => (intro w hSw; (try dsimp only at hSw); go_simp; try with_reducible rfl)
      change wpAnyH _ _ _ _ _ _ _ (Act.put _ (some 51) _) _
      simp only [Act.put, List.setIfInBounds_toArray, List.set_cons_zero, List.set_cons_succ]
      refine wpAnyH_take (i := 2) (v := ?zv50003) rfl (by kernel_rfl) (by kernel_rfl) (by kernel_rfl) (fun _ _ _ h => h) (Or.inl ⟨by kernel_rfl, ?zy50003⟩) (by assumption) ?zr50003
      case zy50003 => (intro w hSw; (try dsimp only at hSw); go_simp; try with_reducible rfl)
      change wpAnyH _ _ _ _ _ _ _ (Act.put _ (some 52) _) _
      simp only [Act.put, List.setIfInBounds_toArray, List.set_cons_zero, List.set_cons_succ]
      refine wpAnyH_take (i := 3) (v := ?zv50004) rfl (by kernel_rfl) (by kernel_rfl) (by kernel_rfl) (fun _ _ _ h => h) (Or.inl ⟨by kernel_rfl, ?zy50004⟩) (by assumption) ?zr50004
      case zy50004 => (intro w hSw; (try dsimp only at hSw); go_simp; try with_reducible rfl)
      change wpAnyH _ _ _ _ _ _ _ (Act.put _ (some 53) _) _
      simp only [Act.put, List.setIfInBounds_toArray, List.set_cons_zero, List.set_cons_succ]
      refine wpAnyH_take (i := 4) (v := ?zv50005) rfl (by kernel_rfl) (by kernel_rfl) (by kernel_rfl) (fun _ _ _ h => h) (Or.inl ⟨by kernel_rfl, ?zy50005⟩) (by assumption) ?zr50005
      case zy50005 => (intro w hSw; (try dsimp only at hSw); go_simp; try with_reducible rfl)
      change wpAnyH _ _ _ _ _ _ _ (Act.put _ (some 54) _) _
      simp only [Act.put, List.setIfInBounds_toArray, List.set_cons_zero, List.set_cons_succ]
      refine wpAnyH_take (i := 5) (v := ?zv50006) rfl (by kernel_rfl) (by kernel_rfl) (by kernel_rfl) (fun _ _ _ h => h) (Or.inl ⟨by kernel_rfl, ?zy50006⟩) (by assumption) ?zr50006
      case zy50006 => (intro w hSw; (try dsimp only at hSw); go_simp; try with_reducible rfl)
      change wpAnyH _ _ _ _ _ _ _ (Act.put _ (some 55) _) _
      simp only [Act.put, List.setIfInBounds_toArray, List.set_cons_zero, List.set_cons_succ]
      refine wpAnyH_take (i := 6) (v := ?zv50007) rfl (by kernel_rfl) (by kernel_rfl) (by kernel_rfl) (fun _ _ _ h => h) (Or.inl ⟨by kernel_rfl, ?zy50007⟩) (by assumption) ?zr50007
      case zy50007 => (intro w hSw; (try dsimp only at hSw); go_simp; try with_reducible rfl)
      change wpAnyH _ _ _ _ _ _ _ (Act.put _ (some 56) _) _
      simp only [Act.put, List.setIfInBounds_toArray, List.set_cons_zero, List.set_cons_succ]
      refine wpAnyH_take (i := 7) (v := ?zv50008) rfl (by kernel_rfl) (by kernel_rfl) (by kernel_rfl) (fun _ _ _ h => h) (Or.inl ⟨by kernel_rfl, ?zy50008⟩) (by assumption) ?zr50008
      case zy50008 => (intro w hSw; (try dsimp only at hSw); go_simp; try with_reducible rfl)
      change wpAnyH _ _ _ _ _ _ _ (Act.put _ (some 57) _) _
      simp only [Act.put, List.setIfInBounds_toArray, List.set_cons_zero, List.set_cons_succ]
      refine wpAnyH_take (i := 8) (v := ?zv50009) rfl (by kernel_rfl) (by kernel_rfl) (by kernel_rfl) (fun _ _ _ h => h) (Or.inl ⟨by kernel_rfl, ?zy50009⟩) (by assumption) ?zr50009
      case zy50009 => (intro w hSw; (try dsimp only at hSw); go_simp; try with_reducible rfl)
      change wpAnyH _ _ _ _ _ _ _ (Act.put _ (some 58) _) _
      simp only [Act.put, List.setIfInBounds_toArray, List.set_cons_zero, List.set_cons_succ]
      refine wpAnyH_take (i := 9) (v := ?zv50010) rfl (by kernel_rfl) (by kernel_rfl) (by kernel_rfl) (fun _ _ _ h => h) (Or.inl ⟨by kernel_rfl, ?zy50010⟩) (by assumption) ?zr50010
      case zy50010 => (intro w hSw; (try dsimp only at hSw); go_simp; try with_reducible rfl)
      change wpAnyH _ _ _ _ _ _ _ (Act.put _ (some 59) _) _
      simp only [Act.put, List.setIfInBounds_toArray, List.set_cons_zero, List.set_cons_succ]
      refine wpAnyH_take (i := 10) (v := ?zv50011) rfl (by kernel_rfl) (by kernel_rfl) (by kernel_rfl) (fun _ _ _ h => h) (Or.inl ⟨by kernel_rfl, ?zy50011⟩) (by assumption) ?zr50011
      case zy50011 => (intro w hSw; (try dsimp only at hSw); go_simp; try with_reducible rfl)
      change wpAnyH _ _ _ _ _ _ _ (Act.put _ (some 60) _) _
      simp only [Act.put, List.setIfInBounds_toArray, List.set_cons_zero, List.set_cons_succ]
      refine wpAnyH_take (i := 11) (v := ?zv50012) rfl (by kernel_rfl) (by kernel_rfl) (by kernel_rfl) (fun _ _ _ h => h) (Or.inl ⟨by kernel_rfl, ?zy50012⟩) (by assumption) ?zr50012
      case zy50012 => (intro w hSw; (try dsimp only at hSw); go_simp; try with_reducible rfl)
      change wpAnyH _ _ _ _ _ _ _ (Act.put _ (some 61) _) _
      simp only [Act.put, List.setIfInBounds_toArray, List.set_cons_zero, List.set_cons_succ]
      refine wpAnyH_take (i := 13) (v := ?zv50013) rfl (by kernel_rfl) (by kernel_rfl) (by kernel_rfl) (fun _ _ _ h => h) (Or.inl ⟨by kernel_rfl, ?zy50013⟩) (by assumption) ?zr50013
      case zy50013 => (intro w hSw; (try dsimp only at hSw); go_simp; try with_reducible rfl)
      change wpAnyH _ _ _ _ _ _ _ (Act.put _ (some 63) _) _
      simp only [Act.put, List.setIfInBounds_toArray, List.set_cons_zero, List.set_cons_succ]
      refine wpAnyH_ready (rs := [12]) (by kernel_rfl) (by simp) (AllReadyH.cons rfl (fun K hK => ?_) AllReadyH.nil)
      go_simp
      go_at_call 18
      refine (text_any _ _ HFK.out).mono ?_
      rintro e ws ⟨rfl, rfl⟩
      refine hK.out _ _ (⟨k1, k2, k4, tc⟩) (fun hHeld => ?_)
      clear hK K
      (try simp only [Act.put, List.setIfInBounds_toArray, List.set_cons_zero, List.set_cons_succ])
      refine wpAnyH_ready (rs := [14]) (by kernel_rfl) (by simp) (AllReadyH.cons rfl (fun K hK => ?_) AllReadyH.nil)
      go_simp
      go_at_call 17
      refine (CT.out _ (below_drew (Below.refl _ _))).mono ?_
      rintro e w6 ⟨rfl, hb6⟩
      have HB6 : Hid (Below Y.heap.size Y w6) := below_drew_l hb6
      have K6 := Lib.hid (K4.out.below HB6.out K4.out.lt)
      have tc6 := HTC.out _ (HB4.out.trans (HB6.out.mono HB4.out.size))
      clear hb6 k0 k1 k2 k3 k4 k5 tc
      obtain ⟨k0, k1, k2, k3, k4, k5⟩ := feed_cells K6.out
      refine hK.out _ _ (⟨k1, k2, k4, tc6⟩) (fun hHeld => ?_)
      clear hK K
      (try simp only [Act.put, List.setIfInBounds_toArray, List.set_cons_zero, List.set_cons_succ])
      refine wpAnyH_take (i := 15) (v := ?zv50014) rfl (by kernel_rfl) (by kernel_rfl) (by kernel_rfl) (fun _ _ _ h => h) (Or.inl ⟨by kernel_rfl, ?zy50014⟩) (by assumption) ?zr50014
      case zy50014 => (intro w hSw; (try dsimp only at hSw); go_simp; try with_reducible rfl)
      change wpAnyH _ _ _ _ _ _ _ (Act.put _ (some 2) _) _
      simp only [Act.put, List.setIfInBounds_toArray, List.set_cons_zero, List.set_cons_succ]
      refine wpAnyH_done (by kernel_rfl) ?_ _
      go_wp2
      go_ret
      exact ⟨rfl, HBW.out.trans (HB6.out.mono HBW.out.size)⟩
  · have h9 : 1048576 < len := by omega
    clear hlen
    go_enter Tryd.func7, Tryd.ntmps7
    go_wp2
    go_ret
    exact ⟨rfl, Below.refl _ _⟩

end Go.Proofs.YtnffmmaclmeajaaDoor
