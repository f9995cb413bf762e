/- The walk of FnProvePut: it returns true and changes nothing that was there. Condition: the codes' bytes lie in memory. -/
import Derived.Test.YtnffmmaclmeajaaDoorDrawFeed
import Derived.Test.YtnffmmaclmeajaaDoorFeedProve
import Derived.Test.YtnffmmaclmeajaaDoorSame
import Derived.Test.YtnffmmaclmeajaaDoorBaseK
import Derived.Test.YtnffmmaclmeajaaDoorPartMath
import Derived.Test.YtnffmmaclmeajaaDoorProofLaws
import Derived.Test.YtnffmmaclmeajaaDoorFeedPut
namespace Go.Proofs.YtnffmmaclmeajaaDoor
open Go.RowKit
set_option linter.unusedVariables false

theorem fit_none (m : Nat) : Fit (noS m) := Fit.of fun x hx => by
  unfold noS at hx
  rw [List.eq_of_mem_replicate hx]
  exact Nat.zero_le _
theorem held9 {U : World} {gx gw b ok : Nat} {ty : TypeId} {v0 v1 v2 v3 v4 v5 u t : Value} (h : Blk U gx ty #[v0, v1, v2, v3, v4, v5]) (hu : U.cell? ⟨gw, 4, none⟩ = some u) (ht : U.cell? ⟨b, ok, none⟩ = some t) :
    U.cell? ⟨gx, 0, none⟩ = some v0 ∧ U.cell? ⟨gx, 1, none⟩ = some v1 ∧ U.cell? ⟨gx, 2, none⟩ = some v2 ∧ U.cell? ⟨gx, 3, none⟩ = some v3 ∧ U.cell? ⟨gx, 4, none⟩ = some v4 ∧ U.cell? ⟨gx, 5, none⟩ = some v5 ∧ U.cell? ⟨gw, 4, none⟩ = some u ∧ U.cell? ⟨b, ok, none⟩ = some t := by
  obtain ⟨a0, a1, a2, a3, a4, a5⟩ := feed_cells h
  exact ⟨a0, a1, a2, a3, a4, a5, hu, ht⟩

set_option maxHeartbeats 8000000 in
set_option maxRecDepth 100000 in
theorem walkProvePut (A : Option Addr) (len cap : Nat) (w : World) (hTab : Tab w) (hI : In w A len cap) :
    Calls Tryd.prog 8 #[.slice A len cap] w fun e w' => e = .returned (.bool true) ∧ Below w.heap.size w w' := by
  have hm := hI.len_le
  unfold maxLen at hm
  have HI := Lib.hid hI
  have HTB := Lib.hid hTab
  clear hI hTab
  by_cases hlen : len ≤ 1048576
  · go_enter Tryd.func8, Tryd.ntmps8
    go_wp2_with fail
    refine (drawFeedProve_any A len cap _ HI.out).mono ?_
    rintro e w1 ⟨p, l, d, s, A1, c1, A2, c2, bs, hs, i, rfl, ho1, hlb, hlh, hi0, hi1, hb1⟩
    have HB1 := Lib.hid hb1
    have HF := Lib.hid ho1.at_
    obtain ⟨V, HV⟩ : ∃ V, Hid (w1.alloc (.cells (feedC p l d s A1 bs.length c1 A2 hs.length c2) 28) = V) := ⟨_, rfl⟩
    have HBV : Hid (Below w1.heap.size w1 V) := by rw [← HV.out]; exact (Below.refl _ w1).alloc (Nat.le_refl _) _
    have KV : Hid (Blk V w1.heap.size 28 (feedC p l d s A1 bs.length c1 A2 hs.length c2)) := by rw [← HV.out]; exact Blk.new w1 _ _
    have CV : Hid (∀ U, Below w1.heap.size w1 U → Calls Tryd.prog 19 #[feedV p l d s A1 bs.length c1 A2 hs.length c2, .int .i64 i] U (ProveRet U (proveL ⟨p, l, d, s, bs, hs⟩ i) (proveOk ⟨p, l, d, s, bs, hs⟩ i))) := fun U hU => feedProve_any p l d s A1 c1 A2 c2 bs hs i U (HF.out.belowS hU)
    have CS : Hid (∀ U, Below w1.heap.size w1 U → Calls Tryd.prog 21 #[feedV p l d s A1 bs.length c1 A2 hs.length c2, .int .i64 i] U (ProveRet U (proveL ⟨p, l, d, s, bs, hs⟩ i) (proveOk ⟨p, l, d, s, bs, hs⟩ i))) := fun U hU => sfeedProve_any p l d s A1 c1 A2 c2 bs hs i U (HF.out.belowS hU)
    have HZS : Hid ((proveL ⟨p, l, d, s, bs, hs⟩ i).length ≤ maxLen) := by
      show _ ≤ _
      unfold proveL
      split
      · exact Nat.le_trans (proofOr_short _ _) (by unfold maxLen; omega)
      · simp
    obtain ⟨Z, HZ⟩ : ∃ Z, Hid (proveL ⟨p, l, d, s, bs, hs⟩ i = Z) := ⟨_, rfl⟩
    obtain ⟨R, HR⟩ : ∃ R, Hid (proveOk ⟨p, l, d, s, bs, hs⟩ i = R) := ⟨_, rfl⟩
    rw [HZ.out] at CV CS HZS
    rw [HR.out] at CV CS
    have hne : (R != R) = false := by simp
    have heq : (R == R) = true := by simp
    obtain ⟨m, HM⟩ : ∃ m, Hid (bs.length = m) := ⟨_, rfl⟩
    obtain ⟨n, HN⟩ : ∃ n, Hid (hs.length = n) := ⟨_, rfl⟩
    rw [HM.out] at CV CS HV KV hlb ⊢
    rw [HN.out] at CV CS HV KV hlh ⊢
    clear ho1 hb1
    go_wp2_with fail
    rw [HV.out]
    refine (CV.out _ HBV.out).mono ?_
    rintro e w2 ⟨X2, e2, rfl, ho2, hb2⟩
    have K2 := Lib.hid (KV.out.below hb2 KV.out.lt)
    have HB2 : Hid (Below w1.heap.size w1 w2) := HBV.out.trans (hb2.mono HBV.out.size)
    have HO2 := Lib.hid ho2
    obtain ⟨k0, k1, k2, k3, k4, k5⟩ := feed_cells K2.out
    clear hb2 ho2
    go_wp2_with fail
    refine (CS.out _ HB2.out).mono ?_
    rintro e w3 ⟨X3, e3, rfl, ho3, hb3⟩
    have K3 := Lib.hid (K2.out.below hb3 K2.out.lt)
    have HB3 : Hid (Below w1.heap.size w1 w3) := HB2.out.trans (hb3.mono HB2.out.size)
    have HB3w : Hid (Below w.heap.size w w3) := HB1.out.trans (HB3.out.mono HB1.out.size)
    have HO23 := Lib.hid (HO2.out.below hb3)
    have HO3 := Lib.hid ho3
    clear hb3 ho3 k0 k1 k2 k3 k4 k5
    have CE : Hid (∀ q, Calls Tryd.prog 22 #[.slice X2 Z.length e2, .slice X3 Z.length e3] (w3.drewN q) fun e w' => e = .returned (.bool true) ∧ ∃ q', w' = (w3.drewN q).drewN q') := fun q => by
      have h := same_any X2 e2 Z X3 e3 Z (w3.drewN q) (HO23.out.ints.drewN q) (HO3.out.ints.drewN q) HZS.out HZS.out
      rw [deci_same] at h
      exact h
    cases hR : R with
    | false =>
      subst hR
      go_wp2_with fail
      refine (CE.out 0).mono ?_
      rintro e w4 ⟨rfl, q1, rfl⟩
      rw [show (w3.drewN 0).drewN q1 = w3.drewN q1 from by rw [World.drewN_drewN, Nat.zero_add]]
      go_wp2_with fail
      refine (CE.out q1).mono ?_
      rintro e w5 ⟨rfl, q2, rfl⟩
      go_wp2
      go_ret
      exact ⟨rfl, below_drewN HB3w.out _⟩
    | true =>
      subst hR
      obtain ⟨hok, hwh, hi00, hi01⟩ := (proveOk_iff _ _).1 HR.out
      have hi02 : i < (bs.length : Int) := hi01
      rw [HM.out] at hi02
      obtain ⟨k, hk⟩ : ∃ k : Nat, i = (k : Int) := ⟨i.toNat, by omega⟩
      subst hk
      have hkm : k < m := by omega
      have hacc : treeOkB d l (k : Int) (textOr (sth bs k)) Z = true := by
        have h := (prove_ok HR.out).1
        rw [HZ.out] at h
        exact h
      obtain ⟨t, HTX⟩ : ∃ t, Hid (sth bs k = t) := ⟨_, rfl⟩
      have hfk := HF.out.fit k
      rw [HTX.out] at hacc hfk
      have HFK := Lib.hid hfk
      have hpos : 0 < bs.length := by rw [HM.out]; omega
      obtain ⟨b, o, rfl, hb, hcell⟩ := HF.out.strs.at_ hpos
      have HTC : Hid (∀ U, Below w1.heap.size w1 U → U.cell? ⟨b, o + k, none⟩ = some (.string t)) := fun U hU => by
        have h := ((HF.out.belowS hU).strs.lt hpos).2 k (by rw [HM.out]; exact hkm)
        rw [HTX.out] at h
        exact h
      have hk0 : (0 : Int) ≤ (k : Int) := by omega
      have hki : (k : Int) < (m : Int) := by omega
      have hnm : m = n := by
        have h2 : hs.length = bs.length := hok.len.2
        rw [HM.out, HN.out] at h2
        exact h2.symm
      have hm16 : m ≤ 16 := by have h2 : bs.length ≤ 16 := hok.len.1; rw [HM.out] at h2; exact h2
      have HPOK : Hid (putOk ⟨p, l, d, s, noS m, noB m⟩ (k : Int) t Z = true) := by
        show _ = _
        have h := part_putOk (S := fun _ => false) HR.out rfl
        unfold partF at h
        rw [(part_none _).1, (part_none _).2, HZ.out] at h
        have h2 : putOk ⟨p, l, d, s, noS bs.length, noB bs.length⟩ (k : Int) (sth bs k) Z = true := h
        rw [HM.out, HTX.out] at h2
        exact h2
      have HL1 : Hid (((noS m).set k t).length = m) := by show _ = _; rw [List.length_set, noS_length]
      have HL2 : Hid (((noB m).set k true).length = m) := by show _ = _; rw [List.length_set, noB_length]
      have HSET : Hid (sth ((noS m).set k t) k = t) := by show _ = _; rw [sth_set' _ _ _ _ (by rw [noS_length]; exact hkm), if_pos rfl]
      subst hnm
      clear hok hwh hcell hfk
      go_wp2_with fail
      refine (CE.out 0).mono ?_
      rintro e w4 ⟨rfl, q1, rfl⟩
      have K4 : Hid (Blk ((w3.drewN 0).drewN q1) w1.heap.size 28 (feedC p l d s (some ⟨b, o, none⟩) m c1 A2 m c2)) := K3.out
      have HB4 : Hid (Below w1.heap.size w1 ((w3.drewN 0).drewN q1)) := below_drewN (below_drewN HB3.out 0) q1
      have HO4 := Lib.hid ((HO23.out.drewN 0).drewN q1)
      obtain ⟨Y, HY⟩ : ∃ Y, Hid ((w3.drewN 0).drewN q1 = Y) := ⟨_, rfl⟩
      rw [HY.out] at K4 HB4 HO4 ⊢
      have HBW : Hid (Below w.heap.size w Y) := HB1.out.trans (HB4.out.mono HB1.out.size)
      have CP : Hid (∀ U (gs gb : Nat), Below Y.heap.size Y U → Blk U gs 9 (sals (noS m)).toArray → Blk U gb 4 (bals (noB m)).toArray → Calls Tryd.prog 13 #[feedV p l d s (some ⟨gs, 0, none⟩) m m (some ⟨gb, 0, none⟩) m m, .int .i64 (k : Int), .string t, .slice X2 Z.length e2] U fun e w' => ∃ A1 c1 A2 c2, e = .returned (.tuple #[feedV p l d s A1 ((noS m).set k t).length c1 A2 ((noB m).set k true).length c2, .bool true]) ∧ OwnFeed w' U.heap.size A1 c1 A2 c2 ((noS m).set k t) ((noB m).set k true) ∧ Below U.heap.size U w') := fun U gs gb hU hS hB => by
        have h1 := owns_blk (base := 0) hS (Nat.zero_le _) (by rw [noS_length]; unfold maxLen; omega)
        have h2 := ownb_blk (base := 0) hB (Nat.zero_le _) (by rw [noB_length]; unfold maxLen; omega)
        have h := feedPut_any p l d s (some ⟨gs, 0, none⟩) m (some ⟨gb, 0, none⟩) m (noS m) (noB m) (k : Int) t X2 e2 Z U (HTB.out.below (HBW.out.trans (hU.mono HBW.out.size))) ⟨h1.ints, h2.ints, fit_none m, by rw [noS_length]; unfold maxLen; omega, by rw [noB_length]; unfold maxLen; omega⟩ (HO4.out.below hU).ints HO4.out.formA HO4.out.le.1 HO4.out.le.2 HFK.out
        rw [noS_length, noB_length, HPOK.out, putR_yes HPOK.out, Int.toNat_natCast] at h
        exact h
      obtain ⟨k0, k1, k2, k3, k4, k5⟩ := feed_cells K4.out
      have hmkS := run_make_row' (P := Tryd.prog) 25 9 (.string ByteArray.empty) 16 Tryd.underlying25 string_info rfl .i64 .i64 m (by omega) (by omega)
      simp only [madeCells_sals] at hmkS
      have hmkB := run_make_row' (P := Tryd.prog) 26 4 (.bool false) 1 Tryd.underlying26 bool_info rfl .i64 .i64 m (by omega) (by omega)
      simp only [madeCells_bals] at hmkB
      go_upto_region 8 with fail
      go_cut [9] (fun s9 wx => ∃ gx gs gb : Nat, s9 = .pointer (some ⟨gx, 0, none⟩) ∧ Y.heap.size ≤ gx ∧ Y.heap.size ≤ gs ∧ Y.heap.size ≤ gb ∧ gx ≠ gs ∧ gx ≠ gb ∧ gs ≠ gb ∧ Hid (Blk wx gx 28 (feedC p l d s (some ⟨gs, 0, none⟩) m m (some ⟨gb, 0, none⟩) m m)) ∧ Hid (Blk wx gs 9 (sals (noS m)).toArray) ∧ Hid (Blk wx gb 4 (bals (noB m)).toArray) ∧ Hid (Below Y.heap.size Y wx))
      case first =>
        (try go_wp2_with fail)
        refine wp_region_held_drew (S := (fun w' => w'.cell? ⟨w1.heap.size, 0, none⟩ = some (.int .i64 p) ∧ w'.cell? ⟨w1.heap.size, 1, none⟩ = some (.int .i64 l) ∧ w'.cell? ⟨w1.heap.size, 2, none⟩ = some (.int .i64 d) ∧ w'.cell? ⟨w1.heap.size, 3, none⟩ = some (.int .i64 s) ∧ w'.cell? ⟨w1.heap.size, 4, none⟩ = some (.slice (some ⟨b, o, none⟩) m c1) ∧ w'.cell? ⟨w1.heap.size, 5, none⟩ = some (.slice A2 m c2))) (by kernel_rfl) (feed_cells K4.out) (fun hHeld => ?_)
        obtain ⟨U0, HU0⟩ : ∃ U, Hid (Y.drew = U) := ⟨_, rfl⟩
        have HY0 : Hid (Below Y.heap.size Y U0) := by rw [← HU0.out]; exact below_drew (Below.refl _ _)
        rw [HU0.out] at hHeld ⊢
        refine wpAnyH_take (i := 0) (v := ?zv80001) rfl (by kernel_rfl) (by kernel_rfl) (by kernel_rfl) (fun _ _ _ h => h) (Or.inl ⟨by kernel_rfl, ?zy80001⟩) (by assumption) ?zr80001
        case zy80001 => (intro w hSw; (try dsimp only at hSw); go_simp; try with_reducible rfl)
        change wpAnyH _ _ _ _ _ _ _ (Act.put _ (some 53) _) _
        simp only [Act.put, List.setIfInBounds_toArray, List.set_cons_zero, List.set_cons_succ]
        refine wpAnyH_take (i := 2) (v := ?zv80002) rfl (by kernel_rfl) (by kernel_rfl) (by kernel_rfl) (fun _ _ _ h => h) (Or.inl ⟨by kernel_rfl, ?zy80002⟩) (by assumption) ?zr80002
        case zy80002 => (intro w hSw; (try dsimp only at hSw); go_simp; try with_reducible rfl)
        change wpAnyH _ _ _ _ _ _ _ (Act.put _ (some 55) _) _
        simp only [Act.put, List.setIfInBounds_toArray, List.set_cons_zero, List.set_cons_succ]
        refine wpAnyH_take (i := 4) (v := ?zv80003) rfl (by kernel_rfl) (by kernel_rfl) (by kernel_rfl) (fun _ _ _ h => h) (Or.inl ⟨by kernel_rfl, ?zy80003⟩) (by assumption) ?zr80003
        case zy80003 => (intro w hSw; (try dsimp only at hSw); go_simp; try with_reducible rfl)
        change wpAnyH _ _ _ _ _ _ _ (Act.put _ (some 57) _) _
        simp only [Act.put, List.setIfInBounds_toArray, List.set_cons_zero, List.set_cons_succ]
        refine wpAnyH_take (i := 8) (v := ?zv80004) rfl (by kernel_rfl) (by kernel_rfl) (by kernel_rfl) (fun _ _ _ h => h) (Or.inl ⟨by kernel_rfl, ?zy80004⟩) (by assumption) ?zr80004
        case zy80004 => (intro w hSw; (try dsimp only at hSw); go_simp; try with_reducible rfl)
        change wpAnyH _ _ _ _ _ _ _ (Act.put _ (some 61) _) _
        simp only [Act.put, List.setIfInBounds_toArray, List.set_cons_zero, List.set_cons_succ]
        refine wpAnyH_take (i := 1) (v := ?zv80005) rfl (by kernel_rfl) (by kernel_rfl) (by kernel_rfl) (fun _ _ _ h => h) (Or.inl ⟨by kernel_rfl, ?zy80005⟩) (by assumption) ?zr80005
        case zy80005 => (intro w hSw; (try dsimp only at hSw); go_simp; try with_reducible rfl)
        change wpAnyH _ _ _ _ _ _ _ (Act.put _ (some 54) _) _
        simp only [Act.put, List.setIfInBounds_toArray, List.set_cons_zero, List.set_cons_succ]
        refine wpAnyH_take (i := 3) (v := ?zv80006) rfl (by kernel_rfl) (by kernel_rfl) (by kernel_rfl) (fun _ _ _ h => h) (Or.inl ⟨by kernel_rfl, ?zy80006⟩) (by assumption) ?zr80006
        case zy80006 => (intro w hSw; (try dsimp only at hSw); go_simp; try with_reducible rfl)
        change wpAnyH _ _ _ _ _ _ _ (Act.put _ (some 56) _) _
        simp only [Act.put, List.setIfInBounds_toArray, List.set_cons_zero, List.set_cons_succ]
        refine wpAnyH_take (i := 5) (v := ?zv80007) rfl (by kernel_rfl) (by kernel_rfl) (by kernel_rfl) (fun _ _ _ h => h) (Or.inl ⟨by kernel_rfl, ?zy80007⟩) (by assumption) ?zr80007
        case zy80007 => (intro w hSw; (try dsimp only at hSw); go_simp; try with_reducible rfl)
        change wpAnyH _ _ _ _ _ _ _ (Act.put _ (some 58) _) _
        simp only [Act.put, List.setIfInBounds_toArray, List.set_cons_zero, List.set_cons_succ]
        refine wpAnyH_take (i := 9) (v := ?zv80008) rfl (by kernel_rfl) (by kernel_rfl) (by kernel_rfl) (fun _ _ _ h => h) (Or.inl ⟨by kernel_rfl, ?zy80008⟩) (by assumption) ?zr80008
        case zy80008 => (intro w hSw; (try dsimp only at hSw); go_simp; try with_reducible rfl)
        change wpAnyH _ _ _ _ _ _ _ (Act.put _ (some 62) _) _
        simp only [Act.put, List.setIfInBounds_toArray, List.set_cons_zero, List.set_cons_succ]
        refine wpAnyH_take (i := 6) (v := ?zv80009) rfl (by kernel_rfl) (by kernel_rfl) (by kernel_rfl) (fun _ _ _ h => h) (Or.inl ⟨by kernel_rfl, ?zy80009⟩) (by assumption) ?zr80009
        case zy80009 => (intro w hSw; (try dsimp only at hSw); go_simp; try with_reducible rfl)
        change wpAnyH _ _ _ _ _ _ _ (Act.put _ (some 59) _) _
        simp only [Act.put, List.setIfInBounds_toArray, List.set_cons_zero, List.set_cons_succ]
        refine wpAnyH_take (i := 10) (v := ?zv80010) rfl (by kernel_rfl) (by kernel_rfl) (by kernel_rfl) (fun _ _ _ h => h) (Or.inl ⟨by kernel_rfl, ?zy80010⟩) (by assumption) ?zr80010
        case zy80010 => (intro w hSw; (try dsimp only at hSw); go_simp; try with_reducible rfl)
        change wpAnyH _ _ _ _ _ _ _ (Act.put _ (some 63) _) _
        simp only [Act.put, List.setIfInBounds_toArray, List.set_cons_zero, List.set_cons_succ]
        refine wpAnyH_ready (rs := [7, 11, 13]) (by kernel_rfl) (by simp) (AllReadyH.cons rfl (fun K hK => ?zo80011_0) (AllReadyH.cons rfl (fun K hK => ?zo80011_1) (AllReadyH.cons rfl (fun K hK => ?zo80011_2) AllReadyH.nil)))
        case zo80011_0 =>
          go_simp
          refine hK.out _ _ (feed_cells (K4.out.below (HY0.out.alloc HY0.out.size _) K4.out.lt)) (fun hHeld => ?_)
          clear hK K
          (try simp only [Act.put, List.setIfInBounds_toArray, List.set_cons_zero, List.set_cons_succ])
          obtain ⟨U1, HU1⟩ : ∃ U, Hid (U0.alloc (.cells (sals (noS m)).toArray 9) = U) := ⟨_, rfl⟩
          have hb1 : Below U0.heap.size U0 U1 := by rw [← HU1.out]; exact (Below.refl _ _).alloc (Nat.le_refl _) _
          have HY1 : Hid (Below Y.heap.size Y U1) := HY0.out.trans (hb1.mono HY0.out.size)
          have KS1 : Hid (Blk U1 U0.heap.size 9 (sals (noS m)).toArray) := by rw [← HU1.out]; exact Blk.new U0 _ _
          have hz1 : U0.heap.size < U1.heap.size := KS1.out.lt
          have hzy1 : Y.heap.size ≤ U0.heap.size := HY0.out.size
          rw [HU1.out] at hHeld ⊢
          refine wpAnyH_ready (rs := [11, 13]) (by kernel_rfl) (by simp) (AllReadyH.cons rfl (fun K hK => ?zo80012_0) (AllReadyH.cons rfl (fun K hK => ?zo80012_1) AllReadyH.nil))
          case zo80012_0 =>
            go_simp
            refine hK.out _ _ (feed_cells (K4.out.below (HY1.out.alloc HY1.out.size _) K4.out.lt)) (fun hHeld => ?_)
            clear hK K
            (try simp only [Act.put, List.setIfInBounds_toArray, List.set_cons_zero, List.set_cons_succ])
            obtain ⟨U2, HU2⟩ : ∃ U, Hid (U1.alloc (.cells (bals (noB m)).toArray 4) = U) := ⟨_, rfl⟩
            have hb2 : Below U1.heap.size U1 U2 := by rw [← HU2.out]; exact (Below.refl _ _).alloc (Nat.le_refl _) _
            have HY2 : Hid (Below Y.heap.size Y U2) := HY1.out.trans (hb2.mono HY1.out.size)
            have KS2 := Lib.hid (KS1.out.below hb2 KS1.out.lt)
            have KB2 : Hid (Blk U2 U1.heap.size 4 (bals (noB m)).toArray) := by rw [← HU2.out]; exact Blk.new U1 _ _
            have hz2 : U1.heap.size < U2.heap.size := KB2.out.lt
            have hzy2 : Y.heap.size ≤ U1.heap.size := HY1.out.size
            rw [HU2.out] at hHeld ⊢
            refine wpAnyH_take (i := 12) (v := ?zv80013) rfl (by kernel_rfl) (by kernel_rfl) (by kernel_rfl) (fun _ _ _ h => h) (Or.inl ⟨by kernel_rfl, ?zy80013⟩) (by assumption) ?zr80013
            case zy80013 => (intro w hSw; (try dsimp only at hSw); go_simp; try with_reducible rfl)
            change wpAnyH _ _ _ _ _ _ _ (Act.put _ (some 65) _) _
            simp only [Act.put, List.setIfInBounds_toArray, List.set_cons_zero, List.set_cons_succ]
            refine wpAnyH_ready (rs := [13]) (by kernel_rfl) (by simp) (AllReadyH.cons rfl (fun K hK => ?zo80014_0) AllReadyH.nil)
            case zo80014_0 =>
              go_simp
              refine hK.out _ _ (feed_cells (K4.out.below (HY2.out.alloc HY2.out.size _) K4.out.lt)) (fun hHeld => ?_)
              clear hK K
              (try simp only [Act.put, List.setIfInBounds_toArray, List.set_cons_zero, List.set_cons_succ])
              obtain ⟨U3, HU3⟩ : ∃ U, Hid (U2.alloc (.cells (feedC 0 0 0 0 none 0 0 none 0 0) 28) = U) := ⟨_, rfl⟩
              have hb3 : Below U2.heap.size U2 U3 := by rw [← HU3.out]; exact (Below.refl _ _).alloc (Nat.le_refl _) _
              have HY3 : Hid (Below Y.heap.size Y U3) := HY2.out.trans (hb3.mono HY2.out.size)
              have KS3 := Lib.hid (KS2.out.below hb3 KS2.out.lt)
              have KB3 := Lib.hid (KB2.out.below hb3 KB2.out.lt)
              have KX3 : Hid (Blk U3 U2.heap.size 28 (feedC 0 0 0 0 none 0 0 none 0 0)) := by rw [← HU3.out]; exact Blk.new U2 _ _
              have hz3 : U2.heap.size < U3.heap.size := KX3.out.lt
              have hzy3 : Y.heap.size ≤ U2.heap.size := HY2.out.size
              rw [HU3.out] at hHeld ⊢
              refine wpAnyH_ready (rs := [14]) (by kernel_rfl) (by simp) (AllReadyH.cons rfl (fun K hK => ?zo80015_0) AllReadyH.nil)
              case zo80015_0 =>
                go_simp
                obtain ⟨n0, n1, n2, n3, n4, n5⟩ := feed_cells KX3.out
                have nf := blk_frozen KX3.out
                obtain ⟨U4, HU4⟩ : ∃ U, Hid (((((((U3.setCell ⟨U2.heap.size, 0, none⟩ (.int .i64 p)).setCell ⟨U2.heap.size, 1, none⟩ (.int .i64 l)).setCell ⟨U2.heap.size, 2, none⟩ (.int .i64 d)).setCell ⟨U2.heap.size, 3, none⟩ (.int .i64 s)).setCell ⟨U2.heap.size, 4, none⟩ (.slice (some ⟨U0.heap.size, 0, none⟩) m m)).setCell ⟨U2.heap.size, 5, none⟩ (.slice (some ⟨U1.heap.size, 0, none⟩) m m)) = U) := ⟨_, rfl⟩
                have KS4 : Hid (Blk U4 (U0.heap.size) 9 (sals (noS m)).toArray) := by rw [← HU4.out]; exact ((((((KS3.out.setOther (p := ⟨U2.heap.size, 0, none⟩) (by show U2.heap.size ≠ U0.heap.size; omega) _).setOther (p := ⟨U2.heap.size, 1, none⟩) (by show U2.heap.size ≠ U0.heap.size; omega) _).setOther (p := ⟨U2.heap.size, 2, none⟩) (by show U2.heap.size ≠ U0.heap.size; omega) _).setOther (p := ⟨U2.heap.size, 3, none⟩) (by show U2.heap.size ≠ U0.heap.size; omega) _).setOther (p := ⟨U2.heap.size, 4, none⟩) (by show U2.heap.size ≠ U0.heap.size; omega) _).setOther (p := ⟨U2.heap.size, 5, none⟩) (by show U2.heap.size ≠ U0.heap.size; omega) _)
                have KB4 : Hid (Blk U4 (U1.heap.size) 4 (bals (noB m)).toArray) := by rw [← HU4.out]; exact ((((((KB3.out.setOther (p := ⟨U2.heap.size, 0, none⟩) (by show U2.heap.size ≠ U1.heap.size; omega) _).setOther (p := ⟨U2.heap.size, 1, none⟩) (by show U2.heap.size ≠ U1.heap.size; omega) _).setOther (p := ⟨U2.heap.size, 2, none⟩) (by show U2.heap.size ≠ U1.heap.size; omega) _).setOther (p := ⟨U2.heap.size, 3, none⟩) (by show U2.heap.size ≠ U1.heap.size; omega) _).setOther (p := ⟨U2.heap.size, 4, none⟩) (by show U2.heap.size ≠ U1.heap.size; omega) _).setOther (p := ⟨U2.heap.size, 5, none⟩) (by show U2.heap.size ≠ U1.heap.size; omega) _)
                have KX4 : Hid (Blk U4 U2.heap.size 28 (feedC p l d s (some ⟨U0.heap.size, 0, none⟩) m m (some ⟨U1.heap.size, 0, none⟩) m m)) := by rw [← HU4.out]; exact blk_six KX3.out _ _ _ _ _ _
                have HY4 : Hid (Below Y.heap.size Y U4) := by rw [← HU4.out]; exact below_six HY3.out (by omega) _ _ _ _ _ _
                go_simp
                rw [HU4.out]
                refine hK.out _ _ (feed_cells (K4.out.below HY4.out K4.out.lt)) (fun hHeld => ?_)
                clear hK K
                (try simp only [Act.put])
                refine wpAnyH_done (by kernel_rfl) ?_ _
                (try go_wp2_with fail)
                go_meet
                exact ⟨_, _, _, rfl, by omega, by omega, by omega, by omega, by omega, by omega, KX4, KS4, KB4, HY4⟩
          case zo80012_1 =>
            go_simp
            refine hK.out _ _ (feed_cells (K4.out.below (HY1.out.alloc HY1.out.size _) K4.out.lt)) (fun hHeld => ?_)
            clear hK K
            (try simp only [Act.put, List.setIfInBounds_toArray, List.set_cons_zero, List.set_cons_succ])
            obtain ⟨U2, HU2⟩ : ∃ U, Hid (U1.alloc (.cells (feedC 0 0 0 0 none 0 0 none 0 0) 28) = U) := ⟨_, rfl⟩
            have hb2 : Below U1.heap.size U1 U2 := by rw [← HU2.out]; exact (Below.refl _ _).alloc (Nat.le_refl _) _
            have HY2 : Hid (Below Y.heap.size Y U2) := HY1.out.trans (hb2.mono HY1.out.size)
            have KS2 := Lib.hid (KS1.out.below hb2 KS1.out.lt)
            have KX2 : Hid (Blk U2 U1.heap.size 28 (feedC 0 0 0 0 none 0 0 none 0 0)) := by rw [← HU2.out]; exact Blk.new U1 _ _
            have hz2 : U1.heap.size < U2.heap.size := KX2.out.lt
            have hzy2 : Y.heap.size ≤ U1.heap.size := HY1.out.size
            rw [HU2.out] at hHeld ⊢
            refine wpAnyH_ready (rs := [11]) (by kernel_rfl) (by simp) (AllReadyH.cons rfl (fun K hK => ?zo80016_0) AllReadyH.nil)
            case zo80016_0 =>
              go_simp
              refine hK.out _ _ (feed_cells (K4.out.below (HY2.out.alloc HY2.out.size _) K4.out.lt)) (fun hHeld => ?_)
              clear hK K
              (try simp only [Act.put, List.setIfInBounds_toArray, List.set_cons_zero, List.set_cons_succ])
              obtain ⟨U3, HU3⟩ : ∃ U, Hid (U2.alloc (.cells (bals (noB m)).toArray 4) = U) := ⟨_, rfl⟩
              have hb3 : Below U2.heap.size U2 U3 := by rw [← HU3.out]; exact (Below.refl _ _).alloc (Nat.le_refl _) _
              have HY3 : Hid (Below Y.heap.size Y U3) := HY2.out.trans (hb3.mono HY2.out.size)
              have KS3 := Lib.hid (KS2.out.below hb3 KS2.out.lt)
              have KX3 := Lib.hid (KX2.out.below hb3 KX2.out.lt)
              have KB3 : Hid (Blk U3 U2.heap.size 4 (bals (noB m)).toArray) := by rw [← HU3.out]; exact Blk.new U2 _ _
              have hz3 : U2.heap.size < U3.heap.size := KB3.out.lt
              have hzy3 : Y.heap.size ≤ U2.heap.size := HY2.out.size
              rw [HU3.out] at hHeld ⊢
              refine wpAnyH_take (i := 12) (v := ?zv80017) rfl (by kernel_rfl) (by kernel_rfl) (by kernel_rfl) (fun _ _ _ h => h) (Or.inl ⟨by kernel_rfl, ?zy80017⟩) (by assumption) ?zr80017
              case zy80017 => (intro w hSw; (try dsimp only at hSw); go_simp; try with_reducible rfl)
              change wpAnyH _ _ _ _ _ _ _ (Act.put _ (some 65) _) _
              simp only [Act.put, List.setIfInBounds_toArray, List.set_cons_zero, List.set_cons_succ]
              refine wpAnyH_ready (rs := [14]) (by kernel_rfl) (by simp) (AllReadyH.cons rfl (fun K hK => ?zo80018_0) AllReadyH.nil)
              case zo80018_0 =>
                go_simp
                obtain ⟨n0, n1, n2, n3, n4, n5⟩ := feed_cells KX3.out
                have nf := blk_frozen KX3.out
                obtain ⟨U4, HU4⟩ : ∃ U, Hid (((((((U3.setCell ⟨U1.heap.size, 0, none⟩ (.int .i64 p)).setCell ⟨U1.heap.size, 1, none⟩ (.int .i64 l)).setCell ⟨U1.heap.size, 2, none⟩ (.int .i64 d)).setCell ⟨U1.heap.size, 3, none⟩ (.int .i64 s)).setCell ⟨U1.heap.size, 4, none⟩ (.slice (some ⟨U0.heap.size, 0, none⟩) m m)).setCell ⟨U1.heap.size, 5, none⟩ (.slice (some ⟨U2.heap.size, 0, none⟩) m m)) = U) := ⟨_, rfl⟩
                have KS4 : Hid (Blk U4 (U0.heap.size) 9 (sals (noS m)).toArray) := by rw [← HU4.out]; exact ((((((KS3.out.setOther (p := ⟨U1.heap.size, 0, none⟩) (by show U1.heap.size ≠ U0.heap.size; omega) _).setOther (p := ⟨U1.heap.size, 1, none⟩) (by show U1.heap.size ≠ U0.heap.size; omega) _).setOther (p := ⟨U1.heap.size, 2, none⟩) (by show U1.heap.size ≠ U0.heap.size; omega) _).setOther (p := ⟨U1.heap.size, 3, none⟩) (by show U1.heap.size ≠ U0.heap.size; omega) _).setOther (p := ⟨U1.heap.size, 4, none⟩) (by show U1.heap.size ≠ U0.heap.size; omega) _).setOther (p := ⟨U1.heap.size, 5, none⟩) (by show U1.heap.size ≠ U0.heap.size; omega) _)
                have KB4 : Hid (Blk U4 (U2.heap.size) 4 (bals (noB m)).toArray) := by rw [← HU4.out]; exact ((((((KB3.out.setOther (p := ⟨U1.heap.size, 0, none⟩) (by show U1.heap.size ≠ U2.heap.size; omega) _).setOther (p := ⟨U1.heap.size, 1, none⟩) (by show U1.heap.size ≠ U2.heap.size; omega) _).setOther (p := ⟨U1.heap.size, 2, none⟩) (by show U1.heap.size ≠ U2.heap.size; omega) _).setOther (p := ⟨U1.heap.size, 3, none⟩) (by show U1.heap.size ≠ U2.heap.size; omega) _).setOther (p := ⟨U1.heap.size, 4, none⟩) (by show U1.heap.size ≠ U2.heap.size; omega) _).setOther (p := ⟨U1.heap.size, 5, none⟩) (by show U1.heap.size ≠ U2.heap.size; omega) _)
                have KX4 : Hid (Blk U4 U1.heap.size 28 (feedC p l d s (some ⟨U0.heap.size, 0, none⟩) m m (some ⟨U2.heap.size, 0, none⟩) m m)) := by rw [← HU4.out]; exact blk_six KX3.out _ _ _ _ _ _
                have HY4 : Hid (Below Y.heap.size Y U4) := by rw [← HU4.out]; exact below_six HY3.out (by omega) _ _ _ _ _ _
                go_simp
                rw [HU4.out]
                refine hK.out _ _ (feed_cells (K4.out.below HY4.out K4.out.lt)) (fun hHeld => ?_)
                clear hK K
                (try simp only [Act.put])
                refine wpAnyH_done (by kernel_rfl) ?_ _
                (try go_wp2_with fail)
                go_meet
                exact ⟨_, _, _, rfl, by omega, by omega, by omega, by omega, by omega, by omega, KX4, KS4, KB4, HY4⟩
        case zo80011_1 =>
          go_simp
          refine hK.out _ _ (feed_cells (K4.out.below (HY0.out.alloc HY0.out.size _) K4.out.lt)) (fun hHeld => ?_)
          clear hK K
          (try simp only [Act.put, List.setIfInBounds_toArray, List.set_cons_zero, List.set_cons_succ])
          obtain ⟨U1, HU1⟩ : ∃ U, Hid (U0.alloc (.cells (bals (noB m)).toArray 4) = U) := ⟨_, rfl⟩
          have hb1 : Below U0.heap.size U0 U1 := by rw [← HU1.out]; exact (Below.refl _ _).alloc (Nat.le_refl _) _
          have HY1 : Hid (Below Y.heap.size Y U1) := HY0.out.trans (hb1.mono HY0.out.size)
          have KB1 : Hid (Blk U1 U0.heap.size 4 (bals (noB m)).toArray) := by rw [← HU1.out]; exact Blk.new U0 _ _
          have hz1 : U0.heap.size < U1.heap.size := KB1.out.lt
          have hzy1 : Y.heap.size ≤ U0.heap.size := HY0.out.size
          rw [HU1.out] at hHeld ⊢
          refine wpAnyH_ready (rs := [7, 13]) (by kernel_rfl) (by simp) (AllReadyH.cons rfl (fun K hK => ?zo80019_0) (AllReadyH.cons rfl (fun K hK => ?zo80019_1) AllReadyH.nil))
          case zo80019_0 =>
            go_simp
            refine hK.out _ _ (feed_cells (K4.out.below (HY1.out.alloc HY1.out.size _) K4.out.lt)) (fun hHeld => ?_)
            clear hK K
            (try simp only [Act.put, List.setIfInBounds_toArray, List.set_cons_zero, List.set_cons_succ])
            obtain ⟨U2, HU2⟩ : ∃ U, Hid (U1.alloc (.cells (sals (noS m)).toArray 9) = U) := ⟨_, rfl⟩
            have hb2 : Below U1.heap.size U1 U2 := by rw [← HU2.out]; exact (Below.refl _ _).alloc (Nat.le_refl _) _
            have HY2 : Hid (Below Y.heap.size Y U2) := HY1.out.trans (hb2.mono HY1.out.size)
            have KB2 := Lib.hid (KB1.out.below hb2 KB1.out.lt)
            have KS2 : Hid (Blk U2 U1.heap.size 9 (sals (noS m)).toArray) := by rw [← HU2.out]; exact Blk.new U1 _ _
            have hz2 : U1.heap.size < U2.heap.size := KS2.out.lt
            have hzy2 : Y.heap.size ≤ U1.heap.size := HY1.out.size
            rw [HU2.out] at hHeld ⊢
            refine wpAnyH_take (i := 12) (v := ?zv80020) rfl (by kernel_rfl) (by kernel_rfl) (by kernel_rfl) (fun _ _ _ h => h) (Or.inl ⟨by kernel_rfl, ?zy80020⟩) (by assumption) ?zr80020
            case zy80020 => (intro w hSw; (try dsimp only at hSw); go_simp; try with_reducible rfl)
            change wpAnyH _ _ _ _ _ _ _ (Act.put _ (some 65) _) _
            simp only [Act.put, List.setIfInBounds_toArray, List.set_cons_zero, List.set_cons_succ]
            refine wpAnyH_ready (rs := [13]) (by kernel_rfl) (by simp) (AllReadyH.cons rfl (fun K hK => ?zo80021_0) AllReadyH.nil)
            case zo80021_0 =>
              go_simp
              refine hK.out _ _ (feed_cells (K4.out.below (HY2.out.alloc HY2.out.size _) K4.out.lt)) (fun hHeld => ?_)
              clear hK K
              (try simp only [Act.put, List.setIfInBounds_toArray, List.set_cons_zero, List.set_cons_succ])
              obtain ⟨U3, HU3⟩ : ∃ U, Hid (U2.alloc (.cells (feedC 0 0 0 0 none 0 0 none 0 0) 28) = U) := ⟨_, rfl⟩
              have hb3 : Below U2.heap.size U2 U3 := by rw [← HU3.out]; exact (Below.refl _ _).alloc (Nat.le_refl _) _
              have HY3 : Hid (Below Y.heap.size Y U3) := HY2.out.trans (hb3.mono HY2.out.size)
              have KB3 := Lib.hid (KB2.out.below hb3 KB2.out.lt)
              have KS3 := Lib.hid (KS2.out.below hb3 KS2.out.lt)
              have KX3 : Hid (Blk U3 U2.heap.size 28 (feedC 0 0 0 0 none 0 0 none 0 0)) := by rw [← HU3.out]; exact Blk.new U2 _ _
              have hz3 : U2.heap.size < U3.heap.size := KX3.out.lt
              have hzy3 : Y.heap.size ≤ U2.heap.size := HY2.out.size
              rw [HU3.out] at hHeld ⊢
              refine wpAnyH_ready (rs := [14]) (by kernel_rfl) (by simp) (AllReadyH.cons rfl (fun K hK => ?zo80022_0) AllReadyH.nil)
              case zo80022_0 =>
                go_simp
                obtain ⟨n0, n1, n2, n3, n4, n5⟩ := feed_cells KX3.out
                have nf := blk_frozen KX3.out
                obtain ⟨U4, HU4⟩ : ∃ U, Hid (((((((U3.setCell ⟨U2.heap.size, 0, none⟩ (.int .i64 p)).setCell ⟨U2.heap.size, 1, none⟩ (.int .i64 l)).setCell ⟨U2.heap.size, 2, none⟩ (.int .i64 d)).setCell ⟨U2.heap.size, 3, none⟩ (.int .i64 s)).setCell ⟨U2.heap.size, 4, none⟩ (.slice (some ⟨U1.heap.size, 0, none⟩) m m)).setCell ⟨U2.heap.size, 5, none⟩ (.slice (some ⟨U0.heap.size, 0, none⟩) m m)) = U) := ⟨_, rfl⟩
                have KS4 : Hid (Blk U4 (U1.heap.size) 9 (sals (noS m)).toArray) := by rw [← HU4.out]; exact ((((((KS3.out.setOther (p := ⟨U2.heap.size, 0, none⟩) (by show U2.heap.size ≠ U1.heap.size; omega) _).setOther (p := ⟨U2.heap.size, 1, none⟩) (by show U2.heap.size ≠ U1.heap.size; omega) _).setOther (p := ⟨U2.heap.size, 2, none⟩) (by show U2.heap.size ≠ U1.heap.size; omega) _).setOther (p := ⟨U2.heap.size, 3, none⟩) (by show U2.heap.size ≠ U1.heap.size; omega) _).setOther (p := ⟨U2.heap.size, 4, none⟩) (by show U2.heap.size ≠ U1.heap.size; omega) _).setOther (p := ⟨U2.heap.size, 5, none⟩) (by show U2.heap.size ≠ U1.heap.size; omega) _)
                have KB4 : Hid (Blk U4 (U0.heap.size) 4 (bals (noB m)).toArray) := by rw [← HU4.out]; exact ((((((KB3.out.setOther (p := ⟨U2.heap.size, 0, none⟩) (by show U2.heap.size ≠ U0.heap.size; omega) _).setOther (p := ⟨U2.heap.size, 1, none⟩) (by show U2.heap.size ≠ U0.heap.size; omega) _).setOther (p := ⟨U2.heap.size, 2, none⟩) (by show U2.heap.size ≠ U0.heap.size; omega) _).setOther (p := ⟨U2.heap.size, 3, none⟩) (by show U2.heap.size ≠ U0.heap.size; omega) _).setOther (p := ⟨U2.heap.size, 4, none⟩) (by show U2.heap.size ≠ U0.heap.size; omega) _).setOther (p := ⟨U2.heap.size, 5, none⟩) (by show U2.heap.size ≠ U0.heap.size; omega) _)
                have KX4 : Hid (Blk U4 U2.heap.size 28 (feedC p l d s (some ⟨U1.heap.size, 0, none⟩) m m (some ⟨U0.heap.size, 0, none⟩) m m)) := by rw [← HU4.out]; exact blk_six KX3.out _ _ _ _ _ _
                have HY4 : Hid (Below Y.heap.size Y U4) := by rw [← HU4.out]; exact below_six HY3.out (by omega) _ _ _ _ _ _
                go_simp
                rw [HU4.out]
                refine hK.out _ _ (feed_cells (K4.out.below HY4.out K4.out.lt)) (fun hHeld => ?_)
                clear hK K
                (try simp only [Act.put])
                refine wpAnyH_done (by kernel_rfl) ?_ _
                (try go_wp2_with fail)
                go_meet
                exact ⟨_, _, _, rfl, by omega, by omega, by omega, by omega, by omega, by omega, KX4, KS4, KB4, HY4⟩
          case zo80019_1 =>
            go_simp
            refine hK.out _ _ (feed_cells (K4.out.below (HY1.out.alloc HY1.out.size _) K4.out.lt)) (fun hHeld => ?_)
            clear hK K
            (try simp only [Act.put, List.setIfInBounds_toArray, List.set_cons_zero, List.set_cons_succ])
            obtain ⟨U2, HU2⟩ : ∃ U, Hid (U1.alloc (.cells (feedC 0 0 0 0 none 0 0 none 0 0) 28) = U) := ⟨_, rfl⟩
            have hb2 : Below U1.heap.size U1 U2 := by rw [← HU2.out]; exact (Below.refl _ _).alloc (Nat.le_refl _) _
            have HY2 : Hid (Below Y.heap.size Y U2) := HY1.out.trans (hb2.mono HY1.out.size)
            have KB2 := Lib.hid (KB1.out.below hb2 KB1.out.lt)
            have KX2 : Hid (Blk U2 U1.heap.size 28 (feedC 0 0 0 0 none 0 0 none 0 0)) := by rw [← HU2.out]; exact Blk.new U1 _ _
            have hz2 : U1.heap.size < U2.heap.size := KX2.out.lt
            have hzy2 : Y.heap.size ≤ U1.heap.size := HY1.out.size
            rw [HU2.out] at hHeld ⊢
            refine wpAnyH_ready (rs := [7]) (by kernel_rfl) (by simp) (AllReadyH.cons rfl (fun K hK => ?zo80023_0) AllReadyH.nil)
            case zo80023_0 =>
              go_simp
              refine hK.out _ _ (feed_cells (K4.out.below (HY2.out.alloc HY2.out.size _) K4.out.lt)) (fun hHeld => ?_)
              clear hK K
              (try simp only [Act.put, List.setIfInBounds_toArray, List.set_cons_zero, List.set_cons_succ])
              obtain ⟨U3, HU3⟩ : ∃ U, Hid (U2.alloc (.cells (sals (noS m)).toArray 9) = U) := ⟨_, rfl⟩
              have hb3 : Below U2.heap.size U2 U3 := by rw [← HU3.out]; exact (Below.refl _ _).alloc (Nat.le_refl _) _
              have HY3 : Hid (Below Y.heap.size Y U3) := HY2.out.trans (hb3.mono HY2.out.size)
              have KB3 := Lib.hid (KB2.out.below hb3 KB2.out.lt)
              have KX3 := Lib.hid (KX2.out.below hb3 KX2.out.lt)
              have KS3 : Hid (Blk U3 U2.heap.size 9 (sals (noS m)).toArray) := by rw [← HU3.out]; exact Blk.new U2 _ _
              have hz3 : U2.heap.size < U3.heap.size := KS3.out.lt
              have hzy3 : Y.heap.size ≤ U2.heap.size := HY2.out.size
              rw [HU3.out] at hHeld ⊢
              refine wpAnyH_take (i := 12) (v := ?zv80024) rfl (by kernel_rfl) (by kernel_rfl) (by kernel_rfl) (fun _ _ _ h => h) (Or.inl ⟨by kernel_rfl, ?zy80024⟩) (by assumption) ?zr80024
              case zy80024 => (intro w hSw; (try dsimp only at hSw); go_simp; try with_reducible rfl)
              change wpAnyH _ _ _ _ _ _ _ (Act.put _ (some 65) _) _
              simp only [Act.put, List.setIfInBounds_toArray, List.set_cons_zero, List.set_cons_succ]
              refine wpAnyH_ready (rs := [14]) (by kernel_rfl) (by simp) (AllReadyH.cons rfl (fun K hK => ?zo80025_0) AllReadyH.nil)
              case zo80025_0 =>
                go_simp
                obtain ⟨n0, n1, n2, n3, n4, n5⟩ := feed_cells KX3.out
                have nf := blk_frozen KX3.out
                obtain ⟨U4, HU4⟩ : ∃ U, Hid (((((((U3.setCell ⟨U1.heap.size, 0, none⟩ (.int .i64 p)).setCell ⟨U1.heap.size, 1, none⟩ (.int .i64 l)).setCell ⟨U1.heap.size, 2, none⟩ (.int .i64 d)).setCell ⟨U1.heap.size, 3, none⟩ (.int .i64 s)).setCell ⟨U1.heap.size, 4, none⟩ (.slice (some ⟨U2.heap.size, 0, none⟩) m m)).setCell ⟨U1.heap.size, 5, none⟩ (.slice (some ⟨U0.heap.size, 0, none⟩) m m)) = U) := ⟨_, rfl⟩
                have KS4 : Hid (Blk U4 (U2.heap.size) 9 (sals (noS m)).toArray) := by rw [← HU4.out]; exact ((((((KS3.out.setOther (p := ⟨U1.heap.size, 0, none⟩) (by show U1.heap.size ≠ U2.heap.size; omega) _).setOther (p := ⟨U1.heap.size, 1, none⟩) (by show U1.heap.size ≠ U2.heap.size; omega) _).setOther (p := ⟨U1.heap.size, 2, none⟩) (by show U1.heap.size ≠ U2.heap.size; omega) _).setOther (p := ⟨U1.heap.size, 3, none⟩) (by show U1.heap.size ≠ U2.heap.size; omega) _).setOther (p := ⟨U1.heap.size, 4, none⟩) (by show U1.heap.size ≠ U2.heap.size; omega) _).setOther (p := ⟨U1.heap.size, 5, none⟩) (by show U1.heap.size ≠ U2.heap.size; omega) _)
                have KB4 : Hid (Blk U4 (U0.heap.size) 4 (bals (noB m)).toArray) := by rw [← HU4.out]; exact ((((((KB3.out.setOther (p := ⟨U1.heap.size, 0, none⟩) (by show U1.heap.size ≠ U0.heap.size; omega) _).setOther (p := ⟨U1.heap.size, 1, none⟩) (by show U1.heap.size ≠ U0.heap.size; omega) _).setOther (p := ⟨U1.heap.size, 2, none⟩) (by show U1.heap.size ≠ U0.heap.size; omega) _).setOther (p := ⟨U1.heap.size, 3, none⟩) (by show U1.heap.size ≠ U0.heap.size; omega) _).setOther (p := ⟨U1.heap.size, 4, none⟩) (by show U1.heap.size ≠ U0.heap.size; omega) _).setOther (p := ⟨U1.heap.size, 5, none⟩) (by show U1.heap.size ≠ U0.heap.size; omega) _)
                have KX4 : Hid (Blk U4 U1.heap.size 28 (feedC p l d s (some ⟨U2.heap.size, 0, none⟩) m m (some ⟨U0.heap.size, 0, none⟩) m m)) := by rw [← HU4.out]; exact blk_six KX3.out _ _ _ _ _ _
                have HY4 : Hid (Below Y.heap.size Y U4) := by rw [← HU4.out]; exact below_six HY3.out (by omega) _ _ _ _ _ _
                go_simp
                rw [HU4.out]
                refine hK.out _ _ (feed_cells (K4.out.below HY4.out K4.out.lt)) (fun hHeld => ?_)
                clear hK K
                (try simp only [Act.put])
                refine wpAnyH_done (by kernel_rfl) ?_ _
                (try go_wp2_with fail)
                go_meet
                exact ⟨_, _, _, rfl, by omega, by omega, by omega, by omega, by omega, by omega, KX4, KS4, KB4, HY4⟩
        case zo80011_2 =>
          go_simp
          refine hK.out _ _ (feed_cells (K4.out.below (HY0.out.alloc HY0.out.size _) K4.out.lt)) (fun hHeld => ?_)
          clear hK K
          (try simp only [Act.put, List.setIfInBounds_toArray, List.set_cons_zero, List.set_cons_succ])
          obtain ⟨U1, HU1⟩ : ∃ U, Hid (U0.alloc (.cells (feedC 0 0 0 0 none 0 0 none 0 0) 28) = U) := ⟨_, rfl⟩
          have hb1 : Below U0.heap.size U0 U1 := by rw [← HU1.out]; exact (Below.refl _ _).alloc (Nat.le_refl _) _
          have HY1 : Hid (Below Y.heap.size Y U1) := HY0.out.trans (hb1.mono HY0.out.size)
          have KX1 : Hid (Blk U1 U0.heap.size 28 (feedC 0 0 0 0 none 0 0 none 0 0)) := by rw [← HU1.out]; exact Blk.new U0 _ _
          have hz1 : U0.heap.size < U1.heap.size := KX1.out.lt
          have hzy1 : Y.heap.size ≤ U0.heap.size := HY0.out.size
          rw [HU1.out] at hHeld ⊢
          refine wpAnyH_ready (rs := [7, 11]) (by kernel_rfl) (by simp) (AllReadyH.cons rfl (fun K hK => ?zo80026_0) (AllReadyH.cons rfl (fun K hK => ?zo80026_1) AllReadyH.nil))
          case zo80026_0 =>
            go_simp
            refine hK.out _ _ (feed_cells (K4.out.below (HY1.out.alloc HY1.out.size _) K4.out.lt)) (fun hHeld => ?_)
            clear hK K
            (try simp only [Act.put, List.setIfInBounds_toArray, List.set_cons_zero, List.set_cons_succ])
            obtain ⟨U2, HU2⟩ : ∃ U, Hid (U1.alloc (.cells (sals (noS m)).toArray 9) = U) := ⟨_, rfl⟩
            have hb2 : Below U1.heap.size U1 U2 := by rw [← HU2.out]; exact (Below.refl _ _).alloc (Nat.le_refl _) _
            have HY2 : Hid (Below Y.heap.size Y U2) := HY1.out.trans (hb2.mono HY1.out.size)
            have KX2 := Lib.hid (KX1.out.below hb2 KX1.out.lt)
            have KS2 : Hid (Blk U2 U1.heap.size 9 (sals (noS m)).toArray) := by rw [← HU2.out]; exact Blk.new U1 _ _
            have hz2 : U1.heap.size < U2.heap.size := KS2.out.lt
            have hzy2 : Y.heap.size ≤ U1.heap.size := HY1.out.size
            rw [HU2.out] at hHeld ⊢
            refine wpAnyH_ready (rs := [11]) (by kernel_rfl) (by simp) (AllReadyH.cons rfl (fun K hK => ?zo80027_0) AllReadyH.nil)
            case zo80027_0 =>
              go_simp
              refine hK.out _ _ (feed_cells (K4.out.below (HY2.out.alloc HY2.out.size _) K4.out.lt)) (fun hHeld => ?_)
              clear hK K
              (try simp only [Act.put, List.setIfInBounds_toArray, List.set_cons_zero, List.set_cons_succ])
              obtain ⟨U3, HU3⟩ : ∃ U, Hid (U2.alloc (.cells (bals (noB m)).toArray 4) = U) := ⟨_, rfl⟩
              have hb3 : Below U2.heap.size U2 U3 := by rw [← HU3.out]; exact (Below.refl _ _).alloc (Nat.le_refl _) _
              have HY3 : Hid (Below Y.heap.size Y U3) := HY2.out.trans (hb3.mono HY2.out.size)
              have KX3 := Lib.hid (KX2.out.below hb3 KX2.out.lt)
              have KS3 := Lib.hid (KS2.out.below hb3 KS2.out.lt)
              have KB3 : Hid (Blk U3 U2.heap.size 4 (bals (noB m)).toArray) := by rw [← HU3.out]; exact Blk.new U2 _ _
              have hz3 : U2.heap.size < U3.heap.size := KB3.out.lt
              have hzy3 : Y.heap.size ≤ U2.heap.size := HY2.out.size
              rw [HU3.out] at hHeld ⊢
              refine wpAnyH_take (i := 12) (v := ?zv80028) rfl (by kernel_rfl) (by kernel_rfl) (by kernel_rfl) (fun _ _ _ h => h) (Or.inl ⟨by kernel_rfl, ?zy80028⟩) (by assumption) ?zr80028
              case zy80028 => (intro w hSw; (try dsimp only at hSw); go_simp; try with_reducible rfl)
              change wpAnyH _ _ _ _ _ _ _ (Act.put _ (some 65) _) _
              simp only [Act.put, List.setIfInBounds_toArray, List.set_cons_zero, List.set_cons_succ]
              refine wpAnyH_ready (rs := [14]) (by kernel_rfl) (by simp) (AllReadyH.cons rfl (fun K hK => ?zo80029_0) AllReadyH.nil)
              case zo80029_0 =>
                go_simp
                obtain ⟨n0, n1, n2, n3, n4, n5⟩ := feed_cells KX3.out
                have nf := blk_frozen KX3.out
                obtain ⟨U4, HU4⟩ : ∃ U, Hid (((((((U3.setCell ⟨U0.heap.size, 0, none⟩ (.int .i64 p)).setCell ⟨U0.heap.size, 1, none⟩ (.int .i64 l)).setCell ⟨U0.heap.size, 2, none⟩ (.int .i64 d)).setCell ⟨U0.heap.size, 3, none⟩ (.int .i64 s)).setCell ⟨U0.heap.size, 4, none⟩ (.slice (some ⟨U1.heap.size, 0, none⟩) m m)).setCell ⟨U0.heap.size, 5, none⟩ (.slice (some ⟨U2.heap.size, 0, none⟩) m m)) = U) := ⟨_, rfl⟩
                have KS4 : Hid (Blk U4 (U1.heap.size) 9 (sals (noS m)).toArray) := by rw [← HU4.out]; exact ((((((KS3.out.setOther (p := ⟨U0.heap.size, 0, none⟩) (by show U0.heap.size ≠ U1.heap.size; omega) _).setOther (p := ⟨U0.heap.size, 1, none⟩) (by show U0.heap.size ≠ U1.heap.size; omega) _).setOther (p := ⟨U0.heap.size, 2, none⟩) (by show U0.heap.size ≠ U1.heap.size; omega) _).setOther (p := ⟨U0.heap.size, 3, none⟩) (by show U0.heap.size ≠ U1.heap.size; omega) _).setOther (p := ⟨U0.heap.size, 4, none⟩) (by show U0.heap.size ≠ U1.heap.size; omega) _).setOther (p := ⟨U0.heap.size, 5, none⟩) (by show U0.heap.size ≠ U1.heap.size; omega) _)
                have KB4 : Hid (Blk U4 (U2.heap.size) 4 (bals (noB m)).toArray) := by rw [← HU4.out]; exact ((((((KB3.out.setOther (p := ⟨U0.heap.size, 0, none⟩) (by show U0.heap.size ≠ U2.heap.size; omega) _).setOther (p := ⟨U0.heap.size, 1, none⟩) (by show U0.heap.size ≠ U2.heap.size; omega) _).setOther (p := ⟨U0.heap.size, 2, none⟩) (by show U0.heap.size ≠ U2.heap.size; omega) _).setOther (p := ⟨U0.heap.size, 3, none⟩) (by show U0.heap.size ≠ U2.heap.size; omega) _).setOther (p := ⟨U0.heap.size, 4, none⟩) (by show U0.heap.size ≠ U2.heap.size; omega) _).setOther (p := ⟨U0.heap.size, 5, none⟩) (by show U0.heap.size ≠ U2.heap.size; omega) _)
                have KX4 : Hid (Blk U4 U0.heap.size 28 (feedC p l d s (some ⟨U1.heap.size, 0, none⟩) m m (some ⟨U2.heap.size, 0, none⟩) m m)) := by rw [← HU4.out]; exact blk_six KX3.out _ _ _ _ _ _
                have HY4 : Hid (Below Y.heap.size Y U4) := by rw [← HU4.out]; exact below_six HY3.out (by omega) _ _ _ _ _ _
                go_simp
                rw [HU4.out]
                refine hK.out _ _ (feed_cells (K4.out.below HY4.out K4.out.lt)) (fun hHeld => ?_)
                clear hK K
                (try simp only [Act.put])
                refine wpAnyH_done (by kernel_rfl) ?_ _
                (try go_wp2_with fail)
                go_meet
                exact ⟨_, _, _, rfl, by omega, by omega, by omega, by omega, by omega, by omega, KX4, KS4, KB4, HY4⟩
          case zo80026_1 =>
            go_simp
            refine hK.out _ _ (feed_cells (K4.out.below (HY1.out.alloc HY1.out.size _) K4.out.lt)) (fun hHeld => ?_)
            clear hK K
            (try simp only [Act.put, List.setIfInBounds_toArray, List.set_cons_zero, List.set_cons_succ])
            obtain ⟨U2, HU2⟩ : ∃ U, Hid (U1.alloc (.cells (bals (noB m)).toArray 4) = U) := ⟨_, rfl⟩
            have hb2 : Below U1.heap.size U1 U2 := by rw [← HU2.out]; exact (Below.refl _ _).alloc (Nat.le_refl _) _
            have HY2 : Hid (Below Y.heap.size Y U2) := HY1.out.trans (hb2.mono HY1.out.size)
            have KX2 := Lib.hid (KX1.out.below hb2 KX1.out.lt)
            have KB2 : Hid (Blk U2 U1.heap.size 4 (bals (noB m)).toArray) := by rw [← HU2.out]; exact Blk.new U1 _ _
            have hz2 : U1.heap.size < U2.heap.size := KB2.out.lt
            have hzy2 : Y.heap.size ≤ U1.heap.size := HY1.out.size
            rw [HU2.out] at hHeld ⊢
            refine wpAnyH_ready (rs := [7]) (by kernel_rfl) (by simp) (AllReadyH.cons rfl (fun K hK => ?zo80030_0) AllReadyH.nil)
            case zo80030_0 =>
              go_simp
              refine hK.out _ _ (feed_cells (K4.out.below (HY2.out.alloc HY2.out.size _) K4.out.lt)) (fun hHeld => ?_)
              clear hK K
              (try simp only [Act.put, List.setIfInBounds_toArray, List.set_cons_zero, List.set_cons_succ])
              obtain ⟨U3, HU3⟩ : ∃ U, Hid (U2.alloc (.cells (sals (noS m)).toArray 9) = U) := ⟨_, rfl⟩
              have hb3 : Below U2.heap.size U2 U3 := by rw [← HU3.out]; exact (Below.refl _ _).alloc (Nat.le_refl _) _
              have HY3 : Hid (Below Y.heap.size Y U3) := HY2.out.trans (hb3.mono HY2.out.size)
              have KX3 := Lib.hid (KX2.out.below hb3 KX2.out.lt)
              have KB3 := Lib.hid (KB2.out.below hb3 KB2.out.lt)
              have KS3 : Hid (Blk U3 U2.heap.size 9 (sals (noS m)).toArray) := by rw [← HU3.out]; exact Blk.new U2 _ _
              have hz3 : U2.heap.size < U3.heap.size := KS3.out.lt
              have hzy3 : Y.heap.size ≤ U2.heap.size := HY2.out.size
              rw [HU3.out] at hHeld ⊢
              refine wpAnyH_take (i := 12) (v := ?zv80031) rfl (by kernel_rfl) (by kernel_rfl) (by kernel_rfl) (fun _ _ _ h => h) (Or.inl ⟨by kernel_rfl, ?zy80031⟩) (by assumption) ?zr80031
              case zy80031 => (intro w hSw; (try dsimp only at hSw); go_simp; try with_reducible rfl)
              change wpAnyH _ _ _ _ _ _ _ (Act.put _ (some 65) _) _
              simp only [Act.put, List.setIfInBounds_toArray, List.set_cons_zero, List.set_cons_succ]
              refine wpAnyH_ready (rs := [14]) (by kernel_rfl) (by simp) (AllReadyH.cons rfl (fun K hK => ?zo80032_0) AllReadyH.nil)
              case zo80032_0 =>
                go_simp
                obtain ⟨n0, n1, n2, n3, n4, n5⟩ := feed_cells KX3.out
                have nf := blk_frozen KX3.out
                obtain ⟨U4, HU4⟩ : ∃ U, Hid (((((((U3.setCell ⟨U0.heap.size, 0, none⟩ (.int .i64 p)).setCell ⟨U0.heap.size, 1, none⟩ (.int .i64 l)).setCell ⟨U0.heap.size, 2, none⟩ (.int .i64 d)).setCell ⟨U0.heap.size, 3, none⟩ (.int .i64 s)).setCell ⟨U0.heap.size, 4, none⟩ (.slice (some ⟨U2.heap.size, 0, none⟩) m m)).setCell ⟨U0.heap.size, 5, none⟩ (.slice (some ⟨U1.heap.size, 0, none⟩) m m)) = U) := ⟨_, rfl⟩
                have KS4 : Hid (Blk U4 (U2.heap.size) 9 (sals (noS m)).toArray) := by rw [← HU4.out]; exact ((((((KS3.out.setOther (p := ⟨U0.heap.size, 0, none⟩) (by show U0.heap.size ≠ U2.heap.size; omega) _).setOther (p := ⟨U0.heap.size, 1, none⟩) (by show U0.heap.size ≠ U2.heap.size; omega) _).setOther (p := ⟨U0.heap.size, 2, none⟩) (by show U0.heap.size ≠ U2.heap.size; omega) _).setOther (p := ⟨U0.heap.size, 3, none⟩) (by show U0.heap.size ≠ U2.heap.size; omega) _).setOther (p := ⟨U0.heap.size, 4, none⟩) (by show U0.heap.size ≠ U2.heap.size; omega) _).setOther (p := ⟨U0.heap.size, 5, none⟩) (by show U0.heap.size ≠ U2.heap.size; omega) _)
                have KB4 : Hid (Blk U4 (U1.heap.size) 4 (bals (noB m)).toArray) := by rw [← HU4.out]; exact ((((((KB3.out.setOther (p := ⟨U0.heap.size, 0, none⟩) (by show U0.heap.size ≠ U1.heap.size; omega) _).setOther (p := ⟨U0.heap.size, 1, none⟩) (by show U0.heap.size ≠ U1.heap.size; omega) _).setOther (p := ⟨U0.heap.size, 2, none⟩) (by show U0.heap.size ≠ U1.heap.size; omega) _).setOther (p := ⟨U0.heap.size, 3, none⟩) (by show U0.heap.size ≠ U1.heap.size; omega) _).setOther (p := ⟨U0.heap.size, 4, none⟩) (by show U0.heap.size ≠ U1.heap.size; omega) _).setOther (p := ⟨U0.heap.size, 5, none⟩) (by show U0.heap.size ≠ U1.heap.size; omega) _)
                have KX4 : Hid (Blk U4 U0.heap.size 28 (feedC p l d s (some ⟨U2.heap.size, 0, none⟩) m m (some ⟨U1.heap.size, 0, none⟩) m m)) := by rw [← HU4.out]; exact blk_six KX3.out _ _ _ _ _ _
                have HY4 : Hid (Below Y.heap.size Y U4) := by rw [← HU4.out]; exact below_six HY3.out (by omega) _ _ _ _ _ _
                go_simp
                rw [HU4.out]
                refine hK.out _ _ (feed_cells (K4.out.below HY4.out K4.out.lt)) (fun hHeld => ?_)
                clear hK K
                (try simp only [Act.put])
                refine wpAnyH_done (by kernel_rfl) ?_ _
                (try go_wp2_with fail)
                go_meet
                exact ⟨_, _, _, rfl, by omega, by omega, by omega, by omega, by omega, by omega, KX4, KS4, KB4, HY4⟩
      case rest =>
        obtain ⟨gx, gs, gb, rfl, hx1, hx2, hx3, hx4, hx5, hx6, KX, KS, KB, HY2⟩ := hcut
        obtain ⟨Z2, hZ2⟩ : ∃ y, y = wc := ⟨_, rfl⟩
        subst hZ2
        have HGX := Lib.hid KX.out.lt
        clear hmkS hmkB k0 k1 k2 k3 k4 k5
        obtain ⟨x0, x1, x2, x3, x4, x5⟩ := feed_cells KX.out
        have x6 := (K4.out.below HY2.out K4.out.lt).cell 4
        have x7 := HTC.out _ (HB4.out.trans (HY2.out.mono HB4.out.size))
        (try go_wp2_with fail)
        refine wp_region_held_drew (S := (fun w' => w'.cell? ⟨gx, 0, none⟩ = some (.int .i64 p) ∧ w'.cell? ⟨gx, 1, none⟩ = some (.int .i64 l) ∧ w'.cell? ⟨gx, 2, none⟩ = some (.int .i64 d) ∧ w'.cell? ⟨gx, 3, none⟩ = some (.int .i64 s) ∧ w'.cell? ⟨gx, 4, none⟩ = some (.slice (some ⟨gs, 0, none⟩) m m) ∧ w'.cell? ⟨gx, 5, none⟩ = some (.slice (some ⟨gb, 0, none⟩) m m) ∧ w'.cell? ⟨w1.heap.size, 4, none⟩ = some (.slice (some ⟨b, o, none⟩) m c1) ∧ w'.cell? ⟨b, o + k, none⟩ = some (.string t))) (by kernel_rfl) (held9 KX.out x6 x7) (fun hHeld => ?_)
        obtain ⟨U0, HU0⟩ : ∃ U, Hid (Z2.drew = U) := ⟨_, rfl⟩
        have HY0 : Hid (Below Y.heap.size Y U0) := by rw [← HU0.out]; exact below_drew HY2.out
        have KX0 : Hid (Blk U0 gx 28 (feedC p l d s (some ⟨gs, 0, none⟩) m m (some ⟨gb, 0, none⟩) m m)) := by rw [← HU0.out]; exact KX.out
        have KS0 : Hid (Blk U0 gs 9 (sals (noS m)).toArray) := by rw [← HU0.out]; exact KS.out
        have KB0 : Hid (Blk U0 gb 4 (bals (noB m)).toArray) := by rw [← HU0.out]; exact KB.out
        have HZZ : Hid (U0.heap.size = Z2.heap.size) := by rw [← HU0.out]; rfl
        rw [HU0.out] at hHeld ⊢
        refine wpAnyH_take (i := 0) (v := ?zv80033) rfl (by kernel_rfl) (by kernel_rfl) (by kernel_rfl) (fun _ _ _ h => h) (Or.inl ⟨by kernel_rfl, ?zy80033⟩) (by assumption) ?zr80033
        case zy80033 => (intro w hSw; (try dsimp only at hSw); go_simp; try with_reducible rfl)
        change wpAnyH _ _ _ _ _ _ _ (Act.put _ (some 67) _) _
        simp only [Act.put, List.setIfInBounds_toArray, List.set_cons_zero, List.set_cons_succ]
        refine wpAnyH_take (i := 1) (v := ?zv80034) rfl (by kernel_rfl) (by kernel_rfl) (by kernel_rfl) (fun _ _ _ h => h) (Or.inl ⟨by kernel_rfl, ?zy80034⟩) (by assumption) ?zr80034
        case zy80034 => (intro w hSw; (try dsimp only at hSw); go_simp; try with_reducible rfl)
        change wpAnyH _ _ _ _ _ _ _ (Act.put _ (some 68) _) _
        simp only [Act.put, List.setIfInBounds_toArray, List.set_cons_zero, List.set_cons_succ]
        refine wpAnyH_take (i := 2) (v := ?zv80035) rfl (by kernel_rfl) (by kernel_rfl) (by kernel_rfl) (fun _ _ _ h => h) (Or.inl ⟨by kernel_rfl, ?zy80035⟩) (by assumption) ?zr80035
        case zy80035 => (intro w hSw; (try dsimp only at hSw); go_simp; try with_reducible rfl)
        change wpAnyH _ _ _ _ _ _ _ (Act.put _ (some 69) _) _
        simp only [Act.put, List.setIfInBounds_toArray, List.set_cons_zero, List.set_cons_succ]
        refine wpAnyH_take (i := 4) (v := ?zv80036) rfl (by kernel_rfl) (by kernel_rfl) (by kernel_rfl) (fun _ _ _ h => h) (Or.inl ⟨by kernel_rfl, ?zy80036⟩) (by assumption) ?zr80036
        case zy80036 => (intro w hSw; (try dsimp only at hSw); go_simp; try with_reducible rfl)
        change wpAnyH _ _ _ _ _ _ _ (Act.put _ (some 71) _) _
        simp only [Act.put, List.setIfInBounds_toArray, List.set_cons_zero, List.set_cons_succ]
        refine wpAnyH_take (i := 7) (v := ?zv80037) rfl (by kernel_rfl) (by kernel_rfl) (by kernel_rfl) (fun _ _ _ h => h) (Or.inl ⟨by kernel_rfl, ?zy80037⟩) (by assumption) ?zr80037
        case zy80037 => (intro w hSw; (try dsimp only at hSw); go_simp; try with_reducible rfl)
        change wpAnyH _ _ _ _ _ _ _ (Act.put _ (some 74) _) _
        simp only [Act.put, List.setIfInBounds_toArray, List.set_cons_zero, List.set_cons_succ]
        refine wpAnyH_take (i := 3) (v := ?zv80038) rfl (by kernel_rfl) (by kernel_rfl) (by kernel_rfl) (fun _ _ _ h => h) (Or.inl ⟨by kernel_rfl, ?zy80038⟩) (by assumption) ?zr80038
        case zy80038 => (intro w hSw; (try dsimp only at hSw); go_simp; try with_reducible rfl)
        change wpAnyH _ _ _ _ _ _ _ (Act.put _ (some 70) _) _
        simp only [Act.put, List.setIfInBounds_toArray, List.set_cons_zero, List.set_cons_succ]
        refine wpAnyH_take (i := 5) (v := ?zv80039) rfl (by kernel_rfl) (by kernel_rfl) (by kernel_rfl) (fun _ _ _ h => h) (Or.inl ⟨by kernel_rfl, ?zy80039⟩) (by assumption) ?zr80039
        case zy80039 => (intro w hSw; (try dsimp only at hSw); go_simp; try with_reducible rfl)
        change wpAnyH _ _ _ _ _ _ _ (Act.put _ (some 72) _) _
        simp only [Act.put, List.setIfInBounds_toArray, List.set_cons_zero, List.set_cons_succ]
        refine wpAnyH_take (i := 6) (v := ?zv80040) rfl (by kernel_rfl) (by kernel_rfl) (by kernel_rfl) (fun _ _ _ h => h) (Or.inl ⟨by kernel_rfl, ?zy80040⟩) (by assumption) ?zr80040
        case zy80040 => (intro w hSw; (try dsimp only at hSw); go_simp; try with_reducible rfl)
        change wpAnyH _ _ _ _ _ _ _ (Act.put _ (some 73) _) _
        simp only [Act.put, List.setIfInBounds_toArray, List.set_cons_zero, List.set_cons_succ]
        refine wpAnyH_ready (rs := [8, 12]) (by kernel_rfl) (by simp) (AllReadyH.cons rfl (fun K hK => ?zo80041_0) (AllReadyH.cons rfl (fun K hK => ?zo80041_1) AllReadyH.nil))
        case zo80041_0 =>
          go_simp
          go_at_call 13
          refine (CP.out _ gs gb HY0.out KS0.out KB0.out).mono ?_
          rintro e U1 ⟨Y1, e1, Y2, e3, rfl, ho1, hb1⟩
          rw [HL1.out, HL2.out]
          have HY1 : Hid (Below Y.heap.size Y U1) := HY0.out.trans (hb1.mono HY0.out.size)
          have KX1 := Lib.hid (KX0.out.below hb1 KX0.out.lt)
          have KS1 := Lib.hid (KS0.out.below hb1 KS0.out.lt)
          have KB1 := Lib.hid (KB0.out.below hb1 KB0.out.lt)
          have PF1 := Lib.hid ho1
          have hzc1 := hb1.size
          clear ho1 hb1
          refine hK.out _ _ (held9 KX1.out ((K4.out.below HY1.out K4.out.lt).cell 4) (HTC.out _ (HB4.out.trans (HY1.out.mono HB4.out.size)))) (fun hHeld => ?_)
          clear hK K
          (try simp only [Act.put, List.setIfInBounds_toArray, List.set_cons_zero, List.set_cons_succ])
          refine wpAnyH_take (i := 9) (v := ?zv80042) rfl (by kernel_rfl) (by kernel_rfl) (by kernel_rfl) (fun _ _ _ h => h) (Or.inl ⟨by kernel_rfl, ?zy80042⟩) (by assumption) ?zr80042
          case zy80042 => (intro w hSw; (try dsimp only at hSw); go_simp; try with_reducible rfl)
          change wpAnyH _ _ _ _ _ _ _ (Act.put _ (some 66) _) _
          simp only [Act.put, List.setIfInBounds_toArray, List.set_cons_zero, List.set_cons_succ]
          refine wpAnyH_take (i := 10) (v := ?zv80043) rfl (by kernel_rfl) (by kernel_rfl) (by kernel_rfl) (fun _ _ _ h => h) (Or.inl ⟨by kernel_rfl, ?zy80043⟩) (by assumption) ?zr80043
          case zy80043 => (intro w hSw; (try dsimp only at hSw); go_simp; try with_reducible rfl)
          change wpAnyH _ _ _ _ _ _ _ (Act.put _ (some 76) _) _
          simp only [Act.put, List.setIfInBounds_toArray, List.set_cons_zero, List.set_cons_succ]
          refine wpAnyH_take (i := 11) (v := ?zv80044) rfl (by kernel_rfl) (by kernel_rfl) (by kernel_rfl) (fun _ _ _ h => h) (Or.inl ⟨by kernel_rfl, ?zy80044⟩) (by assumption) ?zr80044
          case zy80044 => (intro w hSw; (try dsimp only at hSw); go_simp; try with_reducible rfl)
          change wpAnyH _ _ _ _ _ _ _ (Act.put _ (some 77) _) _
          simp only [Act.put, List.setIfInBounds_toArray, List.set_cons_zero, List.set_cons_succ]
          refine wpAnyH_ready (rs := [12]) (by kernel_rfl) (by simp) (AllReadyH.cons rfl (fun K hK => ?zo80045_0) AllReadyH.nil)
          case zo80045_0 =>
            go_simp
            refine hK.out _ _ (held9 (KX1.out.alloc _) ((K4.out.below (HY1.out.alloc HY1.out.size _) K4.out.lt).cell 4) (HTC.out _ (HB4.out.trans ((HY1.out.alloc HY1.out.size _).mono HB4.out.size)))) (fun hHeld => ?_)
            clear hK K
            (try simp only [Act.put, List.setIfInBounds_toArray, List.set_cons_zero, List.set_cons_succ])
            obtain ⟨U2, HU2⟩ : ∃ U, Hid (U1.alloc (.cells (feedC 0 0 0 0 none 0 0 none 0 0) 28) = U) := ⟨_, rfl⟩
            have hb2 : Below U1.heap.size U1 U2 := by rw [← HU2.out]; exact (Below.refl _ _).alloc (Nat.le_refl _) _
            have HY2 : Hid (Below Y.heap.size Y U2) := HY1.out.trans (hb2.mono HY1.out.size)
            have KX2 := Lib.hid (KX1.out.below hb2 KX1.out.lt)
            have KS2 := Lib.hid (KS1.out.below hb2 KS1.out.lt)
            have KB2 := Lib.hid (KB1.out.below hb2 KB1.out.lt)
            have PF2 : Hid (OwnFeed U2 U0.heap.size Y1 e1 Y2 e3 ((noS m).set k t) ((noB m).set k true)) := ⟨PF1.out.strs.below hb2, PF1.out.bits.below hb2, PF1.out.fit⟩
            have KL2 : Hid (Blk U2 U1.heap.size 28 (feedC 0 0 0 0 none 0 0 none 0 0)) := by rw [← HU2.out]; exact Blk.new U1 _ _
            have hzl : Y.heap.size ≤ U1.heap.size := HY1.out.size
            rw [HU2.out] at hHeld ⊢
            refine wpAnyH_ready (rs := [13]) (by kernel_rfl) (by simp) (AllReadyH.cons rfl (fun K hK => ?zo80046_0) AllReadyH.nil)
            case zo80046_0 =>
              go_simp
              obtain ⟨n0, n1, n2, n3, n4, n5⟩ := feed_cells KL2.out
              have nf := blk_frozen KL2.out
              have hzg : Z2.heap.size ≤ U1.heap.size := by have := HZZ.out; omega
              have hxl := KX0.out.lt
              obtain ⟨U3, HU3⟩ : ∃ U, Hid (((((((U2.setCell ⟨U1.heap.size, 0, none⟩ (.int .i64 p)).setCell ⟨U1.heap.size, 1, none⟩ (.int .i64 l)).setCell ⟨U1.heap.size, 2, none⟩ (.int .i64 d)).setCell ⟨U1.heap.size, 3, none⟩ (.int .i64 s)).setCell ⟨U1.heap.size, 4, none⟩ (.slice Y1 m e1)).setCell ⟨U1.heap.size, 5, none⟩ (.slice Y2 m e3)) = U) := ⟨_, rfl⟩
              have KX3 : Hid (Blk U3 gx 28 (feedC p l d s (some ⟨gs, 0, none⟩) m m (some ⟨gb, 0, none⟩) m m)) := by rw [← HU3.out]; exact ((((((KX2.out.setOther (p := ⟨U1.heap.size, 0, none⟩) (by show U1.heap.size ≠ gx; (have := HGX.out; have := hzg; omega)) _).setOther (p := ⟨U1.heap.size, 1, none⟩) (by show U1.heap.size ≠ gx; (have := HGX.out; have := hzg; omega)) _).setOther (p := ⟨U1.heap.size, 2, none⟩) (by show U1.heap.size ≠ gx; (have := HGX.out; have := hzg; omega)) _).setOther (p := ⟨U1.heap.size, 3, none⟩) (by show U1.heap.size ≠ gx; (have := HGX.out; have := hzg; omega)) _).setOther (p := ⟨U1.heap.size, 4, none⟩) (by show U1.heap.size ≠ gx; (have := HGX.out; have := hzg; omega)) _).setOther (p := ⟨U1.heap.size, 5, none⟩) (by show U1.heap.size ≠ gx; (have := HGX.out; have := hzg; omega)) _)
              have KL3 : Hid (Blk U3 U1.heap.size 28 (feedC p l d s Y1 m e1 Y2 m e3)) := by rw [← HU3.out]; exact blk_six KL2.out _ _ _ _ _ _
              have PF3 : Hid (OwnFeed U3 U0.heap.size Y1 e1 Y2 e3 ((noS m).set k t) ((noB m).set k true)) := by rw [← HU3.out]; exact own_six PF2.out KL2.out _ _ _ _ _ _
              have HY3 : Hid (Below Y.heap.size Y U3) := by rw [← HU3.out]; exact below_six HY2.out (by omega) _ _ _ _ _ _
              go_simp
              rw [HU3.out]
              refine hK.out _ _ (held9 KX3.out ((K4.out.below HY3.out K4.out.lt).cell 4) (HTC.out _ (HB4.out.trans (HY3.out.mono HB4.out.size)))) (fun hHeld => ?_)
              clear hK K
              (try simp only [Act.put])
              refine wpAnyH_take (i := 14) (v := ?zv80047) rfl (by kernel_rfl) (by kernel_rfl) (by kernel_rfl) (fun _ _ _ h => h) (Or.inl ⟨by kernel_rfl, ?zy80047⟩) (by assumption) ?zr80047
              case zy80047 => (intro w hSw; (try dsimp only at hSw); go_simp; try with_reducible rfl)
              change wpAnyH _ _ _ _ _ _ _ (Act.put _ (some 11) _) _
              simp only [Act.put, List.setIfInBounds_toArray, List.set_cons_zero, List.set_cons_succ]
              refine wpAnyH_done (by kernel_rfl) ?_ _
              obtain ⟨k0, k1, k2, k3, k4, k5⟩ := feed_cells (K4.out.below HY3.out K4.out.lt)
              obtain ⟨l0, l1, l2, l3, l4, l5⟩ := feed_cells KL3.out
              have tc := HTC.out _ (HB4.out.trans (HY3.out.mono HB4.out.size))
              obtain ⟨gy, cy, hv, _, _⟩ := World.ownsRow.form PF3.out.strs (by rw [HL1.out]; omega)
              injection hv with hA _ hq
              subst hA
              subst hq
              have tn := (PF3.out.strs.ints.lt (by rw [HL1.out]; omega)).2 k (by rw [HL1.out]; exact hkm)
              rw [Nat.zero_add, HSET.out] at tn
              have het : (t.toList == t.toList) = true := by simp
              have HYF := HY3
              go_wp2_with fail
              go_quiet (fail)
              go_wp2
              go_ret
              exact ⟨ret_bool (by simp), below_drewN (HBW.out.trans (HYF.out.mono HBW.out.size)) _⟩
        case zo80041_1 =>
          go_simp
          refine hK.out _ _ (held9 (KX0.out.alloc _) ((K4.out.below (HY0.out.alloc HY0.out.size _) K4.out.lt).cell 4) (HTC.out _ (HB4.out.trans ((HY0.out.alloc HY0.out.size _).mono HB4.out.size)))) (fun hHeld => ?_)
          clear hK K
          (try simp only [Act.put, List.setIfInBounds_toArray, List.set_cons_zero, List.set_cons_succ])
          obtain ⟨U1, HU1⟩ : ∃ U, Hid (U0.alloc (.cells (feedC 0 0 0 0 none 0 0 none 0 0) 28) = U) := ⟨_, rfl⟩
          have hb1 : Below U0.heap.size U0 U1 := by rw [← HU1.out]; exact (Below.refl _ _).alloc (Nat.le_refl _) _
          have HY1 : Hid (Below Y.heap.size Y U1) := HY0.out.trans (hb1.mono HY0.out.size)
          have KX1 := Lib.hid (KX0.out.below hb1 KX0.out.lt)
          have KS1 := Lib.hid (KS0.out.below hb1 KS0.out.lt)
          have KB1 := Lib.hid (KB0.out.below hb1 KB0.out.lt)
          have KL1 : Hid (Blk U1 U0.heap.size 28 (feedC 0 0 0 0 none 0 0 none 0 0)) := by rw [← HU1.out]; exact Blk.new U0 _ _
          have hzl : Y.heap.size ≤ U0.heap.size := HY0.out.size
          rw [HU1.out] at hHeld ⊢
          refine wpAnyH_ready (rs := [8]) (by kernel_rfl) (by simp) (AllReadyH.cons rfl (fun K hK => ?zo80048_0) AllReadyH.nil)
          case zo80048_0 =>
            go_simp
            go_at_call 13
            refine (CP.out _ gs gb HY1.out KS1.out KB1.out).mono ?_
            rintro e U2 ⟨Y1, e1, Y2, e3, rfl, ho2, hb2⟩
            rw [HL1.out, HL2.out]
            have HY2 : Hid (Below Y.heap.size Y U2) := HY1.out.trans (hb2.mono HY1.out.size)
            have KX2 := Lib.hid (KX1.out.below hb2 KX1.out.lt)
            have KS2 := Lib.hid (KS1.out.below hb2 KS1.out.lt)
            have KB2 := Lib.hid (KB1.out.below hb2 KB1.out.lt)
            have KL2 := Lib.hid (KL1.out.below hb2 KL1.out.lt)
            have PF2 := Lib.hid ho2
            have hzc2 := hb2.size
            clear ho2 hb2
            refine hK.out _ _ (held9 KX2.out ((K4.out.below HY2.out K4.out.lt).cell 4) (HTC.out _ (HB4.out.trans (HY2.out.mono HB4.out.size)))) (fun hHeld => ?_)
            clear hK K
            (try simp only [Act.put, List.setIfInBounds_toArray, List.set_cons_zero, List.set_cons_succ])
            refine wpAnyH_take (i := 9) (v := ?zv80049) rfl (by kernel_rfl) (by kernel_rfl) (by kernel_rfl) (fun _ _ _ h => h) (Or.inl ⟨by kernel_rfl, ?zy80049⟩) (by assumption) ?zr80049
            case zy80049 => (intro w hSw; (try dsimp only at hSw); go_simp; try with_reducible rfl)
            change wpAnyH _ _ _ _ _ _ _ (Act.put _ (some 66) _) _
            simp only [Act.put, List.setIfInBounds_toArray, List.set_cons_zero, List.set_cons_succ]
            refine wpAnyH_take (i := 10) (v := ?zv80050) rfl (by kernel_rfl) (by kernel_rfl) (by kernel_rfl) (fun _ _ _ h => h) (Or.inl ⟨by kernel_rfl, ?zy80050⟩) (by assumption) ?zr80050
            case zy80050 => (intro w hSw; (try dsimp only at hSw); go_simp; try with_reducible rfl)
            change wpAnyH _ _ _ _ _ _ _ (Act.put _ (some 76) _) _
            simp only [Act.put, List.setIfInBounds_toArray, List.set_cons_zero, List.set_cons_succ]
            refine wpAnyH_take (i := 11) (v := ?zv80051) rfl (by kernel_rfl) (by kernel_rfl) (by kernel_rfl) (fun _ _ _ h => h) (Or.inl ⟨by kernel_rfl, ?zy80051⟩) (by assumption) ?zr80051
            case zy80051 => (intro w hSw; (try dsimp only at hSw); go_simp; try with_reducible rfl)
            change wpAnyH _ _ _ _ _ _ _ (Act.put _ (some 77) _) _
            simp only [Act.put, List.setIfInBounds_toArray, List.set_cons_zero, List.set_cons_succ]
            refine wpAnyH_ready (rs := [13]) (by kernel_rfl) (by simp) (AllReadyH.cons rfl (fun K hK => ?zo80052_0) AllReadyH.nil)
            case zo80052_0 =>
              go_simp
              obtain ⟨n0, n1, n2, n3, n4, n5⟩ := feed_cells KL2.out
              have nf := blk_frozen KL2.out
              have hzg : Z2.heap.size ≤ U0.heap.size := by have := HZZ.out; omega
              have hxl := KX0.out.lt
              obtain ⟨U3, HU3⟩ : ∃ U, Hid (((((((U2.setCell ⟨U0.heap.size, 0, none⟩ (.int .i64 p)).setCell ⟨U0.heap.size, 1, none⟩ (.int .i64 l)).setCell ⟨U0.heap.size, 2, none⟩ (.int .i64 d)).setCell ⟨U0.heap.size, 3, none⟩ (.int .i64 s)).setCell ⟨U0.heap.size, 4, none⟩ (.slice Y1 m e1)).setCell ⟨U0.heap.size, 5, none⟩ (.slice Y2 m e3)) = U) := ⟨_, rfl⟩
              have KX3 : Hid (Blk U3 gx 28 (feedC p l d s (some ⟨gs, 0, none⟩) m m (some ⟨gb, 0, none⟩) m m)) := by rw [← HU3.out]; exact ((((((KX2.out.setOther (p := ⟨U0.heap.size, 0, none⟩) (by show U0.heap.size ≠ gx; (have := HGX.out; have := hzg; omega)) _).setOther (p := ⟨U0.heap.size, 1, none⟩) (by show U0.heap.size ≠ gx; (have := HGX.out; have := hzg; omega)) _).setOther (p := ⟨U0.heap.size, 2, none⟩) (by show U0.heap.size ≠ gx; (have := HGX.out; have := hzg; omega)) _).setOther (p := ⟨U0.heap.size, 3, none⟩) (by show U0.heap.size ≠ gx; (have := HGX.out; have := hzg; omega)) _).setOther (p := ⟨U0.heap.size, 4, none⟩) (by show U0.heap.size ≠ gx; (have := HGX.out; have := hzg; omega)) _).setOther (p := ⟨U0.heap.size, 5, none⟩) (by show U0.heap.size ≠ gx; (have := HGX.out; have := hzg; omega)) _)
              have KL3 : Hid (Blk U3 U0.heap.size 28 (feedC p l d s Y1 m e1 Y2 m e3)) := by rw [← HU3.out]; exact blk_six KL2.out _ _ _ _ _ _
              have PF3 : Hid (OwnFeed U3 U1.heap.size Y1 e1 Y2 e3 ((noS m).set k t) ((noB m).set k true)) := by rw [← HU3.out]; exact own_six PF2.out KL2.out _ _ _ _ _ _
              have HY3 : Hid (Below Y.heap.size Y U3) := by rw [← HU3.out]; exact below_six HY2.out (by omega) _ _ _ _ _ _
              go_simp
              rw [HU3.out]
              refine hK.out _ _ (held9 KX3.out ((K4.out.below HY3.out K4.out.lt).cell 4) (HTC.out _ (HB4.out.trans (HY3.out.mono HB4.out.size)))) (fun hHeld => ?_)
              clear hK K
              (try simp only [Act.put])
              refine wpAnyH_take (i := 14) (v := ?zv80053) rfl (by kernel_rfl) (by kernel_rfl) (by kernel_rfl) (fun _ _ _ h => h) (Or.inl ⟨by kernel_rfl, ?zy80053⟩) (by assumption) ?zr80053
              case zy80053 => (intro w hSw; (try dsimp only at hSw); go_simp; try with_reducible rfl)
              change wpAnyH _ _ _ _ _ _ _ (Act.put _ (some 11) _) _
              simp only [Act.put, List.setIfInBounds_toArray, List.set_cons_zero, List.set_cons_succ]
              refine wpAnyH_done (by kernel_rfl) ?_ _
              obtain ⟨k0, k1, k2, k3, k4, k5⟩ := feed_cells (K4.out.below HY3.out K4.out.lt)
              obtain ⟨l0, l1, l2, l3, l4, l5⟩ := feed_cells KL3.out
              have tc := HTC.out _ (HB4.out.trans (HY3.out.mono HB4.out.size))
              obtain ⟨gy, cy, hv, _, _⟩ := World.ownsRow.form PF3.out.strs (by rw [HL1.out]; omega)
              injection hv with hA _ hq
              subst hA
              subst hq
              have tn := (PF3.out.strs.ints.lt (by rw [HL1.out]; omega)).2 k (by rw [HL1.out]; exact hkm)
              rw [Nat.zero_add, HSET.out] at tn
              have het : (t.toList == t.toList) = true := by simp
              have HYF := HY3
              go_wp2_with fail
              go_quiet (fail)
              go_wp2
              go_ret
              exact ⟨ret_bool (by simp), below_drewN (HBW.out.trans (HYF.out.mono HBW.out.size)) _⟩
  · have h9 : 1048576 < len := by omega
    clear hlen
    go_enter Tryd.func8, Tryd.ntmps8
    go_wp2
    go_ret
    exact ⟨rfl, Below.refl _ _⟩

end Go.Proofs.YtnffmmaclmeajaaDoor
