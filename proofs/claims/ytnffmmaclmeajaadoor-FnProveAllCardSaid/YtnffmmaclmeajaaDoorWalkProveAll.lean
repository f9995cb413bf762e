/- The walk of FnProveAll: it returns true and changes nothing that was there. Condition: the codes' bytes lie in memory. -/
import Derived.Test.YtnffmmaclmeajaaDoorDrawFeed
import Derived.Test.YtnffmmaclmeajaaDoorFeedProve
import Derived.Test.YtnffmmaclmeajaaDoorSame
import Derived.Test.YtnffmmaclmeajaaDoorBaseK
import Derived.Test.YtnffmmaclmeajaaDoorPartMath
import Derived.Test.YtnffmmaclmeajaaDoorProofLaws
import Derived.Test.YtnffmmaclmeajaaDoorFeedPut
import Derived.Test.YtnffmmaclmeajaaDoorBaseL
namespace Go.Proofs.YtnffmmaclmeajaaDoor
open Go.RowKit
set_option linter.unusedVariables false

theorem fit_none (m : Nat) : Fit (noS m) := Fit.of fun x hx => by
  unfold noS at hx
  rw [List.eq_of_mem_replicate hx]
  exact Nat.zero_le _
theorem held9 {U : World} {gx gw b ok : Nat} {ty : TypeId} {v0 v1 v2 v3 v4 v5 u t : Value} (h : Blk U gx ty #[v0, v1, v2, v3, v4, v5]) (hu : U.cell? ⟨gw, 4, none⟩ = some u) (ht : U.cell? ⟨b, ok, none⟩ = some t) :
    U.cell? ⟨gx, 0, none⟩ = some v0 ∧ U.cell? ⟨gx, 1, none⟩ = some v1 ∧ U.cell? ⟨gx, 2, none⟩ = some v2 ∧ U.cell? ⟨gx, 3, none⟩ = some v3 ∧ U.cell? ⟨gx, 4, none⟩ = some v4 ∧ U.cell? ⟨gx, 5, none⟩ = some v5 ∧ U.cell? ⟨gw, 4, none⟩ = some u ∧ U.cell? ⟨b, ok, none⟩ = some t := by
  obtain ⟨a0, a1, a2, a3, a4, a5⟩ := feed_cells h
  exact ⟨a0, a1, a2, a3, a4, a5, hu, ht⟩

theorem tmod_add (a b n : Nat) : ((a : Int) + (b : Int)).tmod (n : Int) = (((a + b) % n : Nat) : Int) := by
  rw [Int.tmod_eq_emod_of_nonneg (by omega)]
  rfl

set_option maxHeartbeats 8000000 in
set_option maxRecDepth 100000 in
theorem walkProveAll (A : Option Addr) (len cap : Nat) (w : World) (hTab : Tab w) (hI : In w A len cap) :
    Calls Tryd.prog 9 #[.slice A len cap] w fun e w' => e = .returned (.bool true) ∧ Below w.heap.size w w' := by
  have hm := hI.len_le
  unfold maxLen at hm
  have HI := Lib.hid hI
  have HTB := Lib.hid hTab
  clear hI hTab
  by_cases hlen : len ≤ 1048576
  · go_enter Tryd.func9, Tryd.ntmps9
    go_wp2_with fail
    refine (drawFeedProve_any A len cap _ HI.out).mono ?_
    rintro e w1 ⟨p, l, d, s, A1, c1, A2, c2, bs, hs, i, rfl, ho1, hlb, hlh, hi0, hi1, hb1⟩
    have HB1 := Lib.hid hb1
    have HF := Lib.hid ho1.at_
    obtain ⟨V, HV⟩ : ∃ V, Hid (w1.alloc (.cells (feedC p l d s A1 bs.length c1 A2 hs.length c2) 28) = V) := ⟨_, rfl⟩
    have HBV : Hid (Below w1.heap.size w1 V) := by rw [← HV.out]; exact (Below.refl _ w1).alloc (Nat.le_refl _) _
    have KV : Hid (Blk V w1.heap.size 28 (feedC p l d s A1 bs.length c1 A2 hs.length c2)) := by rw [← HV.out]; exact Blk.new w1 _ _
    have CV : Hid (∀ U, Below w1.heap.size w1 U → Calls Tryd.prog 19 #[feedV p l d s A1 bs.length c1 A2 hs.length c2, .int .i64 i] U (ProveRet U (proveL ⟨p, l, d, s, bs, hs⟩ i) (proveOk ⟨p, l, d, s, bs, hs⟩ i))) := fun U hU => feedProve_any p l d s A1 c1 A2 c2 bs hs i U (HF.out.belowS hU)
    have CS : Hid (∀ U, Below w1.heap.size w1 U → Calls Tryd.prog 21 #[feedV p l d s A1 bs.length c1 A2 hs.length c2, .int .i64 i] U (ProveRet U (proveL ⟨p, l, d, s, bs, hs⟩ i) (proveOk ⟨p, l, d, s, bs, hs⟩ i))) := fun U hU => sfeedProve_any p l d s A1 c1 A2 c2 bs hs i U (HF.out.belowS hU)
    have HZS : Hid ((proveL ⟨p, l, d, s, bs, hs⟩ i).length ≤ maxLen) := by
      show _ ≤ _
      unfold proveL
      split
      · exact Nat.le_trans (proofOr_short _ _) (by unfold maxLen; omega)
      · simp
    obtain ⟨Z, HZ⟩ : ∃ Z, Hid (proveL ⟨p, l, d, s, bs, hs⟩ i = Z) := ⟨_, rfl⟩
    obtain ⟨R, HR⟩ : ∃ R, Hid (proveOk ⟨p, l, d, s, bs, hs⟩ i = R) := ⟨_, rfl⟩
    rw [HZ.out] at CV CS HZS
    rw [HR.out] at CV CS
    have hne : (R != R) = false := by simp
    have heq : (R == R) = true := by simp
    obtain ⟨m, HM⟩ : ∃ m, Hid (bs.length = m) := ⟨_, rfl⟩
    obtain ⟨n, HN⟩ : ∃ n, Hid (hs.length = n) := ⟨_, rfl⟩
    rw [HM.out] at CV CS HV KV hlb ⊢
    rw [HN.out] at CV CS HV KV hlh ⊢
    clear ho1 hb1
    go_wp2_with fail
    rw [HV.out]
    refine (CV.out _ HBV.out).mono ?_
    rintro e w2 ⟨X2, e2, rfl, ho2, hb2⟩
    have K2 := Lib.hid (KV.out.below hb2 KV.out.lt)
    have HB2 : Hid (Below w1.heap.size w1 w2) := HBV.out.trans (hb2.mono HBV.out.size)
    have HO2 := Lib.hid ho2
    obtain ⟨k0, k1, k2, k3, k4, k5⟩ := feed_cells K2.out
    clear hb2 ho2
    go_wp2_with fail
    refine (CS.out _ HB2.out).mono ?_
    rintro e w3 ⟨X3, e3, rfl, ho3, hb3⟩
    have K3 := Lib.hid (K2.out.below hb3 K2.out.lt)
    have HB3 : Hid (Below w1.heap.size w1 w3) := HB2.out.trans (hb3.mono HB2.out.size)
    have HB3w : Hid (Below w.heap.size w w3) := HB1.out.trans (HB3.out.mono HB1.out.size)
    have HO23 := Lib.hid (HO2.out.below hb3)
    have HO3 := Lib.hid ho3
    clear hb3 ho3 k0 k1 k2 k3 k4 k5
    have CE : Hid (∀ q, Calls Tryd.prog 22 #[.slice X2 Z.length e2, .slice X3 Z.length e3] (w3.drewN q) fun e w' => e = .returned (.bool true) ∧ ∃ q', w' = (w3.drewN q).drewN q') := fun q => by
      have h := same_any X2 e2 Z X3 e3 Z (w3.drewN q) (HO23.out.ints.drewN q) (HO3.out.ints.drewN q) HZS.out HZS.out
      rw [deci_same] at h
      exact h
    cases hR : R with
    | false =>
      subst hR
      go_wp2_with fail
      refine (CE.out 0).mono ?_
      rintro e w4 ⟨rfl, q1, rfl⟩
      rw [show (w3.drewN 0).drewN q1 = w3.drewN q1 from by rw [World.drewN_drewN, Nat.zero_add]]
      go_wp2_with fail
      refine (CE.out q1).mono ?_
      rintro e w5 ⟨rfl, q2, rfl⟩
      go_wp2
      go_ret
      exact ⟨rfl, below_drewN HB3w.out _⟩
    | true =>
      subst hR
      obtain ⟨hok, hwh, hi00, hi01⟩ := (proveOk_iff _ _).1 HR.out
      have hi02 : i < (bs.length : Int) := hi01
      rw [HM.out] at hi02
      obtain ⟨k, hk⟩ : ∃ k : Nat, i = (k : Int) := ⟨i.toNat, by omega⟩
      subst hk
      have hkm : k < m := by omega
      have hacc : treeOkB d l (k : Int) (textOr (sth bs k)) Z = true := by
        have h := (prove_ok HR.out).1
        rw [HZ.out] at h
        exact h
      obtain ⟨t, HTX⟩ : ∃ t, Hid (sth bs k = t) := ⟨_, rfl⟩
      have hfk := HF.out.fit k
      rw [HTX.out] at hacc hfk
      have HFK := Lib.hid hfk
      have hpos : 0 < bs.length := by rw [HM.out]; omega
      obtain ⟨b, o, rfl, hb, hcell⟩ := HF.out.strs.at_ hpos
      have HTC : Hid (∀ U (a : Nat) (ta : ByteArray) {P : Prop}, Below w1.heap.size w1 U → (a < m ∧ sth bs a = ta ∧ P) → U.cell? ⟨b, o + a, none⟩ = some (.string ta)) := fun U a ta _ hU hA => by
        have h := ((HF.out.belowS hU).strs.lt hpos).2 a (by rw [HM.out]; exact hA.1)
        rw [hA.2.1] at h
        exact h
      have hk0 : (0 : Int) ≤ (k : Int) := by omega
      have hki : (k : Int) < (m : Int) := by omega
      have hnm : m = n := by
        have h2 : hs.length = bs.length := hok.len.2
        rw [HM.out, HN.out] at h2
        exact h2.symm
      have hm16 : m ≤ 16 := by have h2 : bs.length ≤ 16 := hok.len.1; rw [HM.out] at h2; exact h2
      have HPA : Hid (∀ a : Nat, a < m → proveOk ⟨p, l, d, s, bs, hs⟩ (a : Int) = true) := fun a ha => (proveOk_iff _ _).2 ⟨hok, hwh, by omega, by show (a : Int) < (bs.length : Int); rw [HM.out]; omega⟩
      subst hnm
      clear hok hwh hcell hfk
      go_wp2_with fail
      refine (CE.out 0).mono ?_
      rintro e w4 ⟨rfl, q1, rfl⟩
      have K4 : Hid (Blk ((w3.drewN 0).drewN q1) w1.heap.size 28 (feedC p l d s (some ⟨b, o, none⟩) m c1 A2 m c2)) := K3.out
      have HB4 : Hid (Below w1.heap.size w1 ((w3.drewN 0).drewN q1)) := below_drewN (below_drewN HB3.out 0) q1
      have HO4 := Lib.hid ((HO23.out.drewN 0).drewN q1)
      obtain ⟨Y, HY⟩ : ∃ Y, Hid ((w3.drewN 0).drewN q1 = Y) := ⟨_, rfl⟩
      rw [HY.out] at K4 HB4 HO4 ⊢
      have HBW : Hid (Below w.heap.size w Y) := HB1.out.trans (HB4.out.mono HB1.out.size)
      have CPV : Hid (∀ U, Below w1.heap.size w1 U → ∀ a : Nat, a < m → Calls Tryd.prog 19 #[feedV p l d s (some ⟨b, o, none⟩) m c1 A2 m c2, .int .i64 (a : Int)] U (ProveRet U (proveL ⟨p, l, d, s, bs, hs⟩ (a : Int)) true)) := fun U hU a ha => by
        have h := feedProve_any p l d s (some ⟨b, o, none⟩) c1 A2 c2 bs hs (a : Int) U (HF.out.belowS hU)
        rw [HM.out, HN.out, HPA.out a ha] at h
        exact h
      have CP : Hid (∀ U (B1 : Option Addr) (d1 : Nat) (B2 : Option Addr) (d2 : Nat) (S : Nat → Bool) (a : Nat) (ta : ByteArray) (X3 : Option Addr) (e7 : Nat) (ZA : List Int), Below Y.heap.size Y U → (a < m ∧ sth bs a = ta ∧ proveL ⟨p, l, d, s, bs, hs⟩ (a : Int) = ZA) → S a = false → FeedAt U U.heap.size B1 B2 (partS bs S) (partB m S) → (∀ {base : Nat}, OwnInts U base X3 e7 ZA → Calls Tryd.prog 13 #[feedV p l d s B1 m d1 B2 m d2, .int .i64 (a : Int), .string ta, .slice X3 ZA.length e7] U fun e w' => ∃ D1 f1 D2 f2, e = .returned (.tuple #[feedV p l d s D1 m f1 D2 m f2, .bool true]) ∧ OwnFeed w' U.heap.size D1 f1 D2 f2 (partS bs (fun j => S j || j == a)) (partB m (fun j => S j || j == a)) ∧ Below U.heap.size U w')) := fun U B1 d1 B2 d2 S a ta X3 e7 ZA hU hA hS hFU base hO => by
        obtain ⟨ha, rfl, rfl⟩ := hA
        have hpa := HPA.out a ha
        have hpo : putOk ⟨p, l, d, s, partS bs S, partB m S⟩ (a : Int) (sth bs a) (proveL ⟨p, l, d, s, bs, hs⟩ (a : Int)) = true := by
          have h := part_putOk (S := S) hpa hS
          unfold partF at h
          have h2 : putOk ⟨p, l, d, s, partS bs S, partB bs.length S⟩ (a : Int) (sth bs a) (proveL ⟨p, l, d, s, bs, hs⟩ (a : Int)) = true := h
          rw [HM.out] at h2
          exact h2
        have hput : putF ⟨p, l, d, s, partS bs S, partB m S⟩ a (sth bs a) = ⟨p, l, d, s, partS bs (fun j => S j || j == a), partB m (fun j => S j || j == a)⟩ := by
          have h := part_put (f := ⟨p, l, d, s, bs, hs⟩) (S := S) a (by show a < bs.length; rw [HM.out]; exact ha)
          unfold partF at h
          have h2 : putF ⟨p, l, d, s, partS bs S, partB bs.length S⟩ a (sth bs a) = ⟨p, l, d, s, partS bs (fun j => S j || j == a), partB bs.length (fun j => S j || j == a)⟩ := h
          rw [HM.out] at h2
          exact h2
        have h := feedPut_any p l d s B1 d1 B2 d2 (partS bs S) (partB m S) (a : Int) (sth bs a) X3 e7 (proveL ⟨p, l, d, s, bs, hs⟩ (a : Int)) U (HTB.out.below (HBW.out.trans (hU.mono HBW.out.size))) hFU hO.ints hO.formA hO.le.1 hO.le.2 (HF.out.fit a)
        rw [partS_length, partB_length, HM.out, putR_yes hpo, hpo, Int.toNat_natCast, hput] at h
        refine h.mono ?_
        rintro e w' ⟨D1, f1, D2, f2, rfl, ho, hb⟩
        refine ⟨D1, f1, D2, f2, ?_, ho, hb⟩
        show Ending.returned (.tuple #[feedV p l d s D1 (partS bs (fun j => S j || j == a)).length f1 D2 (partB m (fun j => S j || j == a)).length f2, .bool true]) = _
        rw [partS_length, partB_length, HM.out]
      obtain ⟨k0, k1, k2, k3, k4, k5⟩ := feed_cells K4.out
      have hmkS := run_make_row' (P := Tryd.prog) 25 9 (.string ByteArray.empty) 16 Tryd.underlying25 string_info rfl .i64 .i64 m (by omega) (by omega)
      simp only [madeCells_sals] at hmkS
      have hmkB := run_make_row' (P := Tryd.prog) 26 4 (.bool false) 1 Tryd.underlying26 bool_info rfl .i64 .i64 m (by omega) (by omega)
      simp only [madeCells_bals] at hmkB
      go_upto_region 8 with fail
      go_cut [9] (fun s9 wx => ∃ gx gs gb : Nat, s9 = .pointer (some ⟨gx, 0, none⟩) ∧ Y.heap.size ≤ gx ∧ Y.heap.size ≤ gs ∧ Y.heap.size ≤ gb ∧ gx ≠ gs ∧ gx ≠ gb ∧ gs ≠ gb ∧ Hid (Blk wx gx 28 (feedC p l d s (some ⟨gs, 0, none⟩) m m (some ⟨gb, 0, none⟩) m m)) ∧ Hid (Blk wx gs 9 (sals (noS m)).toArray) ∧ Hid (Blk wx gb 4 (bals (noB m)).toArray) ∧ Hid (Below Y.heap.size Y wx))
      case first =>
        (try go_wp2_with fail)
        refine wp_region_held_drew (S := (fun w' => w'.cell? ⟨w1.heap.size, 0, none⟩ = some (.int .i64 p) ∧ w'.cell? ⟨w1.heap.size, 1, none⟩ = some (.int .i64 l) ∧ w'.cell? ⟨w1.heap.size, 2, none⟩ = some (.int .i64 d) ∧ w'.cell? ⟨w1.heap.size, 3, none⟩ = some (.int .i64 s) ∧ w'.cell? ⟨w1.heap.size, 4, none⟩ = some (.slice (some ⟨b, o, none⟩) m c1) ∧ w'.cell? ⟨w1.heap.size, 5, none⟩ = some (.slice A2 m c2))) (by kernel_rfl) (feed_cells K4.out) (fun hHeld => ?_)
        obtain ⟨U0, HU0⟩ : ∃ U, Hid (Y.drew = U) := ⟨_, rfl⟩
        have HY0 : Hid (Below Y.heap.size Y U0) := by rw [← HU0.out]; exact below_drew (Below.refl _ _)
        rw [HU0.out] at hHeld ⊢
        refine wpAnyH_take (i := 0) (v := ?zv90001) rfl (by kernel_rfl) (by kernel_rfl) (by kernel_rfl) (fun _ _ _ h => h) (Or.inl ⟨by kernel_rfl, ?zy90001⟩) (by assumption) ?zr90001
        case zy90001 => (intro w hSw; (try dsimp only at hSw); go_simp; try with_reducible rfl)
        change wpAnyH _ _ _ _ _ _ _ (Act.put _ (some 57) _) _
        simp only [Act.put, List.setIfInBounds_toArray, List.set_cons_zero, List.set_cons_succ]
        refine wpAnyH_take (i := 2) (v := ?zv90002) rfl (by kernel_rfl) (by kernel_rfl) (by kernel_rfl) (fun _ _ _ h => h) (Or.inl ⟨by kernel_rfl, ?zy90002⟩) (by assumption) ?zr90002
        case zy90002 => (intro w hSw; (try dsimp only at hSw); go_simp; try with_reducible rfl)
        change wpAnyH _ _ _ _ _ _ _ (Act.put _ (some 59) _) _
        simp only [Act.put, List.setIfInBounds_toArray, List.set_cons_zero, List.set_cons_succ]
        refine wpAnyH_take (i := 4) (v := ?zv90003) rfl (by kernel_rfl) (by kernel_rfl) (by kernel_rfl) (fun _ _ _ h => h) (Or.inl ⟨by kernel_rfl, ?zy90003⟩) (by assumption) ?zr90003
        case zy90003 => (intro w hSw; (try dsimp only at hSw); go_simp; try with_reducible rfl)
        change wpAnyH _ _ _ _ _ _ _ (Act.put _ (some 61) _) _
        simp only [Act.put, List.setIfInBounds_toArray, List.set_cons_zero, List.set_cons_succ]
        refine wpAnyH_take (i := 8) (v := ?zv90004) rfl (by kernel_rfl) (by kernel_rfl) (by kernel_rfl) (fun _ _ _ h => h) (Or.inl ⟨by kernel_rfl, ?zy90004⟩) (by assumption) ?zr90004
        case zy90004 => (intro w hSw; (try dsimp only at hSw); go_simp; try with_reducible rfl)
        change wpAnyH _ _ _ _ _ _ _ (Act.put _ (some 65) _) _
        simp only [Act.put, List.setIfInBounds_toArray, List.set_cons_zero, List.set_cons_succ]
        refine wpAnyH_take (i := 1) (v := ?zv90005) rfl (by kernel_rfl) (by kernel_rfl) (by kernel_rfl) (fun _ _ _ h => h) (Or.inl ⟨by kernel_rfl, ?zy90005⟩) (by assumption) ?zr90005
        case zy90005 => (intro w hSw; (try dsimp only at hSw); go_simp; try with_reducible rfl)
        change wpAnyH _ _ _ _ _ _ _ (Act.put _ (some 58) _) _
        simp only [Act.put, List.setIfInBounds_toArray, List.set_cons_zero, List.set_cons_succ]
        refine wpAnyH_take (i := 3) (v := ?zv90006) rfl (by kernel_rfl) (by kernel_rfl) (by kernel_rfl) (fun _ _ _ h => h) (Or.inl ⟨by kernel_rfl, ?zy90006⟩) (by assumption) ?zr90006
        case zy90006 => (intro w hSw; (try dsimp only at hSw); go_simp; try with_reducible rfl)
        change wpAnyH _ _ _ _ _ _ _ (Act.put _ (some 60) _) _
        simp only [Act.put, List.setIfInBounds_toArray, List.set_cons_zero, List.set_cons_succ]
        refine wpAnyH_take (i := 5) (v := ?zv90007) rfl (by kernel_rfl) (by kernel_rfl) (by kernel_rfl) (fun _ _ _ h => h) (Or.inl ⟨by kernel_rfl, ?zy90007⟩) (by assumption) ?zr90007
        case zy90007 => (intro w hSw; (try dsimp only at hSw); go_simp; try with_reducible rfl)
        change wpAnyH _ _ _ _ _ _ _ (Act.put _ (some 62) _) _
        simp only [Act.put, List.setIfInBounds_toArray, List.set_cons_zero, List.set_cons_succ]
        refine wpAnyH_take (i := 9) (v := ?zv90008) rfl (by kernel_rfl) (by kernel_rfl) (by kernel_rfl) (fun _ _ _ h => h) (Or.inl ⟨by kernel_rfl, ?zy90008⟩) (by assumption) ?zr90008
        case zy90008 => (intro w hSw; (try dsimp only at hSw); go_simp; try with_reducible rfl)
        change wpAnyH _ _ _ _ _ _ _ (Act.put _ (some 66) _) _
        simp only [Act.put, List.setIfInBounds_toArray, List.set_cons_zero, List.set_cons_succ]
        refine wpAnyH_take (i := 6) (v := ?zv90009) rfl (by kernel_rfl) (by kernel_rfl) (by kernel_rfl) (fun _ _ _ h => h) (Or.inl ⟨by kernel_rfl, ?zy90009⟩) (by assumption) ?zr90009
        case zy90009 => (intro w hSw; (try dsimp only at hSw); go_simp; try with_reducible rfl)
        change wpAnyH _ _ _ _ _ _ _ (Act.put _ (some 63) _) _
        simp only [Act.put, List.setIfInBounds_toArray, List.set_cons_zero, List.set_cons_succ]
        refine wpAnyH_take (i := 10) (v := ?zv90010) rfl (by kernel_rfl) (by kernel_rfl) (by kernel_rfl) (fun _ _ _ h => h) (Or.inl ⟨by kernel_rfl, ?zy90010⟩) (by assumption) ?zr90010
        case zy90010 => (intro w hSw; (try dsimp only at hSw); go_simp; try with_reducible rfl)
        change wpAnyH _ _ _ _ _ _ _ (Act.put _ (some 67) _) _
        simp only [Act.put, List.setIfInBounds_toArray, List.set_cons_zero, List.set_cons_succ]
        refine wpAnyH_ready (rs := [7, 11, 13]) (by kernel_rfl) (by simp) (AllReadyH.cons rfl (fun K hK => ?zo90011_0) (AllReadyH.cons rfl (fun K hK => ?zo90011_1) (AllReadyH.cons rfl (fun K hK => ?zo90011_2) AllReadyH.nil)))
        case zo90011_0 =>
          go_simp
          refine hK.out _ _ (feed_cells (K4.out.below (HY0.out.alloc HY0.out.size _) K4.out.lt)) (fun hHeld => ?_)
          clear hK K
          (try simp only [Act.put, List.setIfInBounds_toArray, List.set_cons_zero, List.set_cons_succ])
          obtain ⟨U1, HU1⟩ : ∃ U, Hid (U0.alloc (.cells (sals (noS m)).toArray 9) = U) := ⟨_, rfl⟩
          have hb1 : Below U0.heap.size U0 U1 := by rw [← HU1.out]; exact (Below.refl _ _).alloc (Nat.le_refl _) _
          have HY1 : Hid (Below Y.heap.size Y U1) := HY0.out.trans (hb1.mono HY0.out.size)
          have KS1 : Hid (Blk U1 U0.heap.size 9 (sals (noS m)).toArray) := by rw [← HU1.out]; exact Blk.new U0 _ _
          have hz1 : U0.heap.size < U1.heap.size := KS1.out.lt
          have hzy1 : Y.heap.size ≤ U0.heap.size := HY0.out.size
          rw [HU1.out] at hHeld ⊢
          refine wpAnyH_ready (rs := [11, 13]) (by kernel_rfl) (by simp) (AllReadyH.cons rfl (fun K hK => ?zo90012_0) (AllReadyH.cons rfl (fun K hK => ?zo90012_1) AllReadyH.nil))
          case zo90012_0 =>
            go_simp
            refine hK.out _ _ (feed_cells (K4.out.below (HY1.out.alloc HY1.out.size _) K4.out.lt)) (fun hHeld => ?_)
            clear hK K
            (try simp only [Act.put, List.setIfInBounds_toArray, List.set_cons_zero, List.set_cons_succ])
            obtain ⟨U2, HU2⟩ : ∃ U, Hid (U1.alloc (.cells (bals (noB m)).toArray 4) = U) := ⟨_, rfl⟩
            have hb2 : Below U1.heap.size U1 U2 := by rw [← HU2.out]; exact (Below.refl _ _).alloc (Nat.le_refl _) _
            have HY2 : Hid (Below Y.heap.size Y U2) := HY1.out.trans (hb2.mono HY1.out.size)
            have KS2 := Lib.hid (KS1.out.below hb2 KS1.out.lt)
            have KB2 : Hid (Blk U2 U1.heap.size 4 (bals (noB m)).toArray) := by rw [← HU2.out]; exact Blk.new U1 _ _
            have hz2 : U1.heap.size < U2.heap.size := KB2.out.lt
            have hzy2 : Y.heap.size ≤ U1.heap.size := HY1.out.size
            rw [HU2.out] at hHeld ⊢
            refine wpAnyH_take (i := 12) (v := ?zv90013) rfl (by kernel_rfl) (by kernel_rfl) (by kernel_rfl) (fun _ _ _ h => h) (Or.inl ⟨by kernel_rfl, ?zy90013⟩) (by assumption) ?zr90013
            case zy90013 => (intro w hSw; (try dsimp only at hSw); go_simp; try with_reducible rfl)
            change wpAnyH _ _ _ _ _ _ _ (Act.put _ (some 69) _) _
            simp only [Act.put, List.setIfInBounds_toArray, List.set_cons_zero, List.set_cons_succ]
            refine wpAnyH_ready (rs := [13]) (by kernel_rfl) (by simp) (AllReadyH.cons rfl (fun K hK => ?zo90014_0) AllReadyH.nil)
            case zo90014_0 =>
              go_simp
              refine hK.out _ _ (feed_cells (K4.out.below (HY2.out.alloc HY2.out.size _) K4.out.lt)) (fun hHeld => ?_)
              clear hK K
              (try simp only [Act.put, List.setIfInBounds_toArray, List.set_cons_zero, List.set_cons_succ])
              obtain ⟨U3, HU3⟩ : ∃ U, Hid (U2.alloc (.cells (feedC 0 0 0 0 none 0 0 none 0 0) 28) = U) := ⟨_, rfl⟩
              have hb3 : Below U2.heap.size U2 U3 := by rw [← HU3.out]; exact (Below.refl _ _).alloc (Nat.le_refl _) _
              have HY3 : Hid (Below Y.heap.size Y U3) := HY2.out.trans (hb3.mono HY2.out.size)
              have KS3 := Lib.hid (KS2.out.below hb3 KS2.out.lt)
              have KB3 := Lib.hid (KB2.out.below hb3 KB2.out.lt)
              have KX3 : Hid (Blk U3 U2.heap.size 28 (feedC 0 0 0 0 none 0 0 none 0 0)) := by rw [← HU3.out]; exact Blk.new U2 _ _
              have hz3 : U2.heap.size < U3.heap.size := KX3.out.lt
              have hzy3 : Y.heap.size ≤ U2.heap.size := HY2.out.size
              rw [HU3.out] at hHeld ⊢
              refine wpAnyH_ready (rs := [14]) (by kernel_rfl) (by simp) (AllReadyH.cons rfl (fun K hK => ?zo90015_0) AllReadyH.nil)
              case zo90015_0 =>
                go_simp
                obtain ⟨n0, n1, n2, n3, n4, n5⟩ := feed_cells KX3.out
                have nf := blk_frozen KX3.out
                obtain ⟨U4, HU4⟩ : ∃ U, Hid (((((((U3.setCell ⟨U2.heap.size, 0, none⟩ (.int .i64 p)).setCell ⟨U2.heap.size, 1, none⟩ (.int .i64 l)).setCell ⟨U2.heap.size, 2, none⟩ (.int .i64 d)).setCell ⟨U2.heap.size, 3, none⟩ (.int .i64 s)).setCell ⟨U2.heap.size, 4, none⟩ (.slice (some ⟨U0.heap.size, 0, none⟩) m m)).setCell ⟨U2.heap.size, 5, none⟩ (.slice (some ⟨U1.heap.size, 0, none⟩) m m)) = U) := ⟨_, rfl⟩
                have KS4 : Hid (Blk U4 (U0.heap.size) 9 (sals (noS m)).toArray) := by rw [← HU4.out]; exact ((((((KS3.out.setOther (p := ⟨U2.heap.size, 0, none⟩) (by show U2.heap.size ≠ U0.heap.size; omega) _).setOther (p := ⟨U2.heap.size, 1, none⟩) (by show U2.heap.size ≠ U0.heap.size; omega) _).setOther (p := ⟨U2.heap.size, 2, none⟩) (by show U2.heap.size ≠ U0.heap.size; omega) _).setOther (p := ⟨U2.heap.size, 3, none⟩) (by show U2.heap.size ≠ U0.heap.size; omega) _).setOther (p := ⟨U2.heap.size, 4, none⟩) (by show U2.heap.size ≠ U0.heap.size; omega) _).setOther (p := ⟨U2.heap.size, 5, none⟩) (by show U2.heap.size ≠ U0.heap.size; omega) _)
                have KB4 : Hid (Blk U4 (U1.heap.size) 4 (bals (noB m)).toArray) := by rw [← HU4.out]; exact ((((((KB3.out.setOther (p := ⟨U2.heap.size, 0, none⟩) (by show U2.heap.size ≠ U1.heap.size; omega) _).setOther (p := ⟨U2.heap.size, 1, none⟩) (by show U2.heap.size ≠ U1.heap.size; omega) _).setOther (p := ⟨U2.heap.size, 2, none⟩) (by show U2.heap.size ≠ U1.heap.size; omega) _).setOther (p := ⟨U2.heap.size, 3, none⟩) (by show U2.heap.size ≠ U1.heap.size; omega) _).setOther (p := ⟨U2.heap.size, 4, none⟩) (by show U2.heap.size ≠ U1.heap.size; omega) _).setOther (p := ⟨U2.heap.size, 5, none⟩) (by show U2.heap.size ≠ U1.heap.size; omega) _)
                have KX4 : Hid (Blk U4 U2.heap.size 28 (feedC p l d s (some ⟨U0.heap.size, 0, none⟩) m m (some ⟨U1.heap.size, 0, none⟩) m m)) := by rw [← HU4.out]; exact blk_six KX3.out _ _ _ _ _ _
                have HY4 : Hid (Below Y.heap.size Y U4) := by rw [← HU4.out]; exact below_six HY3.out (by omega) _ _ _ _ _ _
                go_simp
                rw [HU4.out]
                refine hK.out _ _ (feed_cells (K4.out.below HY4.out K4.out.lt)) (fun hHeld => ?_)
                clear hK K
                (try simp only [Act.put])
                refine wpAnyH_done (by kernel_rfl) ?_ _
                (try go_wp2_with fail)
                go_meet
                exact ⟨_, _, _, rfl, by omega, by omega, by omega, by omega, by omega, by omega, KX4, KS4, KB4, HY4⟩
          case zo90012_1 =>
            go_simp
            refine hK.out _ _ (feed_cells (K4.out.below (HY1.out.alloc HY1.out.size _) K4.out.lt)) (fun hHeld => ?_)
            clear hK K
            (try simp only [Act.put, List.setIfInBounds_toArray, List.set_cons_zero, List.set_cons_succ])
            obtain ⟨U2, HU2⟩ : ∃ U, Hid (U1.alloc (.cells (feedC 0 0 0 0 none 0 0 none 0 0) 28) = U) := ⟨_, rfl⟩
            have hb2 : Below U1.heap.size U1 U2 := by rw [← HU2.out]; exact (Below.refl _ _).alloc (Nat.le_refl _) _
            have HY2 : Hid (Below Y.heap.size Y U2) := HY1.out.trans (hb2.mono HY1.out.size)
            have KS2 := Lib.hid (KS1.out.below hb2 KS1.out.lt)
            have KX2 : Hid (Blk U2 U1.heap.size 28 (feedC 0 0 0 0 none 0 0 none 0 0)) := by rw [← HU2.out]; exact Blk.new U1 _ _
            have hz2 : U1.heap.size < U2.heap.size := KX2.out.lt
            have hzy2 : Y.heap.size ≤ U1.heap.size := HY1.out.size
            rw [HU2.out] at hHeld ⊢
            refine wpAnyH_ready (rs := [11]) (by kernel_rfl) (by simp) (AllReadyH.cons rfl (fun K hK => ?zo90016_0) AllReadyH.nil)
            case zo90016_0 =>
              go_simp
              refine hK.out _ _ (feed_cells (K4.out.below (HY2.out.alloc HY2.out.size _) K4.out.lt)) (fun hHeld => ?_)
              clear hK K
              (try simp only [Act.put, List.setIfInBounds_toArray, List.set_cons_zero, List.set_cons_succ])
              obtain ⟨U3, HU3⟩ : ∃ U, Hid (U2.alloc (.cells (bals (noB m)).toArray 4) = U) := ⟨_, rfl⟩
              have hb3 : Below U2.heap.size U2 U3 := by rw [← HU3.out]; exact (Below.refl _ _).alloc (Nat.le_refl _) _
              have HY3 : Hid (Below Y.heap.size Y U3) := HY2.out.trans (hb3.mono HY2.out.size)
              have KS3 := Lib.hid (KS2.out.below hb3 KS2.out.lt)
              have KX3 := Lib.hid (KX2.out.below hb3 KX2.out.lt)
              have KB3 : Hid (Blk U3 U2.heap.size 4 (bals (noB m)).toArray) := by rw [← HU3.out]; exact Blk.new U2 _ _
              have hz3 : U2.heap.size < U3.heap.size := KB3.out.lt
              have hzy3 : Y.heap.size ≤ U2.heap.size := HY2.out.size
              rw [HU3.out] at hHeld ⊢
              refine wpAnyH_take (i := 12) (v := ?zv90017) rfl (by kernel_rfl) (by kernel_rfl) (by kernel_rfl) (fun _ _ _ h => h) (Or.inl ⟨by kernel_rfl, ?zy90017⟩) (by assumption) ?zr90017
              case zy90017 => (intro w hSw; (try dsimp only at hSw); go_simp; try with_reducible rfl)
              change wpAnyH _ _ _ _ _ _ _ (Act.put _ (some 69) _) _
              simp only [Act.put, List.setIfInBounds_toArray, List.set_cons_zero, List.set_cons_succ]
              refine wpAnyH_ready (rs := [14]) (by kernel_rfl) (by simp) (AllReadyH.cons rfl (fun K hK => ?zo90018_0) AllReadyH.nil)
              case zo90018_0 =>
                go_simp
                obtain ⟨n0, n1, n2, n3, n4, n5⟩ := feed_cells KX3.out
                have nf := blk_frozen KX3.out
                obtain ⟨U4, HU4⟩ : ∃ U, Hid (((((((U3.setCell ⟨U1.heap.size, 0, none⟩ (.int .i64 p)).setCell ⟨U1.heap.size, 1, none⟩ (.int .i64 l)).setCell ⟨U1.heap.size, 2, none⟩ (.int .i64 d)).setCell ⟨U1.heap.size, 3, none⟩ (.int .i64 s)).setCell ⟨U1.heap.size, 4, none⟩ (.slice (some ⟨U0.heap.size, 0, none⟩) m m)).setCell ⟨U1.heap.size, 5, none⟩ (.slice (some ⟨U2.heap.size, 0, none⟩) m m)) = U) := ⟨_, rfl⟩
                have KS4 : Hid (Blk U4 (U0.heap.size) 9 (sals (noS m)).toArray) := by rw [← HU4.out]; exact ((((((KS3.out.setOther (p := ⟨U1.heap.size, 0, none⟩) (by show U1.heap.size ≠ U0.heap.size; omega) _).setOther (p := ⟨U1.heap.size, 1, none⟩) (by show U1.heap.size ≠ U0.heap.size; omega) _).setOther (p := ⟨U1.heap.size, 2, none⟩) (by show U1.heap.size ≠ U0.heap.size; omega) _).setOther (p := ⟨U1.heap.size, 3, none⟩) (by show U1.heap.size ≠ U0.heap.size; omega) _).setOther (p := ⟨U1.heap.size, 4, none⟩) (by show U1.heap.size ≠ U0.heap.size; omega) _).setOther (p := ⟨U1.heap.size, 5, none⟩) (by show U1.heap.size ≠ U0.heap.size; omega) _)
                have KB4 : Hid (Blk U4 (U2.heap.size) 4 (bals (noB m)).toArray) := by rw [← HU4.out]; exact ((((((KB3.out.setOther (p := ⟨U1.heap.size, 0, none⟩) (by show U1.heap.size ≠ U2.heap.size; omega) _).setOther (p := ⟨U1.heap.size, 1, none⟩) (by show U1.heap.size ≠ U2.heap.size; omega) _).setOther (p := ⟨U1.heap.size, 2, none⟩) (by show U1.heap.size ≠ U2.heap.size; omega) _).setOther (p := ⟨U1.heap.size, 3, none⟩) (by show U1.heap.size ≠ U2.heap.size; omega) _).setOther (p := ⟨U1.heap.size, 4, none⟩) (by show U1.heap.size ≠ U2.heap.size; omega) _).setOther (p := ⟨U1.heap.size, 5, none⟩) (by show U1.heap.size ≠ U2.heap.size; omega) _)
                have KX4 : Hid (Blk U4 U1.heap.size 28 (feedC p l d s (some ⟨U0.heap.size, 0, none⟩) m m (some ⟨U2.heap.size, 0, none⟩) m m)) := by rw [← HU4.out]; exact blk_six KX3.out _ _ _ _ _ _
                have HY4 : Hid (Below Y.heap.size Y U4) := by rw [← HU4.out]; exact below_six HY3.out (by omega) _ _ _ _ _ _
                go_simp
                rw [HU4.out]
                refine hK.out _ _ (feed_cells (K4.out.below HY4.out K4.out.lt)) (fun hHeld => ?_)
                clear hK K
                (try simp only [Act.put])
                refine wpAnyH_done (by kernel_rfl) ?_ _
                (try go_wp2_with fail)
                go_meet
                exact ⟨_, _, _, rfl, by omega, by omega, by omega, by omega, by omega, by omega, KX4, KS4, KB4, HY4⟩
        case zo90011_1 =>
          go_simp
          refine hK.out _ _ (feed_cells (K4.out.below (HY0.out.alloc HY0.out.size _) K4.out.lt)) (fun hHeld => ?_)
          clear hK K
          (try simp only [Act.put, List.setIfInBounds_toArray, List.set_cons_zero, List.set_cons_succ])
          obtain ⟨U1, HU1⟩ : ∃ U, Hid (U0.alloc (.cells (bals (noB m)).toArray 4) = U) := ⟨_, rfl⟩
          have hb1 : Below U0.heap.size U0 U1 := by rw [← HU1.out]; exact (Below.refl _ _).alloc (Nat.le_refl _) _
          have HY1 : Hid (Below Y.heap.size Y U1) := HY0.out.trans (hb1.mono HY0.out.size)
          have KB1 : Hid (Blk U1 U0.heap.size 4 (bals (noB m)).toArray) := by rw [← HU1.out]; exact Blk.new U0 _ _
          have hz1 : U0.heap.size < U1.heap.size := KB1.out.lt
          have hzy1 : Y.heap.size ≤ U0.heap.size := HY0.out.size
          rw [HU1.out] at hHeld ⊢
          refine wpAnyH_ready (rs := [7, 13]) (by kernel_rfl) (by simp) (AllReadyH.cons rfl (fun K hK => ?zo90019_0) (AllReadyH.cons rfl (fun K hK => ?zo90019_1) AllReadyH.nil))
          case zo90019_0 =>
            go_simp
            refine hK.out _ _ (feed_cells (K4.out.below (HY1.out.alloc HY1.out.size _) K4.out.lt)) (fun hHeld => ?_)
            clear hK K
            (try simp only [Act.put, List.setIfInBounds_toArray, List.set_cons_zero, List.set_cons_succ])
            obtain ⟨U2, HU2⟩ : ∃ U, Hid (U1.alloc (.cells (sals (noS m)).toArray 9) = U) := ⟨_, rfl⟩
            have hb2 : Below U1.heap.size U1 U2 := by rw [← HU2.out]; exact (Below.refl _ _).alloc (Nat.le_refl _) _
            have HY2 : Hid (Below Y.heap.size Y U2) := HY1.out.trans (hb2.mono HY1.out.size)
            have KB2 := Lib.hid (KB1.out.below hb2 KB1.out.lt)
            have KS2 : Hid (Blk U2 U1.heap.size 9 (sals (noS m)).toArray) := by rw [← HU2.out]; exact Blk.new U1 _ _
            have hz2 : U1.heap.size < U2.heap.size := KS2.out.lt
            have hzy2 : Y.heap.size ≤ U1.heap.size := HY1.out.size
            rw [HU2.out] at hHeld ⊢
            refine wpAnyH_take (i := 12) (v := ?zv90020) rfl (by kernel_rfl) (by kernel_rfl) (by kernel_rfl) (fun _ _ _ h => h) (Or.inl ⟨by kernel_rfl, ?zy90020⟩) (by assumption) ?zr90020
            case zy90020 => (intro w hSw; (try dsimp only at hSw); go_simp; try with_reducible rfl)
            change wpAnyH _ _ _ _ _ _ _ (Act.put _ (some 69) _) _
            simp only [Act.put, List.setIfInBounds_toArray, List.set_cons_zero, List.set_cons_succ]
            refine wpAnyH_ready (rs := [13]) (by kernel_rfl) (by simp) (AllReadyH.cons rfl (fun K hK => ?zo90021_0) AllReadyH.nil)
            case zo90021_0 =>
              go_simp
              refine hK.out _ _ (feed_cells (K4.out.below (HY2.out.alloc HY2.out.size _) K4.out.lt)) (fun hHeld => ?_)
              clear hK K
              (try simp only [Act.put, List.setIfInBounds_toArray, List.set_cons_zero, List.set_cons_succ])
              obtain ⟨U3, HU3⟩ : ∃ U, Hid (U2.alloc (.cells (feedC 0 0 0 0 none 0 0 none 0 0) 28) = U) := ⟨_, rfl⟩
              have hb3 : Below U2.heap.size U2 U3 := by rw [← HU3.out]; exact (Below.refl _ _).alloc (Nat.le_refl _) _
              have HY3 : Hid (Below Y.heap.size Y U3) := HY2.out.trans (hb3.mono HY2.out.size)
              have KB3 := Lib.hid (KB2.out.below hb3 KB2.out.lt)
              have KS3 := Lib.hid (KS2.out.below hb3 KS2.out.lt)
              have KX3 : Hid (Blk U3 U2.heap.size 28 (feedC 0 0 0 0 none 0 0 none 0 0)) := by rw [← HU3.out]; exact Blk.new U2 _ _
              have hz3 : U2.heap.size < U3.heap.size := KX3.out.lt
              have hzy3 : Y.heap.size ≤ U2.heap.size := HY2.out.size
              rw [HU3.out] at hHeld ⊢
              refine wpAnyH_ready (rs := [14]) (by kernel_rfl) (by simp) (AllReadyH.cons rfl (fun K hK => ?zo90022_0) AllReadyH.nil)
              case zo90022_0 =>
                go_simp
                obtain ⟨n0, n1, n2, n3, n4, n5⟩ := feed_cells KX3.out
                have nf := blk_frozen KX3.out
                obtain ⟨U4, HU4⟩ : ∃ U, Hid (((((((U3.setCell ⟨U2.heap.size, 0, none⟩ (.int .i64 p)).setCell ⟨U2.heap.size, 1, none⟩ (.int .i64 l)).setCell ⟨U2.heap.size, 2, none⟩ (.int .i64 d)).setCell ⟨U2.heap.size, 3, none⟩ (.int .i64 s)).setCell ⟨U2.heap.size, 4, none⟩ (.slice (some ⟨U1.heap.size, 0, none⟩) m m)).setCell ⟨U2.heap.size, 5, none⟩ (.slice (some ⟨U0.heap.size, 0, none⟩) m m)) = U) := ⟨_, rfl⟩
                have KS4 : Hid (Blk U4 (U1.heap.size) 9 (sals (noS m)).toArray) := by rw [← HU4.out]; exact ((((((KS3.out.setOther (p := ⟨U2.heap.size, 0, none⟩) (by show U2.heap.size ≠ U1.heap.size; omega) _).setOther (p := ⟨U2.heap.size, 1, none⟩) (by show U2.heap.size ≠ U1.heap.size; omega) _).setOther (p := ⟨U2.heap.size, 2, none⟩) (by show U2.heap.size ≠ U1.heap.size; omega) _).setOther (p := ⟨U2.heap.size, 3, none⟩) (by show U2.heap.size ≠ U1.heap.size; omega) _).setOther (p := ⟨U2.heap.size, 4, none⟩) (by show U2.heap.size ≠ U1.heap.size; omega) _).setOther (p := ⟨U2.heap.size, 5, none⟩) (by show U2.heap.size ≠ U1.heap.size; omega) _)
                have KB4 : Hid (Blk U4 (U0.heap.size) 4 (bals (noB m)).toArray) := by rw [← HU4.out]; exact ((((((KB3.out.setOther (p := ⟨U2.heap.size, 0, none⟩) (by show U2.heap.size ≠ U0.heap.size; omega) _).setOther (p := ⟨U2.heap.size, 1, none⟩) (by show U2.heap.size ≠ U0.heap.size; omega) _).setOther (p := ⟨U2.heap.size, 2, none⟩) (by show U2.heap.size ≠ U0.heap.size; omega) _).setOther (p := ⟨U2.heap.size, 3, none⟩) (by show U2.heap.size ≠ U0.heap.size; omega) _).setOther (p := ⟨U2.heap.size, 4, none⟩) (by show U2.heap.size ≠ U0.heap.size; omega) _).setOther (p := ⟨U2.heap.size, 5, none⟩) (by show U2.heap.size ≠ U0.heap.size; omega) _)
                have KX4 : Hid (Blk U4 U2.heap.size 28 (feedC p l d s (some ⟨U1.heap.size, 0, none⟩) m m (some ⟨U0.heap.size, 0, none⟩) m m)) := by rw [← HU4.out]; exact blk_six KX3.out _ _ _ _ _ _
                have HY4 : Hid (Below Y.heap.size Y U4) := by rw [← HU4.out]; exact below_six HY3.out (by omega) _ _ _ _ _ _
                go_simp
                rw [HU4.out]
                refine hK.out _ _ (feed_cells (K4.out.below HY4.out K4.out.lt)) (fun hHeld => ?_)
                clear hK K
                (try simp only [Act.put])
                refine wpAnyH_done (by kernel_rfl) ?_ _
                (try go_wp2_with fail)
                go_meet
                exact ⟨_, _, _, rfl, by omega, by omega, by omega, by omega, by omega, by omega, KX4, KS4, KB4, HY4⟩
          case zo90019_1 =>
            go_simp
            refine hK.out _ _ (feed_cells (K4.out.below (HY1.out.alloc HY1.out.size _) K4.out.lt)) (fun hHeld => ?_)
            clear hK K
            (try simp only [Act.put, List.setIfInBounds_toArray, List.set_cons_zero, List.set_cons_succ])
            obtain ⟨U2, HU2⟩ : ∃ U, Hid (U1.alloc (.cells (feedC 0 0 0 0 none 0 0 none 0 0) 28) = U) := ⟨_, rfl⟩
            have hb2 : Below U1.heap.size U1 U2 := by rw [← HU2.out]; exact (Below.refl _ _).alloc (Nat.le_refl _) _
            have HY2 : Hid (Below Y.heap.size Y U2) := HY1.out.trans (hb2.mono HY1.out.size)
            have KB2 := Lib.hid (KB1.out.below hb2 KB1.out.lt)
            have KX2 : Hid (Blk U2 U1.heap.size 28 (feedC 0 0 0 0 none 0 0 none 0 0)) := by rw [← HU2.out]; exact Blk.new U1 _ _
            have hz2 : U1.heap.size < U2.heap.size := KX2.out.lt
            have hzy2 : Y.heap.size ≤ U1.heap.size := HY1.out.size
            rw [HU2.out] at hHeld ⊢
            refine wpAnyH_ready (rs := [7]) (by kernel_rfl) (by simp) (AllReadyH.cons rfl (fun K hK => ?zo90023_0) AllReadyH.nil)
            case zo90023_0 =>
              go_simp
              refine hK.out _ _ (feed_cells (K4.out.below (HY2.out.alloc HY2.out.size _) K4.out.lt)) (fun hHeld => ?_)
              clear hK K
              (try simp only [Act.put, List.setIfInBounds_toArray, List.set_cons_zero, List.set_cons_succ])
              obtain ⟨U3, HU3⟩ : ∃ U, Hid (U2.alloc (.cells (sals (noS m)).toArray 9) = U) := ⟨_, rfl⟩
              have hb3 : Below U2.heap.size U2 U3 := by rw [← HU3.out]; exact (Below.refl _ _).alloc (Nat.le_refl _) _
              have HY3 : Hid (Below Y.heap.size Y U3) := HY2.out.trans (hb3.mono HY2.out.size)
              have KB3 := Lib.hid (KB2.out.below hb3 KB2.out.lt)
              have KX3 := Lib.hid (KX2.out.below hb3 KX2.out.lt)
              have KS3 : Hid (Blk U3 U2.heap.size 9 (sals (noS m)).toArray) := by rw [← HU3.out]; exact Blk.new U2 _ _
              have hz3 : U2.heap.size < U3.heap.size := KS3.out.lt
              have hzy3 : Y.heap.size ≤ U2.heap.size := HY2.out.size
              rw [HU3.out] at hHeld ⊢
              refine wpAnyH_take (i := 12) (v := ?zv90024) rfl (by kernel_rfl) (by kernel_rfl) (by kernel_rfl) (fun _ _ _ h => h) (Or.inl ⟨by kernel_rfl, ?zy90024⟩) (by assumption) ?zr90024
              case zy90024 => (intro w hSw; (try dsimp only at hSw); go_simp; try with_reducible rfl)
              change wpAnyH _ _ _ _ _ _ _ (Act.put _ (some 69) _) _
              simp only [Act.put, List.setIfInBounds_toArray, List.set_cons_zero, List.set_cons_succ]
              refine wpAnyH_ready (rs := [14]) (by kernel_rfl) (by simp) (AllReadyH.cons rfl (fun K hK => ?zo90025_0) AllReadyH.nil)
              case zo90025_0 =>
                go_simp
                obtain ⟨n0, n1, n2, n3, n4, n5⟩ := feed_cells KX3.out
                have nf := blk_frozen KX3.out
                obtain ⟨U4, HU4⟩ : ∃ U, Hid (((((((U3.setCell ⟨U1.heap.size, 0, none⟩ (.int .i64 p)).setCell ⟨U1.heap.size, 1, none⟩ (.int .i64 l)).setCell ⟨U1.heap.size, 2, none⟩ (.int .i64 d)).setCell ⟨U1.heap.size, 3, none⟩ (.int .i64 s)).setCell ⟨U1.heap.size, 4, none⟩ (.slice (some ⟨U2.heap.size, 0, none⟩) m m)).setCell ⟨U1.heap.size, 5, none⟩ (.slice (some ⟨U0.heap.size, 0, none⟩) m m)) = U) := ⟨_, rfl⟩
                have KS4 : Hid (Blk U4 (U2.heap.size) 9 (sals (noS m)).toArray) := by rw [← HU4.out]; exact ((((((KS3.out.setOther (p := ⟨U1.heap.size, 0, none⟩) (by show U1.heap.size ≠ U2.heap.size; omega) _).setOther (p := ⟨U1.heap.size, 1, none⟩) (by show U1.heap.size ≠ U2.heap.size; omega) _).setOther (p := ⟨U1.heap.size, 2, none⟩) (by show U1.heap.size ≠ U2.heap.size; omega) _).setOther (p := ⟨U1.heap.size, 3, none⟩) (by show U1.heap.size ≠ U2.heap.size; omega) _).setOther (p := ⟨U1.heap.size, 4, none⟩) (by show U1.heap.size ≠ U2.heap.size; omega) _).setOther (p := ⟨U1.heap.size, 5, none⟩) (by show U1.heap.size ≠ U2.heap.size; omega) _)
                have KB4 : Hid (Blk U4 (U0.heap.size) 4 (bals (noB m)).toArray) := by rw [← HU4.out]; exact ((((((KB3.out.setOther (p := ⟨U1.heap.size, 0, none⟩) (by show U1.heap.size ≠ U0.heap.size; omega) _).setOther (p := ⟨U1.heap.size, 1, none⟩) (by show U1.heap.size ≠ U0.heap.size; omega) _).setOther (p := ⟨U1.heap.size, 2, none⟩) (by show U1.heap.size ≠ U0.heap.size; omega) _).setOther (p := ⟨U1.heap.size, 3, none⟩) (by show U1.heap.size ≠ U0.heap.size; omega) _).setOther (p := ⟨U1.heap.size, 4, none⟩) (by show U1.heap.size ≠ U0.heap.size; omega) _).setOther (p := ⟨U1.heap.size, 5, none⟩) (by show U1.heap.size ≠ U0.heap.size; omega) _)
                have KX4 : Hid (Blk U4 U1.heap.size 28 (feedC p l d s (some ⟨U2.heap.size, 0, none⟩) m m (some ⟨U0.heap.size, 0, none⟩) m m)) := by rw [← HU4.out]; exact blk_six KX3.out _ _ _ _ _ _
                have HY4 : Hid (Below Y.heap.size Y U4) := by rw [← HU4.out]; exact below_six HY3.out (by omega) _ _ _ _ _ _
                go_simp
                rw [HU4.out]
                refine hK.out _ _ (feed_cells (K4.out.below HY4.out K4.out.lt)) (fun hHeld => ?_)
                clear hK K
                (try simp only [Act.put])
                refine wpAnyH_done (by kernel_rfl) ?_ _
                (try go_wp2_with fail)
                go_meet
                exact ⟨_, _, _, rfl, by omega, by omega, by omega, by omega, by omega, by omega, KX4, KS4, KB4, HY4⟩
        case zo90011_2 =>
          go_simp
          refine hK.out _ _ (feed_cells (K4.out.below (HY0.out.alloc HY0.out.size _) K4.out.lt)) (fun hHeld => ?_)
          clear hK K
          (try simp only [Act.put, List.setIfInBounds_toArray, List.set_cons_zero, List.set_cons_succ])
          obtain ⟨U1, HU1⟩ : ∃ U, Hid (U0.alloc (.cells (feedC 0 0 0 0 none 0 0 none 0 0) 28) = U) := ⟨_, rfl⟩
          have hb1 : Below U0.heap.size U0 U1 := by rw [← HU1.out]; exact (Below.refl _ _).alloc (Nat.le_refl _) _
          have HY1 : Hid (Below Y.heap.size Y U1) := HY0.out.trans (hb1.mono HY0.out.size)
          have KX1 : Hid (Blk U1 U0.heap.size 28 (feedC 0 0 0 0 none 0 0 none 0 0)) := by rw [← HU1.out]; exact Blk.new U0 _ _
          have hz1 : U0.heap.size < U1.heap.size := KX1.out.lt
          have hzy1 : Y.heap.size ≤ U0.heap.size := HY0.out.size
          rw [HU1.out] at hHeld ⊢
          refine wpAnyH_ready (rs := [7, 11]) (by kernel_rfl) (by simp) (AllReadyH.cons rfl (fun K hK => ?zo90026_0) (AllReadyH.cons rfl (fun K hK => ?zo90026_1) AllReadyH.nil))
          case zo90026_0 =>
            go_simp
            refine hK.out _ _ (feed_cells (K4.out.below (HY1.out.alloc HY1.out.size _) K4.out.lt)) (fun hHeld => ?_)
            clear hK K
            (try simp only [Act.put, List.setIfInBounds_toArray, List.set_cons_zero, List.set_cons_succ])
            obtain ⟨U2, HU2⟩ : ∃ U, Hid (U1.alloc (.cells (sals (noS m)).toArray 9) = U) := ⟨_, rfl⟩
            have hb2 : Below U1.heap.size U1 U2 := by rw [← HU2.out]; exact (Below.refl _ _).alloc (Nat.le_refl _) _
            have HY2 : Hid (Below Y.heap.size Y U2) := HY1.out.trans (hb2.mono HY1.out.size)
            have KX2 := Lib.hid (KX1.out.below hb2 KX1.out.lt)
            have KS2 : Hid (Blk U2 U1.heap.size 9 (sals (noS m)).toArray) := by rw [← HU2.out]; exact Blk.new U1 _ _
            have hz2 : U1.heap.size < U2.heap.size := KS2.out.lt
            have hzy2 : Y.heap.size ≤ U1.heap.size := HY1.out.size
            rw [HU2.out] at hHeld ⊢
            refine wpAnyH_ready (rs := [11]) (by kernel_rfl) (by simp) (AllReadyH.cons rfl (fun K hK => ?zo90027_0) AllReadyH.nil)
            case zo90027_0 =>
              go_simp
              refine hK.out _ _ (feed_cells (K4.out.below (HY2.out.alloc HY2.out.size _) K4.out.lt)) (fun hHeld => ?_)
              clear hK K
              (try simp only [Act.put, List.setIfInBounds_toArray, List.set_cons_zero, List.set_cons_succ])
              obtain ⟨U3, HU3⟩ : ∃ U, Hid (U2.alloc (.cells (bals (noB m)).toArray 4) = U) := ⟨_, rfl⟩
              have hb3 : Below U2.heap.size U2 U3 := by rw [← HU3.out]; exact (Below.refl _ _).alloc (Nat.le_refl _) _
              have HY3 : Hid (Below Y.heap.size Y U3) := HY2.out.trans (hb3.mono HY2.out.size)
              have KX3 := Lib.hid (KX2.out.below hb3 KX2.out.lt)
              have KS3 := Lib.hid (KS2.out.below hb3 KS2.out.lt)
              have KB3 : Hid (Blk U3 U2.heap.size 4 (bals (noB m)).toArray) := by rw [← HU3.out]; exact Blk.new U2 _ _
              have hz3 : U2.heap.size < U3.heap.size := KB3.out.lt
              have hzy3 : Y.heap.size ≤ U2.heap.size := HY2.out.size
              rw [HU3.out] at hHeld ⊢
              refine wpAnyH_take (i := 12) (v := ?zv90028) rfl (by kernel_rfl) (by kernel_rfl) (by kernel_rfl) (fun _ _ _ h => h) (Or.inl ⟨by kernel_rfl, ?zy90028⟩) (by assumption) ?zr90028
              case zy90028 => (intro w hSw; (try dsimp only at hSw); go_simp; try with_reducible rfl)
              change wpAnyH _ _ _ _ _ _ _ (Act.put _ (some 69) _) _
              simp only [Act.put, List.setIfInBounds_toArray, List.set_cons_zero, List.set_cons_succ]
              refine wpAnyH_ready (rs := [14]) (by kernel_rfl) (by simp) (AllReadyH.cons rfl (fun K hK => ?zo90029_0) AllReadyH.nil)
              case zo90029_0 =>
                go_simp
                obtain ⟨n0, n1, n2, n3, n4, n5⟩ := feed_cells KX3.out
                have nf := blk_frozen KX3.out
                obtain ⟨U4, HU4⟩ : ∃ U, Hid (((((((U3.setCell ⟨U0.heap.size, 0, none⟩ (.int .i64 p)).setCell ⟨U0.heap.size, 1, none⟩ (.int .i64 l)).setCell ⟨U0.heap.size, 2, none⟩ (.int .i64 d)).setCell ⟨U0.heap.size, 3, none⟩ (.int .i64 s)).setCell ⟨U0.heap.size, 4, none⟩ (.slice (some ⟨U1.heap.size, 0, none⟩) m m)).setCell ⟨U0.heap.size, 5, none⟩ (.slice (some ⟨U2.heap.size, 0, none⟩) m m)) = U) := ⟨_, rfl⟩
                have KS4 : Hid (Blk U4 (U1.heap.size) 9 (sals (noS m)).toArray) := by rw [← HU4.out]; exact ((((((KS3.out.setOther (p := ⟨U0.heap.size, 0, none⟩) (by show U0.heap.size ≠ U1.heap.size; omega) _).setOther (p := ⟨U0.heap.size, 1, none⟩) (by show U0.heap.size ≠ U1.heap.size; omega) _).setOther (p := ⟨U0.heap.size, 2, none⟩) (by show U0.heap.size ≠ U1.heap.size; omega) _).setOther (p := ⟨U0.heap.size, 3, none⟩) (by show U0.heap.size ≠ U1.heap.size; omega) _).setOther (p := ⟨U0.heap.size, 4, none⟩) (by show U0.heap.size ≠ U1.heap.size; omega) _).setOther (p := ⟨U0.heap.size, 5, none⟩) (by show U0.heap.size ≠ U1.heap.size; omega) _)
                have KB4 : Hid (Blk U4 (U2.heap.size) 4 (bals (noB m)).toArray) := by rw [← HU4.out]; exact ((((((KB3.out.setOther (p := ⟨U0.heap.size, 0, none⟩) (by show U0.heap.size ≠ U2.heap.size; omega) _).setOther (p := ⟨U0.heap.size, 1, none⟩) (by show U0.heap.size ≠ U2.heap.size; omega) _).setOther (p := ⟨U0.heap.size, 2, none⟩) (by show U0.heap.size ≠ U2.heap.size; omega) _).setOther (p := ⟨U0.heap.size, 3, none⟩) (by show U0.heap.size ≠ U2.heap.size; omega) _).setOther (p := ⟨U0.heap.size, 4, none⟩) (by show U0.heap.size ≠ U2.heap.size; omega) _).setOther (p := ⟨U0.heap.size, 5, none⟩) (by show U0.heap.size ≠ U2.heap.size; omega) _)
                have KX4 : Hid (Blk U4 U0.heap.size 28 (feedC p l d s (some ⟨U1.heap.size, 0, none⟩) m m (some ⟨U2.heap.size, 0, none⟩) m m)) := by rw [← HU4.out]; exact blk_six KX3.out _ _ _ _ _ _
                have HY4 : Hid (Below Y.heap.size Y U4) := by rw [← HU4.out]; exact below_six HY3.out (by omega) _ _ _ _ _ _
                go_simp
                rw [HU4.out]
                refine hK.out _ _ (feed_cells (K4.out.below HY4.out K4.out.lt)) (fun hHeld => ?_)
                clear hK K
                (try simp only [Act.put])
                refine wpAnyH_done (by kernel_rfl) ?_ _
                (try go_wp2_with fail)
                go_meet
                exact ⟨_, _, _, rfl, by omega, by omega, by omega, by omega, by omega, by omega, KX4, KS4, KB4, HY4⟩
          case zo90026_1 =>
            go_simp
            refine hK.out _ _ (feed_cells (K4.out.below (HY1.out.alloc HY1.out.size _) K4.out.lt)) (fun hHeld => ?_)
            clear hK K
            (try simp only [Act.put, List.setIfInBounds_toArray, List.set_cons_zero, List.set_cons_succ])
            obtain ⟨U2, HU2⟩ : ∃ U, Hid (U1.alloc (.cells (bals (noB m)).toArray 4) = U) := ⟨_, rfl⟩
            have hb2 : Below U1.heap.size U1 U2 := by rw [← HU2.out]; exact (Below.refl _ _).alloc (Nat.le_refl _) _
            have HY2 : Hid (Below Y.heap.size Y U2) := HY1.out.trans (hb2.mono HY1.out.size)
            have KX2 := Lib.hid (KX1.out.below hb2 KX1.out.lt)
            have KB2 : Hid (Blk U2 U1.heap.size 4 (bals (noB m)).toArray) := by rw [← HU2.out]; exact Blk.new U1 _ _
            have hz2 : U1.heap.size < U2.heap.size := KB2.out.lt
            have hzy2 : Y.heap.size ≤ U1.heap.size := HY1.out.size
            rw [HU2.out] at hHeld ⊢
            refine wpAnyH_ready (rs := [7]) (by kernel_rfl) (by simp) (AllReadyH.cons rfl (fun K hK => ?zo90030_0) AllReadyH.nil)
            case zo90030_0 =>
              go_simp
              refine hK.out _ _ (feed_cells (K4.out.below (HY2.out.alloc HY2.out.size _) K4.out.lt)) (fun hHeld => ?_)
              clear hK K
              (try simp only [Act.put, List.setIfInBounds_toArray, List.set_cons_zero, List.set_cons_succ])
              obtain ⟨U3, HU3⟩ : ∃ U, Hid (U2.alloc (.cells (sals (noS m)).toArray 9) = U) := ⟨_, rfl⟩
              have hb3 : Below U2.heap.size U2 U3 := by rw [← HU3.out]; exact (Below.refl _ _).alloc (Nat.le_refl _) _
              have HY3 : Hid (Below Y.heap.size Y U3) := HY2.out.trans (hb3.mono HY2.out.size)
              have KX3 := Lib.hid (KX2.out.below hb3 KX2.out.lt)
              have KB3 := Lib.hid (KB2.out.below hb3 KB2.out.lt)
              have KS3 : Hid (Blk U3 U2.heap.size 9 (sals (noS m)).toArray) := by rw [← HU3.out]; exact Blk.new U2 _ _
              have hz3 : U2.heap.size < U3.heap.size := KS3.out.lt
              have hzy3 : Y.heap.size ≤ U2.heap.size := HY2.out.size
              rw [HU3.out] at hHeld ⊢
              refine wpAnyH_take (i := 12) (v := ?zv90031) rfl (by kernel_rfl) (by kernel_rfl) (by kernel_rfl) (fun _ _ _ h => h) (Or.inl ⟨by kernel_rfl, ?zy90031⟩) (by assumption) ?zr90031
              case zy90031 => (intro w hSw; (try dsimp only at hSw); go_simp; try with_reducible rfl)
              change wpAnyH _ _ _ _ _ _ _ (Act.put _ (some 69) _) _
              simp only [Act.put, List.setIfInBounds_toArray, List.set_cons_zero, List.set_cons_succ]
              refine wpAnyH_ready (rs := [14]) (by kernel_rfl) (by simp) (AllReadyH.cons rfl (fun K hK => ?zo90032_0) AllReadyH.nil)
              case zo90032_0 =>
                go_simp
                obtain ⟨n0, n1, n2, n3, n4, n5⟩ := feed_cells KX3.out
                have nf := blk_frozen KX3.out
                obtain ⟨U4, HU4⟩ : ∃ U, Hid (((((((U3.setCell ⟨U0.heap.size, 0, none⟩ (.int .i64 p)).setCell ⟨U0.heap.size, 1, none⟩ (.int .i64 l)).setCell ⟨U0.heap.size, 2, none⟩ (.int .i64 d)).setCell ⟨U0.heap.size, 3, none⟩ (.int .i64 s)).setCell ⟨U0.heap.size, 4, none⟩ (.slice (some ⟨U2.heap.size, 0, none⟩) m m)).setCell ⟨U0.heap.size, 5, none⟩ (.slice (some ⟨U1.heap.size, 0, none⟩) m m)) = U) := ⟨_, rfl⟩
                have KS4 : Hid (Blk U4 (U2.heap.size) 9 (sals (noS m)).toArray) := by rw [← HU4.out]; exact ((((((KS3.out.setOther (p := ⟨U0.heap.size, 0, none⟩) (by show U0.heap.size ≠ U2.heap.size; omega) _).setOther (p := ⟨U0.heap.size, 1, none⟩) (by show U0.heap.size ≠ U2.heap.size; omega) _).setOther (p := ⟨U0.heap.size, 2, none⟩) (by show U0.heap.size ≠ U2.heap.size; omega) _).setOther (p := ⟨U0.heap.size, 3, none⟩) (by show U0.heap.size ≠ U2.heap.size; omega) _).setOther (p := ⟨U0.heap.size, 4, none⟩) (by show U0.heap.size ≠ U2.heap.size; omega) _).setOther (p := ⟨U0.heap.size, 5, none⟩) (by show U0.heap.size ≠ U2.heap.size; omega) _)
                have KB4 : Hid (Blk U4 (U1.heap.size) 4 (bals (noB m)).toArray) := by rw [← HU4.out]; exact ((((((KB3.out.setOther (p := ⟨U0.heap.size, 0, none⟩) (by show U0.heap.size ≠ U1.heap.size; omega) _).setOther (p := ⟨U0.heap.size, 1, none⟩) (by show U0.heap.size ≠ U1.heap.size; omega) _).setOther (p := ⟨U0.heap.size, 2, none⟩) (by show U0.heap.size ≠ U1.heap.size; omega) _).setOther (p := ⟨U0.heap.size, 3, none⟩) (by show U0.heap.size ≠ U1.heap.size; omega) _).setOther (p := ⟨U0.heap.size, 4, none⟩) (by show U0.heap.size ≠ U1.heap.size; omega) _).setOther (p := ⟨U0.heap.size, 5, none⟩) (by show U0.heap.size ≠ U1.heap.size; omega) _)
                have KX4 : Hid (Blk U4 U0.heap.size 28 (feedC p l d s (some ⟨U2.heap.size, 0, none⟩) m m (some ⟨U1.heap.size, 0, none⟩) m m)) := by rw [← HU4.out]; exact blk_six KX3.out _ _ _ _ _ _
                have HY4 : Hid (Below Y.heap.size Y U4) := by rw [← HU4.out]; exact below_six HY3.out (by omega) _ _ _ _ _ _
                go_simp
                rw [HU4.out]
                refine hK.out _ _ (feed_cells (K4.out.below HY4.out K4.out.lt)) (fun hHeld => ?_)
                clear hK K
                (try simp only [Act.put])
                refine wpAnyH_done (by kernel_rfl) ?_ _
                (try go_wp2_with fail)
                go_meet
                exact ⟨_, _, _, rfl, by omega, by omega, by omega, by omega, by omega, by omega, KX4, KS4, KB4, HY4⟩
      case rest =>
        obtain ⟨gx, gs, gb, rfl, hx1, hx2, hx3, hx4, hx5, hx6, KX, KS, KB, HY2⟩ := hcut
        obtain ⟨Z2, hZ2⟩ : ∃ y, y = wc := ⟨_, rfl⟩
        subst hZ2
        clear hmkS hmkB k0 k1 k2 k3 k4 k5
        have PR2 : Hid (OwnFeed Z2 Y.heap.size (some ⟨gs, 0, none⟩) m (some ⟨gb, 0, none⟩) m (partS bs (gone m k 0)) (partB m (gone m k 0))) := by
          rw [gone_zero, (part_none bs).1, HM.out, ← HM.out, (part_none bs).2, HM.out]
          have h1 := owns_blk (base := Y.heap.size) KS.out hx2 (by rw [noS_length]; unfold maxLen; omega)
          have h2 := ownb_blk (base := Y.heap.size) KB.out hx3 (by rw [noB_length]; unfold maxLen; omega)
          rw [noS_length] at h1
          rw [noB_length] at h2
          exact ⟨h1, h2, fit_none m⟩
        have hmz : ¬ (m : Int) = 0 := by omega
        have hmz2 : ((m : Int) == 0) = false := by simp; omega
        go_wp2_with fail
        go_loopw [10] (fun i w' => ∃ (j : Nat) (Y1 : Option Addr) (e1 : Nat) (Y2 : Option Addr) (e3 : Nat), j ≤ m ∧ i = .int .i64 (j : Int) ∧ Hid (Blk w' gx 28 (feedC p l d s Y1 m e1 Y2 m e3)) ∧ Hid (OwnFeed w' Y.heap.size Y1 e1 Y2 e3 (partS bs (gone m k j)) (partB m (gone m k j))) ∧ Hid (Below Y.heap.size Y w')) (fun i _ => m - (intOf i).toNat)
        case atStart => exact ⟨0, _, _, _, _, Nat.zero_le _, rfl, KX, PR2, HY2⟩
        case round =>
          obtain ⟨j, Y1, e1, Y2, e3, hj, rfl, KXr, PRr, HYr⟩ := hrel
          have Kr := Lib.hid (K4.out.below HYr.out K4.out.lt)
          obtain ⟨k0, k1, k2, k3, k4, k5⟩ := feed_cells Kr.out
          by_cases hjm : j < m
          · obtain ⟨a, ha⟩ : ∃ v, (j + k) % m = v := ⟨_, rfl⟩
            have ham : a < m := by rw [← ha]; exact Nat.mod_lt _ (by omega)
            have hrem : ((j : Int) + (k : Int)).tmod (m : Int) = (a : Int) := by rw [← ha]; exact tmod_add j k m
            have hwa : IntKind.i64.wrap ((j : Int) + (k : Int)) = (j : Int) + (k : Int) := IntWalk.i64_in _ (by omega)
            have hwb : IntKind.i64.wrap (a : Int) = (a : Int) := IntWalk.i64_in _ (by omega)
            have HSA : Hid (gone m k j a = false) := by show _ = _; rw [← ha]; exact (gone_at hm16 hkm hjm).2
            obtain ⟨ta, HTA⟩ : ∃ v, Hid (sth bs a = v) := ⟨_, rfl⟩
            obtain ⟨ZA, HZA⟩ : ∃ v, Hid (proveL ⟨p, l, d, s, bs, hs⟩ (a : Int) = v) := ⟨_, rfl⟩
            have HA : Hid (a < m ∧ sth bs a = ta ∧ proveL ⟨p, l, d, s, bs, hs⟩ (a : Int) = ZA) := ⟨ham, HTA.out, HZA.out⟩
            have CV1 := CPV.out _ (HB4.out.trans (HYr.out.mono HB4.out.size)) a ham
            rw [HZA.out] at CV1
            have HCV1 := Lib.hid CV1
            have haa := Lib.hid ha
            have hjm2 : (j : Int) < (m : Int) := by omega
            have ham2 : (a : Int) < (m : Int) := by omega
            have ha0 : (0 : Int) ≤ (a : Int) := by omega
            clear CV1 ha
            go_wp2_with fail
            refine HCV1.out.mono ?_
            rintro e va ⟨X3, e7, rfl, hoz, hba⟩
            have PZa := Lib.hid hoz
            have HYa : Hid (Below Y.heap.size Y va) := HYr.out.trans (hba.mono HYr.out.size)
            have KXa := Lib.hid (KXr.out.below hba KXr.out.lt)
            have PRa : Hid (OwnFeed va Y.heap.size Y1 e1 Y2 e3 (partS bs (gone m k j)) (partB m (gone m k j))) := ⟨PRr.out.strs.below hba, PRr.out.bits.below hba, PRr.out.fit⟩
            clear hoz hba k0 k1 k2 k3 k4 k5 HCV1
            obtain ⟨x0, x1, x2, x3, x4, x5⟩ := feed_cells KXa.out
            have z6 := (K4.out.below HYa.out K4.out.lt).cell 4
            have z7 := HTC.out _ a ta (HB4.out.trans (HYa.out.mono HB4.out.size)) HA.out
            go_upto_region 14 with fail
            (try go_wp2_with fail)
            refine wp_region_held_drew (S := (fun w' => w'.cell? ⟨gx, 0, none⟩ = some (.int .i64 p) ∧ w'.cell? ⟨gx, 1, none⟩ = some (.int .i64 l) ∧ w'.cell? ⟨gx, 2, none⟩ = some (.int .i64 d) ∧ w'.cell? ⟨gx, 3, none⟩ = some (.int .i64 s) ∧ w'.cell? ⟨gx, 4, none⟩ = some (.slice Y1 m e1) ∧ w'.cell? ⟨gx, 5, none⟩ = some (.slice Y2 m e3) ∧ w'.cell? ⟨w1.heap.size, 4, none⟩ = some (.slice (some ⟨b, o, none⟩) m c1) ∧ w'.cell? ⟨b, o + a, none⟩ = some (.string ta))) (by kernel_rfl) (held9 KXa.out z6 z7) (fun hHeld => ?_)
            obtain ⟨U0, HU0⟩ : ∃ U, Hid (va.drew = U) := ⟨_, rfl⟩
            have HY0 : Hid (Below Y.heap.size Y U0) := by rw [← HU0.out]; exact below_drew HYa.out
            have KX0 : Hid (Blk U0 gx 28 (feedC p l d s Y1 m e1 Y2 m e3)) := by rw [← HU0.out]; exact KXa.out
            have PR0 : Hid (OwnFeed U0 Y.heap.size Y1 e1 Y2 e3 (partS bs (gone m k j)) (partB m (gone m k j))) := by rw [← HU0.out]; exact ⟨PRa.out.strs.drewN 1, PRa.out.bits.drewN 1, PRa.out.fit⟩
            have PZ0 : Hid (OwnInts U0 wr.heap.size X3 e7 ZA) := by rw [← HU0.out]; exact PZa.out.drewN 1
            have HZZ : Hid (gx < U0.heap.size) := KX0.out.lt
            have HGX : Hid (gx < U0.heap.size) := HZZ
            rw [HU0.out] at hHeld ⊢
            refine wpAnyH_take (i := 0) (v := ?zv90033) rfl (by kernel_rfl) (by kernel_rfl) (by kernel_rfl) (fun _ _ _ h => h) (Or.inl ⟨by kernel_rfl, ?zy90033⟩) (by assumption) ?zr90033
            case zy90033 => (intro w hSw; (try dsimp only at hSw); go_simp; try with_reducible rfl)
            change wpAnyH _ _ _ _ _ _ _ (Act.put _ (some 91) _) _
            simp only [Act.put, List.setIfInBounds_toArray, List.set_cons_zero, List.set_cons_succ]
            refine wpAnyH_take (i := 1) (v := ?zv90034) rfl (by kernel_rfl) (by kernel_rfl) (by kernel_rfl) (fun _ _ _ h => h) (Or.inl ⟨by kernel_rfl, ?zy90034⟩) (by assumption) ?zr90034
            case zy90034 => (intro w hSw; (try dsimp only at hSw); go_simp; try with_reducible rfl)
            change wpAnyH _ _ _ _ _ _ _ (Act.put _ (some 92) _) _
            simp only [Act.put, List.setIfInBounds_toArray, List.set_cons_zero, List.set_cons_succ]
            refine wpAnyH_take (i := 2) (v := ?zv90035) rfl (by kernel_rfl) (by kernel_rfl) (by kernel_rfl) (fun _ _ _ h => h) (Or.inl ⟨by kernel_rfl, ?zy90035⟩) (by assumption) ?zr90035
            case zy90035 => (intro w hSw; (try dsimp only at hSw); go_simp; try with_reducible rfl)
            change wpAnyH _ _ _ _ _ _ _ (Act.put _ (some 93) _) _
            simp only [Act.put, List.setIfInBounds_toArray, List.set_cons_zero, List.set_cons_succ]
            refine wpAnyH_take (i := 4) (v := ?zv90036) rfl (by kernel_rfl) (by kernel_rfl) (by kernel_rfl) (fun _ _ _ h => h) (Or.inl ⟨by kernel_rfl, ?zy90036⟩) (by assumption) ?zr90036
            case zy90036 => (intro w hSw; (try dsimp only at hSw); go_simp; try with_reducible rfl)
            change wpAnyH _ _ _ _ _ _ _ (Act.put _ (some 95) _) _
            simp only [Act.put, List.setIfInBounds_toArray, List.set_cons_zero, List.set_cons_succ]
            refine wpAnyH_take (i := 7) (v := ?zv90037) rfl (by kernel_rfl) (by kernel_rfl) (by kernel_rfl) (fun _ _ _ h => h) (Or.inl ⟨by kernel_rfl, ?zy90037⟩) (by assumption) ?zr90037
            case zy90037 => (intro w hSw; (try dsimp only at hSw); go_simp; try with_reducible rfl)
            change wpAnyH _ _ _ _ _ _ _ (Act.put _ (some 98) _) _
            simp only [Act.put, List.setIfInBounds_toArray, List.set_cons_zero, List.set_cons_succ]
            refine wpAnyH_take (i := 3) (v := ?zv90038) rfl (by kernel_rfl) (by kernel_rfl) (by kernel_rfl) (fun _ _ _ h => h) (Or.inl ⟨by kernel_rfl, ?zy90038⟩) (by assumption) ?zr90038
            case zy90038 => (intro w hSw; (try dsimp only at hSw); go_simp; try with_reducible rfl)
            change wpAnyH _ _ _ _ _ _ _ (Act.put _ (some 94) _) _
            simp only [Act.put, List.setIfInBounds_toArray, List.set_cons_zero, List.set_cons_succ]
            refine wpAnyH_take (i := 5) (v := ?zv90039) rfl (by kernel_rfl) (by kernel_rfl) (by kernel_rfl) (fun _ _ _ h => h) (Or.inl ⟨by kernel_rfl, ?zy90039⟩) (by assumption) ?zr90039
            case zy90039 => (intro w hSw; (try dsimp only at hSw); go_simp; try with_reducible rfl)
            change wpAnyH _ _ _ _ _ _ _ (Act.put _ (some 96) _) _
            simp only [Act.put, List.setIfInBounds_toArray, List.set_cons_zero, List.set_cons_succ]
            refine wpAnyH_take (i := 6) (v := ?zv90040) rfl (by kernel_rfl) (by kernel_rfl) (by kernel_rfl) (fun _ _ _ h => h) (Or.inl ⟨by kernel_rfl, ?zy90040⟩) (by assumption) ?zr90040
            case zy90040 => (intro w hSw; (try dsimp only at hSw); go_simp; try with_reducible rfl)
            change wpAnyH _ _ _ _ _ _ _ (Act.put _ (some 97) _) _
            simp only [Act.put, List.setIfInBounds_toArray, List.set_cons_zero, List.set_cons_succ]
            refine wpAnyH_ready (rs := [8, 12]) (by kernel_rfl) (by simp) (AllReadyH.cons rfl (fun K hK => ?zo90041_0) (AllReadyH.cons rfl (fun K hK => ?zo90041_1) AllReadyH.nil))
            case zo90041_0 =>
              go_simp
              go_at_call 13
              have CPX := CP.out _ Y1 e1 Y2 e3 (gone m k j) a ta _ _ ZA HY0.out HA.out HSA.out PR0.out.at_ PZ0.out
              refine CPX.mono ?_
              rintro e U1 ⟨Y3, e4, Y4, e6, rfl, ho1, hb1⟩
              clear CPX
              have HY1 : Hid (Below Y.heap.size Y U1) := HY0.out.trans (hb1.mono HY0.out.size)
              have KX1 := Lib.hid (KX0.out.below hb1 KX0.out.lt)
              have PR1 : Hid (OwnFeed U1 Y.heap.size Y1 e1 Y2 e3 (partS bs (gone m k j)) (partB m (gone m k j))) := ⟨PR0.out.strs.below hb1, PR0.out.bits.below hb1, PR0.out.fit⟩
              have PZ1 := Lib.hid (PZ0.out.below hb1)
              have PF1 := Lib.hid (ho1.base_le HY0.out.size)
              have hzc1 := hb1.size
              clear ho1 hb1
              refine hK.out _ _ (held9 KX1.out ((K4.out.below HY1.out K4.out.lt).cell 4) (HTC.out _ a ta (HB4.out.trans (HY1.out.mono HB4.out.size)) HA.out)) (fun hHeld => ?_)
              clear hK K
              (try simp only [Act.put, List.setIfInBounds_toArray, List.set_cons_zero, List.set_cons_succ])
              refine wpAnyH_take (i := 9) (v := ?zv90042) rfl (by kernel_rfl) (by kernel_rfl) (by kernel_rfl) (fun _ _ _ h => h) (Or.inl ⟨by kernel_rfl, ?zy90042⟩) (by assumption) ?zr90042
              case zy90042 => (intro w hSw; (try dsimp only at hSw); go_simp; try with_reducible rfl)
              change wpAnyH _ _ _ _ _ _ _ (Act.put _ (some 90) _) _
              simp only [Act.put, List.setIfInBounds_toArray, List.set_cons_zero, List.set_cons_succ]
              refine wpAnyH_take (i := 10) (v := ?zv90043) rfl (by kernel_rfl) (by kernel_rfl) (by kernel_rfl) (fun _ _ _ h => h) (Or.inl ⟨by kernel_rfl, ?zy90043⟩) (by assumption) ?zr90043
              case zy90043 => (intro w hSw; (try dsimp only at hSw); go_simp; try with_reducible rfl)
              change wpAnyH _ _ _ _ _ _ _ (Act.put _ (some 100) _) _
              simp only [Act.put, List.setIfInBounds_toArray, List.set_cons_zero, List.set_cons_succ]
              refine wpAnyH_take (i := 11) (v := ?zv90044) rfl (by kernel_rfl) (by kernel_rfl) (by kernel_rfl) (fun _ _ _ h => h) (Or.inl ⟨by kernel_rfl, ?zy90044⟩) (by assumption) ?zr90044
              case zy90044 => (intro w hSw; (try dsimp only at hSw); go_simp; try with_reducible rfl)
              change wpAnyH _ _ _ _ _ _ _ (Act.put _ (some 101) _) _
              simp only [Act.put, List.setIfInBounds_toArray, List.set_cons_zero, List.set_cons_succ]
              refine wpAnyH_ready (rs := [12]) (by kernel_rfl) (by simp) (AllReadyH.cons rfl (fun K hK => ?zo90045_0) AllReadyH.nil)
              case zo90045_0 =>
                go_simp
                refine hK.out _ _ (held9 (KX1.out.alloc _) ((K4.out.below (HY1.out.alloc HY1.out.size _) K4.out.lt).cell 4) (HTC.out _ a ta (HB4.out.trans ((HY1.out.alloc HY1.out.size _).mono HB4.out.size)) HA.out)) (fun hHeld => ?_)
                clear hK K
                (try simp only [Act.put, List.setIfInBounds_toArray, List.set_cons_zero, List.set_cons_succ])
                obtain ⟨U2, HU2⟩ : ∃ U, Hid (U1.alloc (.cells (feedC 0 0 0 0 none 0 0 none 0 0) 28) = U) := ⟨_, rfl⟩
                have hb2 : Below U1.heap.size U1 U2 := by rw [← HU2.out]; exact (Below.refl _ _).alloc (Nat.le_refl _) _
                have HY2 : Hid (Below Y.heap.size Y U2) := HY1.out.trans (hb2.mono HY1.out.size)
                have KX2 := Lib.hid (KX1.out.below hb2 KX1.out.lt)
                have PR2 : Hid (OwnFeed U2 Y.heap.size Y1 e1 Y2 e3 (partS bs (gone m k j)) (partB m (gone m k j))) := ⟨PR1.out.strs.below hb2, PR1.out.bits.below hb2, PR1.out.fit⟩
                have PZ2 := Lib.hid (PZ1.out.below hb2)
                have PF2 : Hid (OwnFeed U2 Y.heap.size Y3 e4 Y4 e6 (partS bs (fun j' => gone m k j j' || j' == a)) (partB m (fun j' => gone m k j j' || j' == a))) := ⟨PF1.out.strs.below hb2, PF1.out.bits.below hb2, PF1.out.fit⟩
                have KL2 : Hid (Blk U2 U1.heap.size 28 (feedC 0 0 0 0 none 0 0 none 0 0)) := by rw [← HU2.out]; exact Blk.new U1 _ _
                have hzl : Y.heap.size ≤ U1.heap.size := HY1.out.size
                rw [HU2.out] at hHeld ⊢
                refine wpAnyH_ready (rs := [13]) (by kernel_rfl) (by simp) (AllReadyH.cons rfl (fun K hK => ?zo90046_0) AllReadyH.nil)
                case zo90046_0 =>
                  go_simp
                  obtain ⟨n0, n1, n2, n3, n4, n5⟩ := feed_cells KL2.out
                  have nf := blk_frozen KL2.out
                  have hzg : gx < U1.heap.size := by have := HGX.out; have := HZZ.out; omega
                  obtain ⟨U3, HU3⟩ : ∃ Q0, Hid (((((((U2.setCell ⟨U1.heap.size, 0, none⟩ (.int .i64 p)).setCell ⟨U1.heap.size, 1, none⟩ (.int .i64 l)).setCell ⟨U1.heap.size, 2, none⟩ (.int .i64 d)).setCell ⟨U1.heap.size, 3, none⟩ (.int .i64 s)).setCell ⟨U1.heap.size, 4, none⟩ (.slice Y3 m e4)).setCell ⟨U1.heap.size, 5, none⟩ (.slice Y4 m e6)) = Q0) := ⟨_, rfl⟩
                  have KX3 : Hid (Blk U3 gx 28 (feedC p l d s Y1 m e1 Y2 m e3)) := by rw [← HU3.out]; exact ((((((KX2.out.setOther (p := ⟨U1.heap.size, 0, none⟩) (by show U1.heap.size ≠ gx; omega) _).setOther (p := ⟨U1.heap.size, 1, none⟩) (by show U1.heap.size ≠ gx; omega) _).setOther (p := ⟨U1.heap.size, 2, none⟩) (by show U1.heap.size ≠ gx; omega) _).setOther (p := ⟨U1.heap.size, 3, none⟩) (by show U1.heap.size ≠ gx; omega) _).setOther (p := ⟨U1.heap.size, 4, none⟩) (by show U1.heap.size ≠ gx; omega) _).setOther (p := ⟨U1.heap.size, 5, none⟩) (by show U1.heap.size ≠ gx; omega) _)
                  have KL3 : Hid (Blk U3 U1.heap.size 28 (feedC p l d s Y3 m e4 Y4 m e6)) := by rw [← HU3.out]; exact blk_six KL2.out _ _ _ _ _ _
                  have PF3 : Hid (OwnFeed U3 Y.heap.size Y3 e4 Y4 e6 (partS bs (fun j' => gone m k j j' || j' == a)) (partB m (fun j' => gone m k j j' || j' == a))) := by rw [← HU3.out]; exact own_six PF2.out KL2.out _ _ _ _ _ _
                  have HY3 : Hid (Below Y.heap.size Y U3) := by rw [← HU3.out]; exact below_six HY2.out (by omega) _ _ _ _ _ _
                  go_simp
                  rw [HU3.out]
                  refine hK.out _ _ (held9 KX3.out ((K4.out.below HY3.out K4.out.lt).cell 4) (HTC.out _ a ta (HB4.out.trans (HY3.out.mono HB4.out.size)) HA.out)) (fun hHeld => ?_)
                  clear hK K
                  (try simp only [Act.put])
                  refine wpAnyH_take (i := 14) (v := ?zv90047) rfl (by kernel_rfl) (by kernel_rfl) (by kernel_rfl) (fun _ _ _ h => h) (Or.inl ⟨by kernel_rfl, ?zy90047⟩) (by assumption) ?zr90047
                  case zy90047 => (intro w hSw; (try dsimp only at hSw); go_simp; try with_reducible rfl)
                  change wpAnyH _ _ _ _ _ _ _ (Act.put _ (some 15) _) _
                  simp only [Act.put, List.setIfInBounds_toArray, List.set_cons_zero, List.set_cons_succ]
                  refine wpAnyH_done (by kernel_rfl) ?_ _
                  obtain ⟨l0, l1, l2, l3, l4, l5⟩ := feed_cells KL3.out
                  obtain ⟨x0, x1, x2, x3, x4, x5⟩ := feed_cells KX3.out
                  have xf := blk_frozen KX3.out
                  go_wp2
                  obtain ⟨V, HV⟩ : ∃ Q0, Hid (((((((U3.setCell ⟨gx, 0, none⟩ (.int .i64 p)).setCell ⟨gx, 1, none⟩ (.int .i64 l)).setCell ⟨gx, 2, none⟩ (.int .i64 d)).setCell ⟨gx, 3, none⟩ (.int .i64 s)).setCell ⟨gx, 4, none⟩ (.slice Y3 m e4)).setCell ⟨gx, 5, none⟩ (.slice Y4 m e6)) = Q0) := ⟨_, rfl⟩
                  have KXV : Hid (Blk V gx 28 (feedC p l d s Y3 m e4 Y4 m e6)) := by rw [← HV.out]; exact blk_six KX3.out _ _ _ _ _ _
                  have PFV : Hid (OwnFeed V Y.heap.size Y3 e4 Y4 e6 (partS bs (gone m k (j + 1))) (partB m (gone m k (j + 1)))) := by rw [← HV.out, ← gone_succ, haa.out]; exact own_six PF3.out KX3.out _ _ _ _ _ _
                  have HYV : Hid (Below Y.heap.size Y V) := by rw [← HV.out]; exact below_six HY3.out hx1 _ _ _ _ _ _
                  rw [HV.out]
                  go_roundw
                  case rel => exact ⟨j + 1, Y3, e4, Y4, e6, by omega, by go_num, KXV, PFV, HYV⟩
                  case measure => simp [intOf]; omega
            case zo90041_1 =>
              go_simp
              refine hK.out _ _ (held9 (KX0.out.alloc _) ((K4.out.below (HY0.out.alloc HY0.out.size _) K4.out.lt).cell 4) (HTC.out _ a ta (HB4.out.trans ((HY0.out.alloc HY0.out.size _).mono HB4.out.size)) HA.out)) (fun hHeld => ?_)
              clear hK K
              (try simp only [Act.put, List.setIfInBounds_toArray, List.set_cons_zero, List.set_cons_succ])
              obtain ⟨U1, HU1⟩ : ∃ U, Hid (U0.alloc (.cells (feedC 0 0 0 0 none 0 0 none 0 0) 28) = U) := ⟨_, rfl⟩
              have hb1 : Below U0.heap.size U0 U1 := by rw [← HU1.out]; exact (Below.refl _ _).alloc (Nat.le_refl _) _
              have HY1 : Hid (Below Y.heap.size Y U1) := HY0.out.trans (hb1.mono HY0.out.size)
              have KX1 := Lib.hid (KX0.out.below hb1 KX0.out.lt)
              have PR1 : Hid (OwnFeed U1 Y.heap.size Y1 e1 Y2 e3 (partS bs (gone m k j)) (partB m (gone m k j))) := ⟨PR0.out.strs.below hb1, PR0.out.bits.below hb1, PR0.out.fit⟩
              have PZ1 := Lib.hid (PZ0.out.below hb1)
              have KL1 : Hid (Blk U1 U0.heap.size 28 (feedC 0 0 0 0 none 0 0 none 0 0)) := by rw [← HU1.out]; exact Blk.new U0 _ _
              have hzl : Y.heap.size ≤ U0.heap.size := HY0.out.size
              rw [HU1.out] at hHeld ⊢
              refine wpAnyH_ready (rs := [8]) (by kernel_rfl) (by simp) (AllReadyH.cons rfl (fun K hK => ?zo90048_0) AllReadyH.nil)
              case zo90048_0 =>
                go_simp
                go_at_call 13
                have CPX := CP.out _ Y1 e1 Y2 e3 (gone m k j) a ta _ _ ZA HY1.out HA.out HSA.out PR1.out.at_ PZ1.out
                refine CPX.mono ?_
                rintro e U2 ⟨Y3, e4, Y4, e6, rfl, ho2, hb2⟩
                clear CPX
                have HY2 : Hid (Below Y.heap.size Y U2) := HY1.out.trans (hb2.mono HY1.out.size)
                have KX2 := Lib.hid (KX1.out.below hb2 KX1.out.lt)
                have KL2 := Lib.hid (KL1.out.below hb2 KL1.out.lt)
                have PR2 : Hid (OwnFeed U2 Y.heap.size Y1 e1 Y2 e3 (partS bs (gone m k j)) (partB m (gone m k j))) := ⟨PR1.out.strs.below hb2, PR1.out.bits.below hb2, PR1.out.fit⟩
                have PZ2 := Lib.hid (PZ1.out.below hb2)
                have PF2 := Lib.hid (ho2.base_le HY1.out.size)
                have hzc2 := hb2.size
                clear ho2 hb2
                refine hK.out _ _ (held9 KX2.out ((K4.out.below HY2.out K4.out.lt).cell 4) (HTC.out _ a ta (HB4.out.trans (HY2.out.mono HB4.out.size)) HA.out)) (fun hHeld => ?_)
                clear hK K
                (try simp only [Act.put, List.setIfInBounds_toArray, List.set_cons_zero, List.set_cons_succ])
                refine wpAnyH_take (i := 9) (v := ?zv90049) rfl (by kernel_rfl) (by kernel_rfl) (by kernel_rfl) (fun _ _ _ h => h) (Or.inl ⟨by kernel_rfl, ?zy90049⟩) (by assumption) ?zr90049
                case zy90049 => (intro w hSw; (try dsimp only at hSw); go_simp; try with_reducible rfl)
                change wpAnyH _ _ _ _ _ _ _ (Act.put _ (some 90) _) _
                simp only [Act.put, List.setIfInBounds_toArray, List.set_cons_zero, List.set_cons_succ]
                refine wpAnyH_take (i := 10) (v := ?zv90050) rfl (by kernel_rfl) (by kernel_rfl) (by kernel_rfl) (fun _ _ _ h => h) (Or.inl ⟨by kernel_rfl, ?zy90050⟩) (by assumption) ?zr90050
                case zy90050 => (intro w hSw; (try dsimp only at hSw); go_simp; try with_reducible rfl)
                change wpAnyH _ _ _ _ _ _ _ (Act.put _ (some 100) _) _
                simp only [Act.put, List.setIfInBounds_toArray, List.set_cons_zero, List.set_cons_succ]
                refine wpAnyH_take (i := 11) (v := ?zv90051) rfl (by kernel_rfl) (by kernel_rfl) (by kernel_rfl) (fun _ _ _ h => h) (Or.inl ⟨by kernel_rfl, ?zy90051⟩) (by assumption) ?zr90051
                case zy90051 => (intro w hSw; (try dsimp only at hSw); go_simp; try with_reducible rfl)
                change wpAnyH _ _ _ _ _ _ _ (Act.put _ (some 101) _) _
                simp only [Act.put, List.setIfInBounds_toArray, List.set_cons_zero, List.set_cons_succ]
                refine wpAnyH_ready (rs := [13]) (by kernel_rfl) (by simp) (AllReadyH.cons rfl (fun K hK => ?zo90052_0) AllReadyH.nil)
                case zo90052_0 =>
                  go_simp
                  obtain ⟨n0, n1, n2, n3, n4, n5⟩ := feed_cells KL2.out
                  have nf := blk_frozen KL2.out
                  have hzg : gx < U0.heap.size := by have := HGX.out; have := HZZ.out; omega
                  obtain ⟨U3, HU3⟩ : ∃ Q0, Hid (((((((U2.setCell ⟨U0.heap.size, 0, none⟩ (.int .i64 p)).setCell ⟨U0.heap.size, 1, none⟩ (.int .i64 l)).setCell ⟨U0.heap.size, 2, none⟩ (.int .i64 d)).setCell ⟨U0.heap.size, 3, none⟩ (.int .i64 s)).setCell ⟨U0.heap.size, 4, none⟩ (.slice Y3 m e4)).setCell ⟨U0.heap.size, 5, none⟩ (.slice Y4 m e6)) = Q0) := ⟨_, rfl⟩
                  have KX3 : Hid (Blk U3 gx 28 (feedC p l d s Y1 m e1 Y2 m e3)) := by rw [← HU3.out]; exact ((((((KX2.out.setOther (p := ⟨U0.heap.size, 0, none⟩) (by show U0.heap.size ≠ gx; omega) _).setOther (p := ⟨U0.heap.size, 1, none⟩) (by show U0.heap.size ≠ gx; omega) _).setOther (p := ⟨U0.heap.size, 2, none⟩) (by show U0.heap.size ≠ gx; omega) _).setOther (p := ⟨U0.heap.size, 3, none⟩) (by show U0.heap.size ≠ gx; omega) _).setOther (p := ⟨U0.heap.size, 4, none⟩) (by show U0.heap.size ≠ gx; omega) _).setOther (p := ⟨U0.heap.size, 5, none⟩) (by show U0.heap.size ≠ gx; omega) _)
                  have KL3 : Hid (Blk U3 U0.heap.size 28 (feedC p l d s Y3 m e4 Y4 m e6)) := by rw [← HU3.out]; exact blk_six KL2.out _ _ _ _ _ _
                  have PF3 : Hid (OwnFeed U3 Y.heap.size Y3 e4 Y4 e6 (partS bs (fun j' => gone m k j j' || j' == a)) (partB m (fun j' => gone m k j j' || j' == a))) := by rw [← HU3.out]; exact own_six PF2.out KL2.out _ _ _ _ _ _
                  have HY3 : Hid (Below Y.heap.size Y U3) := by rw [← HU3.out]; exact below_six HY2.out (by omega) _ _ _ _ _ _
                  go_simp
                  rw [HU3.out]
                  refine hK.out _ _ (held9 KX3.out ((K4.out.below HY3.out K4.out.lt).cell 4) (HTC.out _ a ta (HB4.out.trans (HY3.out.mono HB4.out.size)) HA.out)) (fun hHeld => ?_)
                  clear hK K
                  (try simp only [Act.put])
                  refine wpAnyH_take (i := 14) (v := ?zv90053) rfl (by kernel_rfl) (by kernel_rfl) (by kernel_rfl) (fun _ _ _ h => h) (Or.inl ⟨by kernel_rfl, ?zy90053⟩) (by assumption) ?zr90053
                  case zy90053 => (intro w hSw; (try dsimp only at hSw); go_simp; try with_reducible rfl)
                  change wpAnyH _ _ _ _ _ _ _ (Act.put _ (some 15) _) _
                  simp only [Act.put, List.setIfInBounds_toArray, List.set_cons_zero, List.set_cons_succ]
                  refine wpAnyH_done (by kernel_rfl) ?_ _
                  obtain ⟨l0, l1, l2, l3, l4, l5⟩ := feed_cells KL3.out
                  obtain ⟨x0, x1, x2, x3, x4, x5⟩ := feed_cells KX3.out
                  have xf := blk_frozen KX3.out
                  go_wp2
                  obtain ⟨V, HV⟩ : ∃ Q0, Hid (((((((U3.setCell ⟨gx, 0, none⟩ (.int .i64 p)).setCell ⟨gx, 1, none⟩ (.int .i64 l)).setCell ⟨gx, 2, none⟩ (.int .i64 d)).setCell ⟨gx, 3, none⟩ (.int .i64 s)).setCell ⟨gx, 4, none⟩ (.slice Y3 m e4)).setCell ⟨gx, 5, none⟩ (.slice Y4 m e6)) = Q0) := ⟨_, rfl⟩
                  have KXV : Hid (Blk V gx 28 (feedC p l d s Y3 m e4 Y4 m e6)) := by rw [← HV.out]; exact blk_six KX3.out _ _ _ _ _ _
                  have PFV : Hid (OwnFeed V Y.heap.size Y3 e4 Y4 e6 (partS bs (gone m k (j + 1))) (partB m (gone m k (j + 1)))) := by rw [← HV.out, ← gone_succ, haa.out]; exact own_six PF3.out KX3.out _ _ _ _ _ _
                  have HYV : Hid (Below Y.heap.size Y V) := by rw [← HV.out]; exact below_six HY3.out hx1 _ _ _ _ _ _
                  rw [HV.out]
                  go_roundw
                  case rel => exact ⟨j + 1, Y3, e4, Y4, e6, by omega, by go_num, KXV, PFV, HYV⟩
                  case measure => simp [intOf]; omega
          · have hjm2 : j = m := by omega
            subst hjm2
            have HALL : Hid (partS bs (gone j k j) = bs ∧ partB j (gone j k j) = hs) := by
              show _ ∧ _
              obtain ⟨hok, hwh, -, -⟩ := (proveOk_iff _ _).1 HR.out
              have h := part_all (f := ⟨p, l, d, s, bs, hs⟩) (S := gone j k j) hok hwh (fun q hq => (gone_at hm16 hkm (by have h2 : q < bs.length := hq; rw [HM.out] at h2; exact h2)).1)
              unfold partF at h
              injection h with _ _ _ _ e1 e2
              rw [HM.out] at e2
              exact ⟨e1, e2⟩
            have hpr := PRr.out
            rw [HALL.out.1, HALL.out.2] at hpr
            have CS : Hid (Calls Tryd.prog 15 #[feedV p l d s Y1 j e1 Y2 j e3, feedV p l d s (some ⟨b, o, none⟩) j c1 A2 j c2] wr fun e w' => e = .returned (.bool true) ∧ Below wr.heap.size wr w') := by
              have h := sameFeed_same p l d s Y1 e1 Y2 e3 (some ⟨b, o, none⟩) c1 A2 c2 bs hs wr hpr.at_ (HF.out.belowS (HB4.out.trans (HYr.out.mono HB4.out.size)))
              rw [HM.out, HN.out] at h
              exact h
            obtain ⟨x0, x1, x2, x3, x4, x5⟩ := feed_cells KXr.out
            clear hpr
            go_wp2_with fail
            refine CS.out.mono ?_
            rintro e wz ⟨rfl, hbz⟩
            have HBZ := Lib.hid hbz
            clear hbz
            go_wp2
            go_ret
            exact ⟨rfl, (HBW.out.trans (HYr.out.mono HBW.out.size)).trans (HBZ.out.mono ((HBW.out.trans (HYr.out.mono HBW.out.size)).size))⟩
  · have h9 : 1048576 < len := by omega
    clear hlen
    go_enter Tryd.func9, Tryd.ntmps9
    go_wp2
    go_ret
    exact ⟨rfl, Below.refl _ _⟩

end Go.Proofs.YtnffmmaclmeajaaDoor
