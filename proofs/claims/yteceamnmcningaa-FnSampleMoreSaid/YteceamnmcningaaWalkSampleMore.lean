/- The walk of FnSampleMore: it returns true and changes nothing that was there. Condition: the code's bytes lie in memory. -/
import Derived.Test.YteceamnmcningaaDrawDir2
import Derived.Test.YteceamnmcningaaDir
import Derived.Test.YteceamnmcningaaDirLaws
import Derived.Deep.DeepCutAuto
import Derived.Deep.RegionHeld3
import Derived.BigQuiet
import Derived.Deep.QuietTactic
namespace Go.Proofs.Yteceamnmcningaa
open Go.RowKit
set_option linter.unusedVariables false

set_option maxHeartbeats 8000000 in
set_option maxRecDepth 100000 in
theorem walkSampleMore (A : Option Addr) (len cap : Nat) (w : World) (hI : In w A len cap) :
    Calls Try.prog 11 #[.slice A len cap] w fun e w' => e = .returned (.bool true) ∧ Below w.heap.size w w' := by
  have hm := hI.len_le
  unfold maxLen at hm
  have HI := Lib.hid hI
  clear hI
  by_cases hlen : len ≤ 1048576
  · go_enter Try.func11, Try.ntmps11
    go_wp2_with fail
    refine (drawLSample_any A len cap _ HI.out).mono ?_
    rintro e w1 ⟨X, c, xs, seed, many, rfl, ho, hl, hsd, hmn, hb1⟩
    have PF1 := Lib.hid ho
    have HB1 := Lib.hid hb1
    clear ho hb1
    obtain ⟨nb, HN⟩ : ∃ v, Hid (xs.length = v) := ⟨_, rfl⟩
    rw [HN.out] at hl ⊢
    obtain ⟨os, HO⟩ : ∃ v, Hid (sampleL xs seed many = v) := ⟨_, rfl⟩
    obtain ⟨mb, HM⟩ : ∃ v, Hid (os.length = v) := ⟨_, rfl⟩
    have hmb : mb ≤ nb := by rw [← HM.out, ← HO.out, ← HN.out]; exact sample_le xs seed many
    have CI := Lib.hid (dirSample_any X c xs seed many w1 (own_lis PF1.out) (by omega) HN.out)
    rw [HO.out] at CI
    go_wp2_with fail
    refine CI.out.mono ?_
    rintro e w2 ⟨A3, c3, rfl, ho, hb⟩
    clear CI
    rw [HM.out]
    have PF2 := Lib.hid (PF1.out.below hb)
    have HB2 : Hid (Below w.heap.size w w2) := HB1.out.trans (hb.mono HB1.out.size)
    clear hb
    have PO2 := Lib.hid ho
    clear ho
    have CI := Lib.hid (sdirSample_any X c xs seed many w2 (own_lis PF2.out) (by omega) HN.out)
    rw [HO.out] at CI
    go_wp2_with fail
    refine CI.out.mono ?_
    rintro e w3 ⟨A4, c4, rfl, ho, hb⟩
    clear CI
    rw [HM.out]
    have PF3 := Lib.hid (PF2.out.below hb)
    have PO3 := Lib.hid (PO2.out.below hb)
    have HB3 : Hid (Below w.heap.size w w3) := HB2.out.trans (hb.mono HB2.out.size)
    clear hb
    have PW3 := Lib.hid ho
    clear ho
    have CI := Lib.hid (sameIB_any A3 c3 A4 c4 os w3 PO3.out.ints PW3.out.ints (by rw [HM.out]; unfold maxLen; omega) HM.out)
    go_wp2_with fail
    refine CI.out.mono ?_
    rintro e w4 ⟨rfl, hb⟩
    clear CI
    have PF4 := Lib.hid (PF3.out.below hb)
    have PO4 := Lib.hid (PO3.out.below hb)
    have PW4 := Lib.hid (PW3.out.below hb)
    have HB4 : Hid (Below w.heap.size w w4) := HB3.out.trans (hb.mono HB3.out.size)
    clear hb
    by_cases hm0 : mb = 0
    · subst hm0
      have CI := Lib.hid (sameIB_any A3 c3 A4 c4 os w4 PO4.out.ints PW4.out.ints (by rw [HM.out]; unfold maxLen; omega) HM.out)
      go_wp2_with fail
      refine CI.out.mono ?_
      rintro e w5 ⟨rfl, hb⟩
      clear CI
      have PF5 := Lib.hid (PF4.out.below hb)
      have PO5 := Lib.hid (PO4.out.below hb)
      have PW5 := Lib.hid (PW4.out.below hb)
      have HB5 : Hid (Below w.heap.size w w5) := HB4.out.trans (hb.mono HB4.out.size)
      clear hb
      go_wp2
      go_ret
      exact ⟨rfl, HB5.out⟩
    · have hmz : ((mb : Int) == 0) = false := by rw [beq_eq_false_iff_ne]; omega
      have hmz2 : ¬ mb = 0 := hm0
      have HP := Lib.hid (sample_pos (xs := xs) (seed := seed) (many := many) (by rw [HO.out, HM.out]; omega))
      have HNP : Hid (0 < nb) := by rw [← HN.out]; exact HP.out.2.2.1
      clear hm0
      obtain ⟨mh, HMH⟩ : ∃ v, Hid (mb / 2 = v) := ⟨_, rfl⟩
      have hmh : mh ≤ mb := by rw [← HMH.out]; omega
      have hmt : ((mb : Int)).tdiv 2 = (mh : Int) := by rw [Int.tdiv_eq_ediv_of_nonneg (by omega), ← HMH.out]; simp
      have hmw : IntKind.i64.wrap (mh : Int) = (mh : Int) := IntWalk.i64_in _ (by omega)
      obtain ⟨hs, HHS⟩ : ∃ v, Hid (os.take mh = v) := ⟨_, rfl⟩
      have HHL : Hid (hs.length = mh) := by show _ = _; rw [← HHS.out, List.length_take, HM.out]; omega
      have HL : Hid (sampleL xs seed (mh : Int) = hs) := by
        have h := law_sample_more (many := many) HP.out.1 HP.out.2.1 mh (by rw [HO.out, HM.out]; exact hmh)
        rw [HO.out, HHS.out] at h
        exact h
      have hox := PO4.out.le
      rw [HM.out] at hox
      have hx1 := hox.1
      have hx2 := hox.2
      unfold maxLen at hx2
      have hkc : (mh : Int) ≤ (c3 : Int) := by omega
      have hktn : ((mh : Int)).toNat = mh := Int.toNat_natCast mh
      have hm0i : (0 : Int) ≤ (mh : Int) := by omega
      clear hox
      go_wp2_with fail
      refine wp_region_held_drew (S := (fun _ => True)) (by kernel_rfl) (trivial) (fun hHeld => ?_)
      obtain ⟨V0, HVE⟩ : ∃ U, Hid (w4.drew = U) := ⟨_, rfl⟩
      have HB0x : Hid (Below w.heap.size w V0) := by rw [← HVE.out]; exact below_drew HB4.out
      have PF0x : Hid (OwnRow LK V0 w.heap.size X c xs) := by rw [← HVE.out]; exact PF4.out
      have PO0x : Hid (OwnInts V0 w1.heap.size A3 c3 os) := by rw [← HVE.out]; exact PO4.out
      rw [HVE.out]
      refine wpAnyH_take (i := 0) (v := ?zv90014) rfl (by kernel_rfl) (by kernel_rfl) (by kernel_rfl) (fun _ _ _ h => h) (Or.inl ⟨by kernel_rfl, ?zy90014⟩) (by assumption) ?zr90014
      case zy90014 => (intro w hSw; (try dsimp only at hSw); go_simp; try with_reducible rfl)
      change wpAnyH _ _ _ _ _ _ _ (Act.put _ (some 37) _) _
      simp only [Act.put, List.setIfInBounds_toArray, List.set_cons_zero, List.set_cons_succ]
      refine wpAnyH_take (i := 1) (v := ?zv90015) rfl (by kernel_rfl) (by kernel_rfl) (by kernel_rfl) (fun _ _ _ h => h) (Or.inl ⟨by kernel_rfl, ?zy90015⟩) (by assumption) ?zr90015
      case zy90015 => (intro w hSw; (try dsimp only at hSw); go_simp; try with_reducible rfl)
      change wpAnyH _ _ _ _ _ _ _ (Act.put _ (some 38) _) _
      simp only [Act.put, List.setIfInBounds_toArray, List.set_cons_zero, List.set_cons_succ]
      refine wpAnyH_take (i := 2) (v := ?zv90016) rfl (by kernel_rfl) (by kernel_rfl) (by kernel_rfl) (fun _ _ _ h => h) (Or.inl ⟨by kernel_rfl, ?zy90016⟩) (by assumption) ?zr90016
      case zy90016 => (intro w hSw; (try dsimp only at hSw); go_simp; try with_reducible rfl)
      change wpAnyH _ _ _ _ _ _ _ (Act.put _ (some 39) _) _
      simp only [Act.put, List.setIfInBounds_toArray, List.set_cons_zero, List.set_cons_succ]
      refine wpAnyH_take (i := 6) (v := ?zv90017) rfl (by kernel_rfl) (by kernel_rfl) (by kernel_rfl) (fun _ _ _ h => h) (Or.inl ⟨by kernel_rfl, ?zy90017⟩) (by assumption) ?zr90017
      case zy90017 => (intro w hSw; (try dsimp only at hSw); go_simp; try with_reducible rfl)
      change wpAnyH _ _ _ _ _ _ _ (Act.put _ (some 43) _) _
      simp only [Act.put, List.setIfInBounds_toArray, List.set_cons_zero, List.set_cons_succ]
      refine wpAnyH_take (i := 7) (v := ?zv90018) rfl (by kernel_rfl) (by kernel_rfl) (by kernel_rfl) (fun _ _ _ h => h) (Or.inl ⟨by kernel_rfl, ?zy90018⟩) (by assumption) ?zr90018
      case zy90018 => (intro w hSw; (try dsimp only at hSw); go_simp; try with_reducible rfl)
      change wpAnyH _ _ _ _ _ _ _ (Act.put _ (some 44) _) _
      simp only [Act.put, List.setIfInBounds_toArray, List.set_cons_zero, List.set_cons_succ]
      refine wpAnyH_take (i := 3) (v := ?zv90019) rfl (by kernel_rfl) (by kernel_rfl) (by kernel_rfl) (fun _ _ _ h => h) (Or.inl ⟨by kernel_rfl, ?zy90019⟩) (by assumption) ?zr90019
      case zy90019 => (intro w hSw; (try dsimp only at hSw); go_simp; try with_reducible rfl)
      change wpAnyH _ _ _ _ _ _ _ (Act.put _ (some 40) _) _
      simp only [Act.put, List.setIfInBounds_toArray, List.set_cons_zero, List.set_cons_succ]
      refine wpAnyH_take (i := 8) (v := ?zv90020) rfl (by kernel_rfl) (by kernel_rfl) (by kernel_rfl) (fun _ _ _ h => h) (Or.inl ⟨by kernel_rfl, ?zy90020⟩) (by assumption) ?zr90020
      case zy90020 => (intro w hSw; (try dsimp only at hSw); go_simp; try with_reducible rfl)
      change wpAnyH _ _ _ _ _ _ _ (Act.put _ (some 45) _) _
      simp only [Act.put, List.setIfInBounds_toArray, List.set_cons_zero, List.set_cons_succ]
      refine wpAnyH_take (i := 4) (v := ?zv90021) rfl (by kernel_rfl) (by kernel_rfl) (by kernel_rfl) (fun _ _ _ h => h) (Or.inl ⟨by kernel_rfl, ?zy90021⟩) (by assumption) ?zr90021
      case zy90021 => (intro w hSw; (try dsimp only at hSw); go_simp; try with_reducible rfl)
      change wpAnyH _ _ _ _ _ _ _ (Act.put _ (some 41) _) _
      simp only [Act.put, List.setIfInBounds_toArray, List.set_cons_zero, List.set_cons_succ]
      refine wpAnyH_take (i := 9) (v := ?zv90022) rfl (by kernel_rfl) (by kernel_rfl) (by kernel_rfl) (fun _ _ _ h => h) (Or.inl ⟨by kernel_rfl, ?zy90022⟩) (by assumption) ?zr90022
      case zy90022 => (intro w hSw; (try dsimp only at hSw); go_simp; try with_reducible rfl)
      change wpAnyH _ _ _ _ _ _ _ (Act.put _ (some 46) _) _
      simp only [Act.put, List.setIfInBounds_toArray, List.set_cons_zero, List.set_cons_succ]
      refine wpAnyH_take (i := 10) (v := ?zv90023) rfl (by kernel_rfl) (by kernel_rfl) (by kernel_rfl) (fun _ _ _ h => h) (Or.inl ⟨by kernel_rfl, ?zy90023⟩) (by assumption) ?zr90023
      case zy90023 => (intro w hSw; (try dsimp only at hSw); go_simp; try with_reducible rfl)
      change wpAnyH _ _ _ _ _ _ _ (Act.put _ (some 47) _) _
      simp only [Act.put, List.setIfInBounds_toArray, List.set_cons_zero, List.set_cons_succ]
      refine wpAnyH_ready (rs := [5]) (by kernel_rfl) (by simp) (AllReadyH.cons rfl (fun K hK => ?zo90024_0) AllReadyH.nil)
      case zo90024_0 =>
        go_simp
        go_at_call 26
        have CI := Lib.hid (dirSample_any X c xs seed (mh : Int) V0 (own_lis PF0x.out) (by omega) HN.out)
        rw [HL.out] at CI
        refine CI.out.mono ?_
        rintro e V1 ⟨A6, c6, rfl, ho, hb⟩
        rw [HHL.out]
        have PX1x := Lib.hid ho
        have PO1x := Lib.hid (PO0x.out.below hb)
        have HB1x : Hid (Below w.heap.size w V1) := HB0x.out.trans (hb.mono HB0x.out.size)
        clear ho hb CI
        refine hK.out _ _ (trivial) (fun hHeld => ?_)
        clear hK K
        (try simp only [Act.put, List.setIfInBounds_toArray, List.set_cons_zero, List.set_cons_succ])
        refine wpAnyH_ready (rs := [11]) (by kernel_rfl) (by simp) (AllReadyH.cons rfl (fun K hK => ?zo90025_0) AllReadyH.nil)
        case zo90025_0 =>
          go_simp
          go_at_call 28
          have hfi := PO1x.out.ints.first mh
          rw [HHS.out] at hfi
          have CI := Lib.hid (sameIB_any A6 c6 A3 c3 hs V1 PX1x.out.ints hfi (by rw [HHL.out]; unfold maxLen; omega) HHL.out)
          refine CI.out.mono ?_
          rintro e V2 ⟨rfl, hb⟩
          have HB2x : Hid (Below w.heap.size w V2) := HB1x.out.trans (hb.mono HB1x.out.size)
          clear hb CI hfi
          refine hK.out _ _ (trivial) (fun hHeld => ?_)
          clear hK K
          (try simp only [Act.put, List.setIfInBounds_toArray, List.set_cons_zero, List.set_cons_succ])
          refine wpAnyH_take (i := 12) (v := ?zv90026) rfl (by kernel_rfl) (by kernel_rfl) (by kernel_rfl) (fun _ _ _ h => h) (Or.inl ⟨by kernel_rfl, ?zy90026⟩) (by assumption) ?zr90026
          case zy90026 => (intro w hSw; (try dsimp only at hSw); go_simp; try with_reducible rfl)
          change wpAnyH _ _ _ _ _ _ _ (Act.put _ (some 2) _) _
          simp only [Act.put, List.setIfInBounds_toArray, List.set_cons_zero, List.set_cons_succ]
          refine wpAnyH_done (by kernel_rfl) ?_ _
          go_wp2
          go_ret
          exact ⟨rfl, HB2x.out⟩
  · have h9 : 1048576 < len := by omega
    clear hlen
    go_enter Try.func11, Try.ntmps11
    go_wp2
    go_ret
    exact ⟨rfl, Below.refl _ _⟩

end Go.Proofs.Yteceamnmcningaa
