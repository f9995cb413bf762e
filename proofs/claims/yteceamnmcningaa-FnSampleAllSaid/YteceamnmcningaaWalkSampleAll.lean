/- The walk of FnSampleAll: it returns true and changes nothing that was there. Condition: the code's bytes lie in memory. -/
import Derived.Test.YteceamnmcningaaDrawDir2
import Derived.Test.YteceamnmcningaaDir
import Derived.Test.YteceamnmcningaaDirLaws
import Derived.Deep.DeepCutAuto
import Derived.Deep.RegionHeld3
import Derived.BigQuiet
import Derived.Deep.QuietTactic
namespace Go.Proofs.Yteceamnmcningaa
open Go.RowKit
set_option linter.unusedVariables false

set_option maxHeartbeats 8000000 in
set_option maxRecDepth 100000 in
theorem walkSampleAll (A : Option Addr) (len cap : Nat) (w : World) (hI : In w A len cap) :
    Calls Try.prog 10 #[.slice A len cap] w fun e w' => e = .returned (.bool true) ∧ Below w.heap.size w w' := by
  have hm := hI.len_le
  unfold maxLen at hm
  have HI := Lib.hid hI
  clear hI
  by_cases hlen : len ≤ 1048576
  · go_enter Try.func10, Try.ntmps10
    go_wp2_with fail
    refine (drawLSample_any A len cap _ HI.out).mono ?_
    rintro e w1 ⟨X, c, xs, seed, many, rfl, ho, hl, hsd, hmn, hb1⟩
    have PF1 := Lib.hid ho
    have HB1 := Lib.hid hb1
    clear ho hb1
    obtain ⟨nb, HN⟩ : ∃ v, Hid (xs.length = v) := ⟨_, rfl⟩
    rw [HN.out] at hl ⊢
    obtain ⟨os, HO⟩ : ∃ v, Hid (sampleL xs seed many = v) := ⟨_, rfl⟩
    obtain ⟨mb, HM⟩ : ∃ v, Hid (os.length = v) := ⟨_, rfl⟩
    have hmb : mb ≤ nb := by rw [← HM.out, ← HO.out, ← HN.out]; exact sample_le xs seed many
    have CI := Lib.hid (dirSample_any X c xs seed many w1 (own_lis PF1.out) (by omega) HN.out)
    rw [HO.out] at CI
    go_wp2_with fail
    refine CI.out.mono ?_
    rintro e w2 ⟨A3, c3, rfl, ho, hb⟩
    clear CI
    rw [HM.out]
    have PF2 := Lib.hid (PF1.out.below hb)
    have HB2 : Hid (Below w.heap.size w w2) := HB1.out.trans (hb.mono HB1.out.size)
    clear hb
    have PO2 := Lib.hid ho
    clear ho
    have CI := Lib.hid (sdirSample_any X c xs seed many w2 (own_lis PF2.out) (by omega) HN.out)
    rw [HO.out] at CI
    go_wp2_with fail
    refine CI.out.mono ?_
    rintro e w3 ⟨A4, c4, rfl, ho, hb⟩
    clear CI
    rw [HM.out]
    have PF3 := Lib.hid (PF2.out.below hb)
    have PO3 := Lib.hid (PO2.out.below hb)
    have HB3 : Hid (Below w.heap.size w w3) := HB2.out.trans (hb.mono HB2.out.size)
    clear hb
    have PW3 := Lib.hid ho
    clear ho
    have CI := Lib.hid (sameIB_any A3 c3 A4 c4 os w3 PO3.out.ints PW3.out.ints (by rw [HM.out]; unfold maxLen; omega) HM.out)
    go_wp2_with fail
    refine CI.out.mono ?_
    rintro e w4 ⟨rfl, hb⟩
    clear CI
    have PF4 := Lib.hid (PF3.out.below hb)
    have PO4 := Lib.hid (PO3.out.below hb)
    have PW4 := Lib.hid (PW3.out.below hb)
    have HB4 : Hid (Below w.heap.size w w4) := HB3.out.trans (hb.mono HB3.out.size)
    clear hb
    by_cases hm0 : mb = 0
    · subst hm0
      have CI := Lib.hid (sameIB_any A3 c3 A4 c4 os w4 PO4.out.ints PW4.out.ints (by rw [HM.out]; unfold maxLen; omega) HM.out)
      go_wp2_with fail
      refine CI.out.mono ?_
      rintro e w5 ⟨rfl, hb⟩
      clear CI
      have PF5 := Lib.hid (PF4.out.below hb)
      have PO5 := Lib.hid (PO4.out.below hb)
      have PW5 := Lib.hid (PW4.out.below hb)
      have HB5 : Hid (Below w.heap.size w w5) := HB4.out.trans (hb.mono HB4.out.size)
      clear hb
      go_wp2
      go_ret
      exact ⟨rfl, HB5.out⟩
    · have hmz : ((mb : Int) == 0) = false := by rw [beq_eq_false_iff_ne]; omega
      have hmz2 : ¬ mb = 0 := hm0
      have HP := Lib.hid (sample_pos (xs := xs) (seed := seed) (many := many) (by rw [HO.out, HM.out]; omega))
      have HNP : Hid (0 < nb) := by rw [← HN.out]; exact HP.out.2.2.1
      clear hm0
      have HLAW : Hid (∀ i, i < nb → hitN xs seed i nb = 1) := fun i hi => by
        have h := law_sample_all HP.out.1 HP.out.2.1 (i := i) (by rw [HN.out]; exact hi)
        rwa [HN.out] at h
      go_wp2
      go_loopw [8] (fun i w' => ∃ k : Nat, k ≤ nb ∧ i = .int .i64 (k : Int) ∧ Hid (Below w4.heap.size w4 w')) (fun i _ => nb - (intOf i).toNat)
      case atStart => exact ⟨0, Nat.zero_le _, rfl, Below.refl _ _⟩
      case round =>
        obtain ⟨i, hi, rfl, HQ⟩ := hrel
        by_cases hlt : i < nb
        · have hii : (i : Int) < (nb : Int) := by omega
          have hi0 : (0 : Int) ≤ (i : Int) := by omega
          go_wp2
          go_loopw [9, 10] (fun n k w' => ∃ (j m : Nat), j ≤ nb ∧ n = .int .i64 (m : Int) ∧ k = .int .i64 (j : Int) ∧ Hid (hitN xs seed i j = m) ∧ m ≤ j ∧ Hid (Below w4.heap.size w4 w')) (fun _ k _ => nb - (intOf k).toNat)
          case atStart => exact ⟨0, 0, Nat.zero_le _, rfl, rfl, rfl, Nat.le_refl _, HQ⟩
          case round =>
            clear HQ
            obtain ⟨j, m, hj, rfl, rfl, HH, hmj, HQ⟩ := hrel
            have HPF := Lib.hid (PF4.out.below HQ.out)
            have HBR : Hid (Below w.heap.size w wr) := HB4.out.trans (HQ.out.mono HB4.out.size)
            by_cases hjl : j < nb
            · have hiz : i < xs.length := by rw [HN.out]; exact hlt
              obtain ⟨b, o, hX⟩ := (own_lis HPF.out).row.some_ (by omega)
              subst hX
              have c0 := (lis_cells (own_lis HPF.out).row i hiz).1
              have hbl := ((own_lis HPF.out).row.lt (by omega)).1
              have hjj : (j : Int) < (nb : Int) := by omega
              have hj0 : (0 : Int) ≤ (j : Int) := by omega
              have hws : IntKind.i64.wrap (seed + (j : Int)) = seed + (j : Int) := IntWalk.i64_in _ (by omega)
              have hwm : IntKind.i64.wrap ((m : Int) + 1) = (m : Int) + 1 := IntWalk.i64_in _ (by omega)
              have HHS := Lib.hid (hitN_succ xs seed i j)
              rw [HH.out] at HHS
              have HON := Lib.hid (sample_one (xs := xs) (seed := seed + (j : Int)) HP.out.1 (by have := HP.out.2.1; omega) (by omega))
              obtain ⟨vi, HVI⟩ : ∃ v, Hid ((lth xs i).n = v) := ⟨_, rfl⟩
              obtain ⟨vj, HVJ⟩ : ∃ v, Hid ((lth xs ((seed + (j : Int)).toNat % xs.length)).n = v) := ⟨_, rfl⟩
              rw [HVI.out] at c0 HHS
              rw [HVJ.out] at HHS HON
              clear hiz
              go_wp2_with fail
              refine wp_region_held_drew (S := (fun w' => w'.cell? ⟨b, o + i * 2, none⟩ = some (.int .i64 vi))) (by kernel_rfl) (c0) (fun hHeld => ?_)
              obtain ⟨V0, HVE⟩ : ∃ U, Hid (wr.drew = U) := ⟨_, rfl⟩
              have HQ0x : Hid (Below w4.heap.size w4 V0) := by rw [← HVE.out]; exact below_drew HQ.out
              have PF0x : Hid (OwnRow LK V0 w.heap.size (some ⟨b, o, none⟩) c xs) := by rw [← HVE.out]; exact HPF.out
              have hbl0 : b < V0.heap.size := by rw [← HVE.out]; exact hbl
              rw [HVE.out] at hHeld ⊢
              refine wpAnyH_take (i := 0) (v := ?zv90001) rfl (by kernel_rfl) (by kernel_rfl) (by kernel_rfl) (fun _ _ _ h => h) (Or.inl ⟨by kernel_rfl, ?zy90001⟩) (by assumption) ?zr90001
              case zy90001 => (intro w hSw; (try dsimp only at hSw); go_simp; try with_reducible rfl)
              change wpAnyH _ _ _ _ _ _ _ (Act.put _ (some 52) _) _
              simp only [Act.put, List.setIfInBounds_toArray, List.set_cons_zero, List.set_cons_succ]
              refine wpAnyH_take (i := 1) (v := ?zv90002) rfl (by kernel_rfl) (by kernel_rfl) (by kernel_rfl) (fun _ _ _ h => h) (Or.inl ⟨by kernel_rfl, ?zy90002⟩) (by assumption) ?zr90002
              case zy90002 => (intro w hSw; (try dsimp only at hSw); go_simp; try with_reducible rfl)
              change wpAnyH _ _ _ _ _ _ _ (Act.put _ (some 53) _) _
              simp only [Act.put, List.setIfInBounds_toArray, List.set_cons_zero, List.set_cons_succ]
              refine wpAnyH_take (i := 2) (v := ?zv90003) rfl (by kernel_rfl) (by kernel_rfl) (by kernel_rfl) (fun _ _ _ h => h) (Or.inl ⟨by kernel_rfl, ?zy90003⟩) (by assumption) ?zr90003
              case zy90003 => (intro w hSw; (try dsimp only at hSw); go_simp; try with_reducible rfl)
              change wpAnyH _ _ _ _ _ _ _ (Act.put _ (some 54) _) _
              simp only [Act.put, List.setIfInBounds_toArray, List.set_cons_zero, List.set_cons_succ]
              refine wpAnyH_take (i := 7) (v := ?zv90004) rfl (by kernel_rfl) (by kernel_rfl) (by kernel_rfl) (fun _ _ _ h => h) (Or.inl ⟨by kernel_rfl, ?zy90004⟩) (by assumption) ?zr90004
              case zy90004 => (intro w hSw; (try dsimp only at hSw); go_simp; try with_reducible rfl)
              change wpAnyH _ _ _ _ _ _ _ (Act.put _ (some 59) _) _
              simp only [Act.put, List.setIfInBounds_toArray, List.set_cons_zero, List.set_cons_succ]
              refine wpAnyH_take (i := 8) (v := ?zv90005) rfl (by kernel_rfl) (by kernel_rfl) (by kernel_rfl) (fun _ _ _ h => h) (Or.inl ⟨by kernel_rfl, ?zy90005⟩) (by assumption) ?zr90005
              case zy90005 => (intro w hSw; (try dsimp only at hSw); go_simp; try with_reducible rfl)
              change wpAnyH _ _ _ _ _ _ _ (Act.put _ (some 60) _) _
              simp only [Act.put, List.setIfInBounds_toArray, List.set_cons_zero, List.set_cons_succ]
              refine wpAnyH_take (i := 3) (v := ?zv90006) rfl (by kernel_rfl) (by kernel_rfl) (by kernel_rfl) (fun _ _ _ h => h) (Or.inl ⟨by kernel_rfl, ?zy90006⟩) (by assumption) ?zr90006
              case zy90006 => (intro w hSw; (try dsimp only at hSw); go_simp; try with_reducible rfl)
              change wpAnyH _ _ _ _ _ _ _ (Act.put _ (some 55) _) _
              simp only [Act.put, List.setIfInBounds_toArray, List.set_cons_zero, List.set_cons_succ]
              refine wpAnyH_take (i := 9) (v := ?zv90007) rfl (by kernel_rfl) (by kernel_rfl) (by kernel_rfl) (fun _ _ _ h => h) (Or.inl ⟨by kernel_rfl, ?zy90007⟩) (by assumption) ?zr90007
              case zy90007 => (intro w hSw; (try dsimp only at hSw); go_simp; try with_reducible rfl)
              change wpAnyH _ _ _ _ _ _ _ (Act.put _ (some 61) _) _
              simp only [Act.put, List.setIfInBounds_toArray, List.set_cons_zero, List.set_cons_succ]
              refine wpAnyH_take (i := 10) (v := ?zv90008) rfl (by kernel_rfl) (by kernel_rfl) (by kernel_rfl) (fun _ _ _ h => h) (Or.inl ⟨by kernel_rfl, ?zy90008⟩) (by assumption) ?zr90008
              case zy90008 => (intro w hSw; (try dsimp only at hSw); go_simp; try with_reducible rfl)
              change wpAnyH _ _ _ _ _ _ _ (Act.put _ (some 62) _) _
              simp only [Act.put, List.setIfInBounds_toArray, List.set_cons_zero, List.set_cons_succ]
              refine wpAnyH_take (i := 11) (v := ?zv90009) rfl (by kernel_rfl) (by kernel_rfl) (by kernel_rfl) (fun _ _ _ h => h) (Or.inl ⟨by kernel_rfl, ?zy90009⟩) (by assumption) ?zr90009
              case zy90009 => (intro w hSw; (try dsimp only at hSw); go_simp; try with_reducible rfl)
              change wpAnyH _ _ _ _ _ _ _ (Act.put _ (some 63) _) _
              simp only [Act.put, List.setIfInBounds_toArray, List.set_cons_zero, List.set_cons_succ]
              refine wpAnyH_ready (rs := [4]) (by kernel_rfl) (by simp) (AllReadyH.cons rfl (fun K hK => ?zo90010_0) AllReadyH.nil)
              case zo90010_0 =>
                go_simp
                go_at_call 26
                have CI := Lib.hid (dirSample_any (some ⟨b, o, none⟩) c xs (seed + (j : Int)) 1 V0 (own_lis PF0x.out) (by omega) HN.out)
                rw [HON.out] at CI
                refine CI.out.mono ?_
                rintro e V1 ⟨A6, c6, rfl, ho, hb⟩
                obtain ⟨b6, o6, h6, _, hc6⟩ := ho.ints.at_ (by simp)
                subst h6
                have hcv : V1.cell? ⟨b6, o6, none⟩ = some (.int .i64 vj) := hc6 0 (by simp)
                have hsv : w4.heap.size ≤ V0.heap.size := HQ0x.out.size
                have HQ1x : Hid (Below w4.heap.size w4 V1) := HQ0x.out.trans (hb.mono hsv)
                have hlen1 : ([vj] : List Int).length = 1 := rfl
                rw [hlen1]
                have hkeep := hb.cell (p := ⟨b, o + i * 2, none⟩) (hbl0)
                have hSn : V1.cell? ⟨b, o + i * 2, none⟩ = some (.int .i64 vi) := hkeep.trans hHeld
                clear ho hb CI hc6 hkeep hlen1
                refine hK.out _ _ (hSn) (fun hHeld => ?_)
                clear hK K
                (try simp only [Act.put, List.setIfInBounds_toArray, List.set_cons_zero, List.set_cons_succ])
                refine wpAnyH_take (i := 5) (v := ?zv90011) rfl (by kernel_rfl) (by kernel_rfl) (by kernel_rfl) (fun _ _ _ h => h) (Or.inl ⟨by kernel_rfl, ?zy90011⟩) (by assumption) ?zr90011
                case zy90011 => (intro w hSw; (try dsimp only at hSw); go_simp; try with_reducible rfl)
                change wpAnyH _ _ _ _ _ _ _ (Act.put _ (some 57) _) _
                simp only [Act.put, List.setIfInBounds_toArray, List.set_cons_zero, List.set_cons_succ]
                refine wpAnyH_ready (rs := [6]) (by kernel_rfl) (by simp) (AllReadyH.cons rfl (fun K hK => ?zo90012_0) AllReadyH.nil)
                case zo90012_0 =>
                  go_simp
                  refine hK.out _ _ (hSn) (fun hHeld => ?_)
                  clear hK K
                  (try simp only [Act.put, List.setIfInBounds_toArray, List.set_cons_zero, List.set_cons_succ])
                  obtain ⟨V2, HV2e⟩ : ∃ U, Hid (V1 = U) := ⟨_, rfl⟩
                  rw [HV2e.out] at hcv HQ1x hSn hHeld ⊢
                  have HQ2x := HQ1x
                  refine wpAnyH_take (i := 12) (v := ?zv90013) rfl (by kernel_rfl) (by kernel_rfl) (by kernel_rfl) (fun _ _ _ h => h) (Or.inl ⟨by kernel_rfl, ?zy90013⟩) (by assumption) ?zr90013
                  case zy90013 => (intro w hSw; (try dsimp only at hSw); go_simp; try with_reducible rfl)
                  change wpAnyH _ _ _ _ _ _ _ (Act.put _ (some 64) _) _
                  simp only [Act.put, List.setIfInBounds_toArray, List.set_cons_zero, List.set_cons_succ]
                  refine wpAnyH_done (by kernel_rfl) ?_ _
                  by_cases he : vj = vi
                  · have hee : (vj == vi) = true := by simp [he]
                    have HH2 : Hid (hitN xs seed i (j + 1) = m + 1) := by show _ = _; rw [HHS.out, if_pos he]
                    clear he
                    go_wp2
                    go_roundw
                    case rel => exact ⟨j + 1, m + 1, by omega, by go_num, by go_num, HH2, by omega, HQ2x⟩
                    case measure => simp [intOf]; omega
                  · have hee : (vj == vi) = false := beq_eq_false_iff_ne.2 he
                    have HH2 : Hid (hitN xs seed i (j + 1) = m) := by show _ = _; rw [HHS.out, if_neg he]; rfl
                    clear he
                    go_wp2
                    go_roundw
                    case rel => exact ⟨j + 1, m, by omega, rfl, by go_num, HH2, by omega, HQ2x⟩
                    case measure => simp [intOf]; omega
            · have hjn : j = nb := by omega
              subst hjn
              have hm1 : m = 1 := by rw [← HH.out]; exact HLAW.out i hlt
              subst hm1
              go_wp2
              go_roundw
              case rel => exact ⟨i + 1, by omega, by go_num, HQ⟩
              case measure => simp [intOf]; omega
        · have HBR : Hid (Below w.heap.size w wr) := HB4.out.trans (HQ.out.mono HB4.out.size)
          go_wp2
          go_ret
          exact ⟨rfl, HBR.out⟩
  · have h9 : 1048576 < len := by omega
    clear hlen
    go_enter Try.func10, Try.ntmps10
    go_wp2
    go_ret
    exact ⟨rfl, Below.refl _ _⟩

end Go.Proofs.Yteceamnmcningaa
