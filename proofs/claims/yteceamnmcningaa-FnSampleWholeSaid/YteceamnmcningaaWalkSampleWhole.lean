/- The walk of FnSampleWhole: it returns true and changes nothing that was there. Condition: the code's bytes lie in memory. -/
import Derived.Test.YteceamnmcningaaDrawDir2
import Derived.Test.YteceamnmcningaaDir
import Derived.Test.YteceamnmcningaaDirLaws
import Derived.Deep.DeepCutAuto
import Derived.Deep.RegionHeld3
import Derived.BigQuiet
import Derived.Deep.QuietTactic
namespace Go.Proofs.Yteceamnmcningaa
open Go.RowKit
set_option linter.unusedVariables false

set_option maxHeartbeats 8000000 in
set_option maxRecDepth 100000 in
theorem walkSampleWhole (A : Option Addr) (len cap : Nat) (w : World) (hI : In w A len cap) :
    Calls Try.prog 13 #[.slice A len cap] w fun e w' => e = .returned (.bool true) ∧ Below w.heap.size w w' := by
  have hm := hI.len_le
  unfold maxLen at hm
  have HI := Lib.hid hI
  clear hI
  by_cases hlen : len ≤ 1048576
  · go_enter Try.func13, Try.ntmps13
    go_wp2_with fail
    refine (drawLSample_any A len cap _ HI.out).mono ?_
    rintro e w1 ⟨X, c, xs, seed, many, rfl, ho, hl, hsd, hmn, hb1⟩
    have PF1 := Lib.hid ho
    have HB1 := Lib.hid hb1
    clear ho hb1
    obtain ⟨nb, HN⟩ : ∃ v, Hid (xs.length = v) := ⟨_, rfl⟩
    rw [HN.out] at hl ⊢
    obtain ⟨os, HO⟩ : ∃ v, Hid (sampleL xs seed many = v) := ⟨_, rfl⟩
    obtain ⟨mb, HM⟩ : ∃ v, Hid (os.length = v) := ⟨_, rfl⟩
    have hmb : mb ≤ nb := by rw [← HM.out, ← HO.out, ← HN.out]; exact sample_le xs seed many
    have CI := Lib.hid (dirSample_any X c xs seed many w1 (own_lis PF1.out) (by omega) HN.out)
    rw [HO.out] at CI
    go_wp2_with fail
    refine CI.out.mono ?_
    rintro e w2 ⟨A3, c3, rfl, ho, hb⟩
    clear CI
    rw [HM.out]
    have PF2 := Lib.hid (PF1.out.below hb)
    have HB2 : Hid (Below w.heap.size w w2) := HB1.out.trans (hb.mono HB1.out.size)
    clear hb
    have PO2 := Lib.hid ho
    clear ho
    have CI := Lib.hid (sdirSample_any X c xs seed many w2 (own_lis PF2.out) (by omega) HN.out)
    rw [HO.out] at CI
    go_wp2_with fail
    refine CI.out.mono ?_
    rintro e w3 ⟨A4, c4, rfl, ho, hb⟩
    clear CI
    rw [HM.out]
    have PF3 := Lib.hid (PF2.out.below hb)
    have PO3 := Lib.hid (PO2.out.below hb)
    have HB3 : Hid (Below w.heap.size w w3) := HB2.out.trans (hb.mono HB2.out.size)
    clear hb
    have PW3 := Lib.hid ho
    clear ho
    have CI := Lib.hid (sameIB_any A3 c3 A4 c4 os w3 PO3.out.ints PW3.out.ints (by rw [HM.out]; unfold maxLen; omega) HM.out)
    go_wp2_with fail
    refine CI.out.mono ?_
    rintro e w4 ⟨rfl, hb⟩
    clear CI
    have PF4 := Lib.hid (PF3.out.below hb)
    have PO4 := Lib.hid (PO3.out.below hb)
    have PW4 := Lib.hid (PW3.out.below hb)
    have HB4 : Hid (Below w.heap.size w w4) := HB3.out.trans (hb.mono HB3.out.size)
    clear hb
    by_cases hm0 : mb = 0
    · subst hm0
      have CI := Lib.hid (sameIB_any A3 c3 A4 c4 os w4 PO4.out.ints PW4.out.ints (by rw [HM.out]; unfold maxLen; omega) HM.out)
      go_wp2_with fail
      refine CI.out.mono ?_
      rintro e w5 ⟨rfl, hb⟩
      clear CI
      have PF5 := Lib.hid (PF4.out.below hb)
      have PO5 := Lib.hid (PO4.out.below hb)
      have PW5 := Lib.hid (PW4.out.below hb)
      have HB5 : Hid (Below w.heap.size w w5) := HB4.out.trans (hb.mono HB4.out.size)
      clear hb
      go_wp2
      go_ret
      exact ⟨rfl, HB5.out⟩
    · have hmz : ((mb : Int) == 0) = false := by rw [beq_eq_false_iff_ne]; omega
      have hmz2 : ¬ mb = 0 := hm0
      have HP := Lib.hid (sample_pos (xs := xs) (seed := seed) (many := many) (by rw [HO.out, HM.out]; omega))
      have HNP : Hid (0 < nb) := by rw [← HN.out]; exact HP.out.2.2.1
      clear hm0
      obtain ⟨al, HAL⟩ : ∃ v, Hid (sampleL xs seed (nb : Int) = v) := ⟨_, rfl⟩
      have HW : Hid (al.length = nb ∧ ∀ i, i < nb → (lth xs i).n ∈ al) := by
        have h := law_sample_whole HP.out.1 HP.out.2.1
        rw [HN.out, HAL.out] at h
        exact h
      have HLA : Hid (al.length = nb) := HW.out.1
      have CI := Lib.hid (dirSample_any X c xs seed (nb : Int) w4 (own_lis PF4.out) (by omega) HN.out)
      rw [HAL.out] at CI
      go_wp2_with fail
      refine CI.out.mono ?_
      rintro e w5 ⟨A6, c6, rfl, ho, hb⟩
      clear CI
      rw [HLA.out]
      have PF5 := Lib.hid (PF4.out.below hb)
      have PO5 := Lib.hid (PO4.out.below hb)
      have PW5 := Lib.hid (PW4.out.below hb)
      have HB5 : Hid (Below w.heap.size w w5) := HB4.out.trans (hb.mono HB4.out.size)
      clear hb
      have PX5 := Lib.hid ho
      clear ho
      go_wp2
      go_loopw [9] (fun i w' => ∃ k : Nat, k ≤ nb ∧ i = .int .i64 (k : Int) ∧ Hid (Below w5.heap.size w5 w')) (fun i _ => nb - (intOf i).toNat)
      case atStart => exact ⟨0, Nat.zero_le _, rfl, Below.refl _ _⟩
      case round =>
        obtain ⟨k, hk, rfl, HQ⟩ := hrel
        have HPF := Lib.hid (PF5.out.below HQ.out)
        have HPX := Lib.hid (PX5.out.below HQ.out)
        have HBR : Hid (Below w.heap.size w wr) := HB5.out.trans (HQ.out.mono HB5.out.size)
        by_cases hlt : k < nb
        · have hkz : k < xs.length := by rw [HN.out]; exact hlt
          obtain ⟨b, o, hX⟩ := (own_lis HPF.out).row.some_ (by omega)
          subst hX
          have c0 := (lis_cells (own_lis HPF.out).row k hkz).1
          have hmem := HW.out.2 k hlt
          obtain ⟨vn, HVN⟩ : ∃ v, Hid ((lth xs k).n = v) := ⟨_, rfl⟩
          rw [HVN.out] at c0 hmem
          have hki : (k : Int) < (nb : Int) := by omega
          have hk0 : (0 : Int) ≤ (k : Int) := by omega
          have CI := Lib.hid (hasLB_any A6 c6 al vn wr HPX.out.ints (by rw [HLA.out]; unfold maxLen; omega) HLA.out)
          rw [decide_eq_true hmem] at CI
          clear hkz hmem
          go_wp2_with fail
          refine CI.out.mono ?_
          rintro e wz ⟨rfl, hb⟩
          have HQ2 : Hid (Below w5.heap.size w5 wz) := HQ.out.trans (hb.mono HQ.out.size)
          clear hb
          go_wp2
          go_roundw
          case rel => exact ⟨k + 1, by omega, by go_num, HQ2⟩
          case measure => simp [intOf]; omega
        · have hkn : k = nb := by omega
          subst hkn
          have hee : ((k : Int) == (k : Int)) = true := by simp
          go_wp2
          go_ret
          exact ⟨rfl, HBR.out⟩
  · have h9 : 1048576 < len := by omega
    clear hlen
    go_enter Try.func13, Try.ntmps13
    go_wp2
    go_ret
    exact ⟨rfl, Below.refl _ _⟩

end Go.Proofs.Yteceamnmcningaa
