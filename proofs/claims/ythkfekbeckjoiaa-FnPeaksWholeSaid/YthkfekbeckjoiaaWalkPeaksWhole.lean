/- The walk of FnPeaksWhole: it returns true and changes nothing that was there. Condition: the codes' bytes lie in memory. -/
import Derived.Test.YthkfekbeckjoiaaPeaks
import Derived.Test.YthkfekbeckjoiaaPeakLaws
import Derived.Test.YthkfekbeckjoiaaDrawPeaks
import Derived.Test.YthkfekbeckjoiaaSame
import Derived.Test.YthkfekbeckjoiaaIn
namespace Go.Proofs.Ythkfekbeckjoiaa
open Go.RowKit
set_option linter.unusedVariables false

set_option maxHeartbeats 4000000 in
set_option maxRecDepth 100000 in
theorem walkPeaksWhole (A : Option Addr) (len cap : Nat) (w : World) (hI : In w A len cap) :
    Calls Try.prog 8 #[.slice A len cap] w fun e w' => e = .returned (.bool true) ∧ Below w.heap.size w w' := by
  have hm := hI.len_le
  unfold maxLen at hm
  have HI := Lib.hid hI
  clear hI
  by_cases hlen : len ≤ 1048576
  · go_enter Try.func8, Try.ntmps8
    go_wp2_with fail
    refine (drawpeaks_any A len cap _ HI.out).mono ?_
    rintro e w1 ⟨b, c, zs, rfl, hz28, hnear, hown1, hb1⟩
    have HO1 := Lib.hid hown1
    have HB1 := Lib.hid hb1
    have HNR := Lib.hid hnear
    clear hown1 hb1 hnear
    go_wp2_with fail
    refine (peaks_any zs b 0 c _ HO1.out.ints HO1.out.le.1 HO1.out.le.2).mono ?_
    rintro e w2 ⟨A2, c2, rfl, hown2, hb2⟩
    have HO2 := Lib.hid hown2
    have HB2 := Lib.hid hb2
    clear hown2 hb2
    go_wp2_with fail
    refine (speaks_any zs b 0 c _ (HO1.out.below HB2.out).ints HO1.out.le.1 HO1.out.le.2).mono ?_
    rintro e w3 ⟨A3, c3, rfl, hown3, hb3⟩
    have HO3 := Lib.hid hown3
    have HO2' := Lib.hid (HO2.out.below hb3)
    have HZ3 := Lib.hid ((HO1.out.below HB2.out).below hb3)
    have HB : Hid (Below w.heap.size w w3) := (HB1.out.trans (HB2.out.mono HB1.out.size)).trans (hb3.mono (Nat.le_trans HB1.out.size HB2.out.size))
    clear hown3 hb3
    have HL2 := Lib.hid (Nat.le_trans HO2.out.le.1 HO2.out.le.2)
    go_wp2_with fail
    refine (same_any A2 c2 _ A3 c3 _ _ HO2'.out.ints HO3.out.ints HL2.out HL2.out).mono ?_
    rintro e w' ⟨rfl, q, rfl⟩
    have hdec : decide (peaksOr zs = peaksOr zs) = true := by simp
    rw [hdec]
    by_cases h0 : (peaksOr zs).length = 0
    · have hb0 : (((peaksOr zs).length : Int) == 0) = true := by simp [h0]
      have HH := Lib.hid h0
      clear h0
      go_wp2_with fail
      refine (same_any A2 c2 _ A3 c3 _ _ (HO2'.out.drewN q).ints (HO3.out.drewN q).ints HL2.out HL2.out).mono ?_
      rintro e w' ⟨rfl, q2, rfl⟩
      go_wp2
      go_ret
      exact ⟨ret_bool hdec, below_drewN HB.out _⟩
    · have hb0 : (((peaksOr zs).length : Int) == 0) = false := by rw [beq_eq_false_iff_ne]; omega
      obtain ⟨h16, hd, he⟩ := peaksOr_yes (zs := zs) (by omega)
      have HD := Lib.hid hd
      have HE := Lib.hid he
      clear h0 he hd hz28
      obtain ⟨n, HN⟩ : ∃ n, Hid (zs.length = n) := ⟨_, rfl⟩
      have HC1 := HO1.out.le.1
      have HC2 := HO1.out.le.2
      rw [HN.out] at h16 HC1 ⊢
      have HX := Lib.hid HC2
      unfold maxLen at HC2
      go_wp2
      go_loopw [6] (fun i w' => ∃ m k : Nat, 1 ≤ m ∧ m ≤ 32 ∧ i = .int .i64 m ∧ Hid (m = 2 ^ k) ∧ Hid (Below w3.heap.size w3 w')) (fun i _ => 64 - (intOf i).toNat)
      case atStart => exact ⟨1, 0, by omega, by omega, rfl, rfl, below_drewN (Below.refl _ _) q⟩
      case round =>
        obtain ⟨m, k, hm1, hm32, rfl, HK, HW⟩ := hrel
        by_cases hle : m ≤ n
        · have hmi : (m : Int) ≤ (c : Int) := by omega
          have hmi0 : (0 : Int) ≤ (m : Int) := by omega
          have hk4 : k ≤ 4 := by
            rcases Nat.lt_or_ge 4 k with h | h
            · have h1 := HK.out
              have h2 : (2 : Nat) ^ 5 ≤ 2 ^ k := Nat.pow_le_pow_right (by omega) (by omega)
              omega
            · exact h
          have hlt : (zs.take m).length = m := by rw [List.length_take, HN.out]; omega
          have hone : (peaksOr (zs.take m)).length = 1 := by
            rw [peaksOr_of (by omega) (HD.out.take m), coverG_length, hlt, HK.out]; exact peaks_whole k hk4
          have C : Hid (Calls Try.prog 13 #[.slice (some ⟨b, 0, none⟩) m c] wr (RetInts wr (peaksOr (zs.take m)))) := by
            have := peaks_any (zs.take m) b 0 c wr ((HZ3.out.below HW.out).ints.first m) (by omega) HX.out
            rw [hlt] at this
            exact this
          obtain ⟨ps, HP⟩ : ∃ ps, Hid (peaksOr (zs.take m) = ps) := ⟨_, rfl⟩
          rw [HP.out] at C hone
          have HONE := Lib.hid hone
          clear hlt hone
          go_wp2_with fail
          refine C.out.mono ?_
          rintro e w5 ⟨A5, c5, rfl, hown5, hb5⟩
          have HB5 : Hid (Below w3.heap.size w3 w5) := HW.out.trans (hb5.mono HW.out.size)
          clear hown5 hb5
          rw [HONE.out]
          go_wp2
          go_roundw
          case rel => exact ⟨2 * m, k + 1, by omega, by omega, by go_num, (by show 2 * m = 2 ^ (k + 1); rw [Nat.pow_succ, ← HK.out]; omega), HB5⟩
          case measure => simp [intOf]; omega
        · have hle' : ¬ (m : Int) ≤ (n : Int) := by omega
          go_wp2
          go_ret
          exact ⟨rfl, HB.out.trans (HW.out.mono HB.out.size)⟩
  · have h9 : 1048576 < len := by omega
    clear hlen
    go_enter Try.func8, Try.ntmps8
    go_wp2
    go_ret
    exact ⟨rfl, Below.refl _ _⟩

end Go.Proofs.Ythkfekbeckjoiaa
