/- The walk of FnGrowthSteps: it returns true and changes nothing that was there. Condition: the codes' bytes lie in memory. -/
import Derived.Test.YtajiciapiopjcaaGrowCheck
import Derived.Test.YtajiciapiopjcaaGrowth
import Derived.Test.YtajiciapiopjcaaDrawGrowth
import Derived.Test.YtajiciapiopjcaaSame
import Derived.Test.YtajiciapiopjcaaIn
namespace Go.Proofs.Ytajiciapiopjcaa
open Go.RowKit
set_option linter.unusedVariables false

theorem dec_self (l : List Int) : decide (l = l) = true := by simp

set_option maxHeartbeats 4000000 in
set_option maxRecDepth 100000 in
theorem walkGrowthSteps (A : Option Addr) (len cap : Nat) (A1 : Option Addr) (len1 cap1 : Nat) (w : World) (hI : In w A len cap) (hI1 : In w A1 len1 cap1) :
    Calls Try.prog 9 #[.slice A len cap, .slice A1 len1 cap1] w fun e w' => e = .returned (.bool true) ∧ Below w.heap.size w w' := by
  have hm := hI.len_le
  have hm1 := hI1.len_le
  have HM1 := Lib.hid hm1
  unfold maxLen at hm hm1
  have HI := Lib.hid hI
  clear hI hI1
  by_cases hlen : len ≤ 1048576
  · by_cases hlen1 : len1 ≤ 1048576
    · go_enter Try.func9, Try.ntmps9
      go_wp2_with fail
      refine (drawgrowth_any A len cap _ HI.out).mono ?_
      rintro e w1 ⟨b, c, zs, m, rfl, hz28, hnear, hm0, hm100, hown1, hb1⟩
      have HO1 := Lib.hid hown1
      have HB1 := Lib.hid hb1
      have HC1 := Lib.hid hown1.le.1
      have HC2 := Lib.hid hown1.le.2
      clear hown1 hb1 hnear
      obtain ⟨R, HR⟩ : ∃ R, Hid (growthOr zs m = R) := ⟨_, rfl⟩
      go_wp2_with fail
      refine (growth_any zs m b 0 c _ HO1.out.ints HC1.out HC2.out).mono ?_
      rintro e w2 ⟨A2, c2, rfl, hown2, hb2⟩
      rw [HR.out] at hown2 ⊢
      have HO2 := Lib.hid hown2
      have HB2 := Lib.hid hb2
      clear hown2 hb2
      go_wp2_with fail
      refine (sgrowth_any zs m b 0 c _ (HO1.out.below HB2.out).ints HC1.out HC2.out).mono ?_
      rintro e w3 ⟨A3, c3, rfl, hown3, hb3⟩
      rw [HR.out] at hown3 ⊢
      have HO3 := Lib.hid hown3
      have HO2' := Lib.hid (HO2.out.below hb3)
      have HZ3 := Lib.hid ((HO1.out.below HB2.out).below hb3)
      have HB : Hid (Below w.heap.size w w3) := (HB1.out.trans (HB2.out.mono HB1.out.size)).trans (hb3.mono (Nat.le_trans HB1.out.size HB2.out.size))
      clear hown3 hb3
      have HL2 := Lib.hid (Nat.le_trans HO2.out.le.1 HO2.out.le.2)
      go_wp2_with fail
      refine (same_any A2 c2 R A3 c3 R _ HO2'.out.ints HO3.out.ints HL2.out HL2.out).mono ?_
      rintro e w' ⟨rfl, q, rfl⟩
      rw [dec_self]
      go_wp2_with fail
      refine (sdigest_any zs b 0 c _ (HZ3.out.drewN q).ints HC1.out HC2.out).mono ?_
      rintro e V ⟨rfl, hbV⟩
      have HA2 := Lib.hid ((HO2'.out.drewN q).below hbV)
      have HA3 := Lib.hid ((HO3.out.drewN q).below hbV)
      have HZ := Lib.hid ((HZ3.out.drewN q).below hbV)
      have HBV : Hid (Below w.heap.size w V) := (below_drewN HB.out q).trans (hbV.mono HB.out.size)
      clear hbV
      rcases digestOr_cases zs with hdg | ⟨h16, hd, hdg, hz0, hz1⟩
      · rw [hdg]
        clear hdg
        go_wp2_with fail
        refine (same_any A2 c2 R A3 c3 R _ HA2.out.ints HA3.out.ints HL2.out HL2.out).mono ?_
        rintro e w' ⟨rfl, q2, rfl⟩
        rw [dec_self]
        go_wp2
        go_ret
        exact ⟨rfl, below_drewN HBV.out _⟩
      · rw [hdg]
        obtain ⟨t, HT⟩ : ∃ t, Hid (digestZ zs = t) := ⟨_, rfl⟩
        rw [HT.out] at hz0 hz1 ⊢
        have HD := Lib.hid hd
        have HLV : Hid (leavesB zs = true) := leavesB_of h16 hd
        have hneg : ¬ t < 0 := by omega
        clear hdg hd
        by_cases hmneg : m < 0
        · clear hz28
          go_wp2_with fail
          refine (same_any A2 c2 R A3 c3 R _ HA2.out.ints HA3.out.ints HL2.out HL2.out).mono ?_
          rintro e w' ⟨rfl, q2, rfl⟩
          rw [dec_self]
          go_wp2
          go_ret
          exact ⟨rfl, below_drewN HBV.out _⟩
        · by_cases hmbig : (zs.length : Int) < m
          · clear hz28
            go_wp2_with fail
            refine (same_any A2 c2 R A3 c3 R _ HA2.out.ints HA3.out.ints HL2.out HL2.out).mono ?_
            rintro e w' ⟨rfl, q2, rfl⟩
            rw [dec_self]
            go_wp2
            go_ret
            exact ⟨rfl, below_drewN HBV.out _⟩
          · obtain ⟨k, hk⟩ := Int.eq_ofNat_of_zero_le (show 0 ≤ m by omega)
            subst hk
            have hkn : k ≤ zs.length := by omega
            have HRZ : Hid (growthZ zs k = R) := by show _ = _; rw [← HR.out, growthOr_yes HLV.out hkn]
            have hki : (k : Int) ≤ (c : Int) := by have := HC1.out; omega
            have hc63 := HC2.out
            unfold maxLen at hc63
            obtain ⟨j, HJ⟩ : ∃ j, Hid (k + len1 % (zs.length - k + 1) = j) := ⟨_, rfl⟩
            have hj1 : k ≤ j := by rw [← HJ.out]; omega
            have hj2 : j ≤ zs.length := by rw [← HJ.out]; have := Nat.mod_lt len1 (show 0 < zs.length - k + 1 by omega); omega
            have hjm : (len1 : Int) % ((zs.length : Int) - (k : Int) + 1) = (j : Int) - (k : Int) := by
              have h1 : ((zs.length : Int) - (k : Int) + 1) = ((zs.length - k + 1 : Nat) : Int) := by omega
              rw [h1, ← Int.natCast_emod]
              have := HJ.out
              omega
            have HJM := Lib.hid hjm
            have hltk : (zs.take k).length = k := by rw [List.length_take]; omega
            have hltj : (zs.take j).length = j := by rw [List.length_take]; omega
            have hdk := HD.out.take k
            have hdj := HD.out.take j
            have acc1 := growth_accept (zs.take j) k (by omega) (by omega) hdj
            have acc2 := growth_accept zs j h16 hj2 HD.out
            rw [hltj, List.take_take, Nat.min_eq_left hj1] at acc1
            obtain ⟨a, HA⟩ : ∃ a, Hid (digestZ (zs.take k) = a) := ⟨_, rfl⟩
            obtain ⟨d, HDJ⟩ : ∃ d, Hid (digestZ (zs.take j) = d) := ⟨_, rfl⟩
            obtain ⟨R1, HR1⟩ : ∃ l, Hid (growthZ (zs.take j) k = l) := ⟨_, rfl⟩
            obtain ⟨R2, HR2⟩ : ∃ l, Hid (growthZ zs j = l) := ⟨_, rfl⟩
            rw [HA.out, HDJ.out, HR1.out] at acc1
            rw [HDJ.out, HR2.out, HT.out] at acc2
            have ACC1 := Lib.hid acc1
            have ACC2 := Lib.hid acc2
            have hlvj : leavesB (zs.take j) = true := leavesB_of (by omega) hdj
            have CK : Hid (∀ U : World, Below V.heap.size V U → Calls Try.prog 16 #[.slice (some ⟨b, 0, none⟩) k c] U fun e w' => e = .returned (.int .i64 a) ∧ Below U.heap.size U w') := fun U hU => by
              have := digest_any (zs.take k) b 0 c U ((HZ.out.below hU).ints.first k) (by have := HC1.out; omega) HC2.out
              rw [hltk, digestOr_of (by omega) hdk, HA.out] at this
              exact this
            have CJ : Hid (∀ U : World, Below V.heap.size V U → Calls Try.prog 16 #[.slice (some ⟨b, 0, none⟩) j c] U fun e w' => e = .returned (.int .i64 d) ∧ Below U.heap.size U w') := fun U hU => by
              have := digest_any (zs.take j) b 0 c U ((HZ.out.below hU).ints.first j) (by have := HC1.out; omega) HC2.out
              rw [hltj, digestOr_of (by omega) hdj, HDJ.out] at this
              exact this
            have CD : Hid (∀ U : World, Below V.heap.size V U → Calls Try.prog 16 #[.slice (some ⟨b, 0, none⟩) zs.length c] U fun e w' => e = .returned (.int .i64 t) ∧ Below U.heap.size U w') := fun U hU => by
              have := digest_any zs b 0 c U (HZ.out.below hU).ints HC1.out HC2.out
              rw [digestOr_of h16 HD.out, HT.out] at this
              exact this
            have CG1 : Hid (∀ U : World, Below V.heap.size V U → Calls Try.prog 13 #[.slice (some ⟨b, 0, none⟩) j c, .int .i64 (k : Int)] U (RetInts U R1)) := fun U hU => by
              have := growth_any (zs.take j) (k : Int) b 0 c U ((HZ.out.below hU).ints.first j) (by have := HC1.out; omega) HC2.out
              rw [hltj, growthOr_yes hlvj (by omega), HR1.out] at this
              exact this
            have CG2 : Hid (∀ U : World, Below V.heap.size V U → Calls Try.prog 13 #[.slice (some ⟨b, 0, none⟩) zs.length c, .int .i64 (j : Int)] U (RetInts U R2)) := fun U hU => by
              have := growth_any zs (j : Int) b 0 c U (HZ.out.below hU).ints HC1.out HC2.out
              rw [growthOr_yes HLV.out hj2, HR2.out] at this
              exact this
            have hji : (j : Int) ≤ (c : Int) := by have := HC1.out; omega
            have hji2 : (j : Int) ≤ (zs.length : Int) := by omega
            have hki2 : (k : Int) ≤ (zs.length : Int) := by omega
            have hmb : ¬ ((zs.length : Int) < (k : Int)) := by omega
            have hdiv : ¬ ((zs.length : Int) - (k : Int) + 1 = 0) := by omega
            clear hjm hltk hltj hdk hdj acc1 acc2 hlvj
            go_wp2_with fail
            rw [show wrap64 ((k : Int) + (len1 : Int) % ((zs.length : Int) - (k : Int) + 1)) = (j : Int) from by rw [HJM.out]; unfold wrap64; omega]
            refine (CK.out _ (Below.refl _ _)).mono ?_
            rintro e V1 ⟨rfl, hb1⟩
            have HV1 := Lib.hid hb1
            clear hb1
            go_wp2_with fail
            refine (CJ.out _ HV1.out).mono ?_
            rintro e V2 ⟨rfl, hb2⟩
            have HV2 : Hid (Below V.heap.size V V2) := HV1.out.trans (hb2.mono HV1.out.size)
            clear hb2
            go_wp2_with fail
            refine (CG1.out _ HV2.out).mono ?_
            rintro e V3 ⟨A5, c5, rfl, hown5, hb5⟩
            have HO5 := Lib.hid hown5
            have HV3 : Hid (Below V.heap.size V V3) := HV2.out.trans (hb5.mono HV2.out.size)
            clear hown5 hb5
            go_wp2_with fail
            refine (gcheck_any R1 _ _ _ _ A5 c5 _ HO5.out.ints HO5.out.le.1 HO5.out.le.2).mono ?_
            rintro e V4 ⟨rfl, hb6⟩
            rw [ACC1.out]
            have HV4 : Hid (Below V.heap.size V V4) := HV3.out.trans (hb6.mono HV3.out.size)
            clear hb6
            go_wp2_with fail
            refine (CD.out _ HV4.out).mono ?_
            rintro e V5 ⟨rfl, hb7⟩
            have HV5 : Hid (Below V.heap.size V V5) := HV4.out.trans (hb7.mono HV4.out.size)
            clear hb7
            go_wp2_with fail
            refine (CG2.out _ HV5.out).mono ?_
            rintro e V6 ⟨A6, c6, rfl, hown6, hb8⟩
            have HO6 := Lib.hid hown6
            have HV6 : Hid (Below V.heap.size V V6) := HV5.out.trans (hb8.mono HV5.out.size)
            clear hown6 hb8
            go_wp2_with fail
            refine (gcheck_any R2 _ _ _ _ A6 c6 _ HO6.out.ints HO6.out.le.1 HO6.out.le.2).mono ?_
            rintro e V7 ⟨rfl, hb9⟩
            rw [ACC2.out]
            have HV7 : Hid (Below V.heap.size V V7) := HV6.out.trans (hb9.mono HV6.out.size)
            clear hb9
            go_wp2
            go_ret
            exact ⟨rfl, HBV.out.trans (HV7.out.mono HBV.out.size)⟩
    · have h9 : 1048576 < len1 := by omega
      clear hlen1
      go_enter Try.func9, Try.ntmps9
      go_wp2
      go_ret
      exact ⟨rfl, Below.refl _ _⟩
  · have h9 : 1048576 < len := by omega
    clear hlen
    go_enter Try.func9, Try.ntmps9
    go_wp2
    go_ret
    exact ⟨rfl, Below.refl _ _⟩

end Go.Proofs.Ytajiciapiopjcaa
