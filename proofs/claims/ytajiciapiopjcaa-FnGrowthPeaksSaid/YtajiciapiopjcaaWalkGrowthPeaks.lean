/- The walk of FnGrowthPeaks: it returns true and changes nothing that was there. Condition: the codes' bytes lie in memory. -/
import Derived.Test.YtajiciapiopjcaaGrowth
import Derived.Test.YtajiciapiopjcaaDrawGrowth
import Derived.Test.YtajiciapiopjcaaSame
import Derived.Test.YtajiciapiopjcaaIn
namespace Go.Proofs.Ytajiciapiopjcaa
open Go.RowKit
set_option linter.unusedVariables false

theorem dec_self (l : List Int) : decide (l = l) = true := by simp

set_option maxHeartbeats 4000000 in
set_option maxRecDepth 100000 in
theorem walkGrowthPeaks (A : Option Addr) (len cap : Nat) (w : World) (hI : In w A len cap) :
    Calls Try.prog 4 #[.slice A len cap] w fun e w' => e = .returned (.bool true) ∧ Below w.heap.size w w' := by
  have hm := hI.len_le
  unfold maxLen at hm
  have HI := Lib.hid hI
  clear hI
  by_cases hlen : len ≤ 1048576
  · go_enter Try.func4, Try.ntmps4
    go_wp2_with fail
    refine (drawgrowth_any A len cap _ HI.out).mono ?_
    rintro e w1 ⟨b, c, zs, m, rfl, hz28, hnear, hm0, hm100, hown1, hb1⟩
    have HO1 := Lib.hid hown1
    have HB1 := Lib.hid hb1
    have HC1 := Lib.hid hown1.le.1
    have HC2 := Lib.hid hown1.le.2
    clear hown1 hb1 hnear
    obtain ⟨R, HR⟩ : ∃ R, Hid (growthOr zs m = R) := ⟨_, rfl⟩
    go_wp2_with fail
    refine (growth_any zs m b 0 c _ HO1.out.ints HC1.out HC2.out).mono ?_
    rintro e w2 ⟨A2, c2, rfl, hown2, hb2⟩
    rw [HR.out] at hown2 ⊢
    have HO2 := Lib.hid hown2
    have HB2 := Lib.hid hb2
    clear hown2 hb2
    go_wp2_with fail
    refine (sgrowth_any zs m b 0 c _ (HO1.out.below HB2.out).ints HC1.out HC2.out).mono ?_
    rintro e w3 ⟨A3, c3, rfl, hown3, hb3⟩
    rw [HR.out] at hown3 ⊢
    have HO3 := Lib.hid hown3
    have HO2' := Lib.hid (HO2.out.below hb3)
    have HZ3 := Lib.hid ((HO1.out.below HB2.out).below hb3)
    have HB : Hid (Below w.heap.size w w3) := (HB1.out.trans (HB2.out.mono HB1.out.size)).trans (hb3.mono (Nat.le_trans HB1.out.size HB2.out.size))
    clear hown3 hb3
    have HL2 := Lib.hid (Nat.le_trans HO2.out.le.1 HO2.out.le.2)
    go_wp2_with fail
    refine (same_any A2 c2 R A3 c3 R _ HO2'.out.ints HO3.out.ints HL2.out HL2.out).mono ?_
    rintro e w' ⟨rfl, q, rfl⟩
    rw [dec_self]
    go_wp2_with fail
    refine (sdigest_any zs b 0 c _ (HZ3.out.drewN q).ints HC1.out HC2.out).mono ?_
    rintro e V ⟨rfl, hbV⟩
    have HA2 := Lib.hid ((HO2'.out.drewN q).below hbV)
    have HA3 := Lib.hid ((HO3.out.drewN q).below hbV)
    have HZ := Lib.hid ((HZ3.out.drewN q).below hbV)
    have HBV : Hid (Below w.heap.size w V) := (below_drewN HB.out q).trans (hbV.mono HB.out.size)
    clear hbV
    rcases digestOr_cases zs with hdg | ⟨h16, hd, hdg, hz0, hz1⟩
    · rw [hdg]
      clear hdg
      go_wp2_with fail
      refine (same_any A2 c2 R A3 c3 R _ HA2.out.ints HA3.out.ints HL2.out HL2.out).mono ?_
      rintro e w' ⟨rfl, q2, rfl⟩
      rw [dec_self]
      go_wp2
      go_ret
      exact ⟨rfl, below_drewN HBV.out _⟩
    · rw [hdg]
      obtain ⟨t, HT⟩ : ∃ t, Hid (digestZ zs = t) := ⟨_, rfl⟩
      rw [HT.out] at hz0 hz1 ⊢
      have HD := Lib.hid hd
      have HLV : Hid (leavesB zs = true) := leavesB_of h16 hd
      have hneg : ¬ t < 0 := by omega
      clear hdg hd
      by_cases hmneg : m < 0
      · clear hz28
        go_wp2_with fail
        refine (same_any A2 c2 R A3 c3 R _ HA2.out.ints HA3.out.ints HL2.out HL2.out).mono ?_
        rintro e w' ⟨rfl, q2, rfl⟩
        rw [dec_self]
        go_wp2
        go_ret
        exact ⟨rfl, below_drewN HBV.out _⟩
      · by_cases hmbig : (zs.length : Int) < m
        · clear hz28
          go_wp2_with fail
          refine (same_any A2 c2 R A3 c3 R _ HA2.out.ints HA3.out.ints HL2.out HL2.out).mono ?_
          rintro e w' ⟨rfl, q2, rfl⟩
          rw [dec_self]
          go_wp2
          go_ret
          exact ⟨rfl, below_drewN HBV.out _⟩
        · obtain ⟨k, hk⟩ := Int.eq_ofNat_of_zero_le (show 0 ≤ m by omega)
          subst hk
          have hkn : k ≤ zs.length := by omega
          have HRZ : Hid (growthZ zs k = R) := by show _ = _; rw [← HR.out, growthOr_yes HLV.out hkn]
          have hki : (k : Int) ≤ (c : Int) := by have := HC1.out; omega
          have hc63 := HC2.out
          unfold maxLen at hc63
          have hlt : (zs.take k).length = k := by rw [List.length_take]; omega
          obtain ⟨P, HP⟩ : ∃ P, Hid (coverZ (zs.take k) 0 = P) := ⟨_, rfl⟩
          have CP : Hid (Calls Try.prog 19 #[.slice (some ⟨b, 0, none⟩) k c] V (RetInts V P)) := by
            have := peaks_any (zs.take k) b 0 c V (HZ.out.ints.first k) (by have := HC1.out; omega) HC2.out
            rw [hlt, peaksOr_of (by omega) (HD.out.take k), HP.out] at this
            exact this
          have HF1 : Hid (R.take P.length = P) := by
            show _ = _
            have := growth_first zs k hkn
            rw [← HRZ.out, ← HP.out]
            have e : (coverZ (zs.take k) 0).length = (sizesOf 0 k).length := by rw [coverG_length, hlt]
            rw [e]
            exact this
          have hPR : P.length ≤ R.length := by
            have h1 := congrArg List.length HF1.out
            rw [List.length_take] at h1
            omega
          obtain ⟨Q, HQ⟩ : ∃ Q, Hid (coverZ zs 0 = Q) := ⟨_, rfl⟩
          have HG1 : Hid (growthOr zs (zs.length : Int) = Q) := by
            show _ = _
            rw [growthOr_yes HLV.out (Nat.le_refl _), ← HQ.out]
            unfold growthZ growthG
            rw [List.take_length]
            have : coverG pairZ 0 zs zs.length = [] := by
              unfold coverG places
              rw [placesGo_stop (by omega)]; rfl
            rw [this, List.append_nil]; rfl
          have HG0 : Hid (growthOr zs ((0 : Nat) : Int) = Q) := by
            show _ = _
            rw [growthOr_yes HLV.out (by omega), ← HQ.out]
            unfold growthZ growthG
            rfl
          have HPZ : Hid (peaksOr zs = Q) := by show _ = _; rw [peaksOr_of h16 HD.out, HQ.out]
          have HPL : Hid (P.length ≤ maxLen) := by
            show P.length ≤ maxLen
            rw [← HP.out]
            have := cover_short (zs.take k) 0
            unfold maxLen; omega
          have HQL : Hid (Q.length ≤ maxLen) := by
            show Q.length ≤ maxLen
            rw [← HQ.out]
            have := cover_short zs 0
            unfold maxLen; omega
          clear hlt
          go_wp2_with fail
          refine CP.out.mono ?_
          rintro e V1 ⟨A4, c4, rfl, hown4, hb4⟩
          have HO4 := Lib.hid hown4
          have HA2' := Lib.hid (HA2.out.below hb4)
          have HB4 : Hid (Below w.heap.size w V1) := HBV.out.trans (hb4.mono HBV.out.size)
          have HZ4 := Lib.hid (HZ.out.below hb4)
          clear hown4 hb4
          have hP0 : (0 : Int) ≤ (P.length : Int) := by omega
          have hP1 : (P.length : Int) ≤ (R.length : Int) := by omega
          have hPc : (P.length : Int) ≤ (c2 : Int) := by have := HA2.out.le.1; omega
          have hTL : (R.take P.length).length = P.length := by rw [HF1.out]
          have CS : Hid (Calls Try.prog 15 #[.slice A2 P.length c2, .slice A4 P.length c4] V1 fun e w' => e = .returned (.bool true) ∧ ∃ q, w' = V1.drewN q) := by
            have h1 := HA2'.out.ints.first P.length
            rw [HF1.out] at h1
            have := same_any A2 c2 P A4 c4 P V1 h1 HO4.out.ints HPL.out HPL.out
            rw [dec_self] at this
            exact this
          clear hTL
          have hS2 : (if c2 = P.length then A2 else A2) = A2 := by simp
          clear hS2
          have CG : Hid (∀ U : World, Below V1.heap.size V1 U → Calls Try.prog 13 #[.slice (some ⟨b, 0, none⟩) zs.length c, .int .i64 (zs.length : Int)] U (RetInts U Q)) := fun U hU => by
            have := growth_any zs (zs.length : Int) b 0 c U (HZ4.out.below hU).ints HC1.out HC2.out
            rw [HG1.out] at this
            exact this
          have CZ : Hid (∀ U : World, Below V1.heap.size V1 U → Calls Try.prog 13 #[.slice (some ⟨b, 0, none⟩) zs.length c, .int .i64 0] U (RetInts U Q)) := fun U hU => by
            have := growth_any zs ((0 : Nat) : Int) b 0 c U (HZ4.out.below hU).ints HC1.out HC2.out
            rw [HG0.out] at this
            exact this
          have CK : Hid (∀ U : World, Below V1.heap.size V1 U → Calls Try.prog 19 #[.slice (some ⟨b, 0, none⟩) zs.length c] U (RetInts U Q)) := fun U hU => by
            have := peaks_any zs b 0 c U (HZ4.out.below hU).ints HC1.out HC2.out
            rw [HPZ.out] at this
            exact this
          have hge : ((R.length : Int) ≥ (P.length : Int)) := by omega
          go_wp2_with fail
          refine CS.out.mono ?_
          rintro e w' ⟨rfl, q3, rfl⟩
          have HU0 : Hid (Below V1.heap.size V1 (V1.drewN q3)) := below_drewN (Below.refl _ _) q3
          go_wp2_with fail
          refine (CG.out _ HU0.out).mono ?_
          rintro e V2 ⟨A5, c5, rfl, hown5, hb5⟩
          have HO5 := Lib.hid hown5
          have HU1 : Hid (Below V1.heap.size V1 V2) := HU0.out.trans hb5
          clear hown5 hb5
          go_wp2_with fail
          refine (CK.out _ HU1.out).mono ?_
          rintro e V3 ⟨A6, c6, rfl, hown6, hb6⟩
          have HO6 := Lib.hid hown6
          have HO56 := Lib.hid (HO5.out.below hb6)
          have HU2 : Hid (Below V1.heap.size V1 V3) := HU1.out.trans (hb6.mono HU1.out.size)
          clear hown6 hb6
          go_wp2_with fail
          refine (same_any A5 c5 Q A6 c6 Q _ HO56.out.ints HO6.out.ints HQL.out HQL.out).mono ?_
          rintro e w' ⟨rfl, q4, rfl⟩
          rw [dec_self]
          have HU3 : Hid (Below V1.heap.size V1 (V3.drewN q4)) := below_drewN HU2.out q4
          go_wp2_with fail
          refine (CZ.out _ HU3.out).mono ?_
          rintro e V4 ⟨A7, c7, rfl, hown7, hb7⟩
          have HO7 := Lib.hid hown7
          have HU4 : Hid (Below V1.heap.size V1 V4) := HU3.out.trans (hb7.mono HU3.out.size)
          clear hown7 hb7
          go_wp2_with fail
          refine (CK.out _ HU4.out).mono ?_
          rintro e V5 ⟨A8, c8, rfl, hown8, hb8⟩
          have HO8 := Lib.hid hown8
          have HO78 := Lib.hid (HO7.out.below hb8)
          have HU5 : Hid (Below V1.heap.size V1 V5) := HU4.out.trans (hb8.mono HU4.out.size)
          clear hown8 hb8
          go_wp2_with fail
          refine (same_any A7 c7 Q A8 c8 Q _ HO78.out.ints HO8.out.ints HQL.out HQL.out).mono ?_
          rintro e w' ⟨rfl, q5, rfl⟩
          rw [dec_self]
          go_wp2
          go_ret
          exact ⟨rfl, below_drewN (HB4.out.trans (HU5.out.mono HB4.out.size)) _⟩
  · have h9 : 1048576 < len := by omega
    clear hlen
    go_enter Try.func4, Try.ntmps4
    go_wp2
    go_ret
    exact ⟨rfl, Below.refl _ _⟩

end Go.Proofs.Ytajiciapiopjcaa
