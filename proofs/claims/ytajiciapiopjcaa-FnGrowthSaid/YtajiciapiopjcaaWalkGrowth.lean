/- The walk of FnGrowth: it returns true and changes nothing that was there. Condition: the codes' bytes lie in memory. -/
import Derived.Test.YtajiciapiopjcaaGrowCheck
import Derived.Test.YtajiciapiopjcaaGrowth
import Derived.Test.YtajiciapiopjcaaDrawGrowth
import Derived.Test.YtajiciapiopjcaaSame
import Derived.Test.YtajiciapiopjcaaIn
namespace Go.Proofs.Ytajiciapiopjcaa
open Go.RowKit
set_option linter.unusedVariables false

theorem dec_self (l : List Int) : decide (l = l) = true := by simp

set_option maxHeartbeats 4000000 in
set_option maxRecDepth 100000 in
theorem walkGrowth (A : Option Addr) (len cap : Nat) (w : World) (hI : In w A len cap) :
    Calls Try.prog 3 #[.slice A len cap] w fun e w' => e = .returned (.bool true) ∧ Below w.heap.size w w' := by
  have hm := hI.len_le
  unfold maxLen at hm
  have HI := Lib.hid hI
  clear hI
  by_cases hlen : len ≤ 1048576
  · go_enter Try.func3, Try.ntmps3
    go_wp2_with fail
    refine (drawgrowth_any A len cap _ HI.out).mono ?_
    rintro e w1 ⟨b, c, zs, m, rfl, hz28, hnear, hm0, hm100, hown1, hb1⟩
    have HO1 := Lib.hid hown1
    have HB1 := Lib.hid hb1
    have HC1 := Lib.hid hown1.le.1
    have HC2 := Lib.hid hown1.le.2
    clear hown1 hb1 hnear
    obtain ⟨R, HR⟩ : ∃ R, Hid (growthOr zs m = R) := ⟨_, rfl⟩
    go_wp2_with fail
    refine (growth_any zs m b 0 c _ HO1.out.ints HC1.out HC2.out).mono ?_
    rintro e w2 ⟨A2, c2, rfl, hown2, hb2⟩
    rw [HR.out] at hown2 ⊢
    have HO2 := Lib.hid hown2
    have HB2 := Lib.hid hb2
    clear hown2 hb2
    go_wp2_with fail
    refine (sgrowth_any zs m b 0 c _ (HO1.out.below HB2.out).ints HC1.out HC2.out).mono ?_
    rintro e w3 ⟨A3, c3, rfl, hown3, hb3⟩
    rw [HR.out] at hown3 ⊢
    have HO3 := Lib.hid hown3
    have HO2' := Lib.hid (HO2.out.below hb3)
    have HZ3 := Lib.hid ((HO1.out.below HB2.out).below hb3)
    have HB : Hid (Below w.heap.size w w3) := (HB1.out.trans (HB2.out.mono HB1.out.size)).trans (hb3.mono (Nat.le_trans HB1.out.size HB2.out.size))
    clear hown3 hb3
    have HL2 := Lib.hid (Nat.le_trans HO2.out.le.1 HO2.out.le.2)
    go_wp2_with fail
    refine (same_any A2 c2 R A3 c3 R _ HO2'.out.ints HO3.out.ints HL2.out HL2.out).mono ?_
    rintro e w' ⟨rfl, q, rfl⟩
    rw [dec_self]
    go_wp2_with fail
    refine (digest_any zs b 0 c _ (HZ3.out.drewN q).ints HC1.out HC2.out).mono ?_
    rintro e V ⟨rfl, hbV⟩
    have HA2 := Lib.hid ((HO2'.out.drewN q).below hbV)
    have HZ := Lib.hid ((HZ3.out.drewN q).below hbV)
    have HBV : Hid (Below w.heap.size w V) := (below_drewN HB.out q).trans (hbV.mono HB.out.size)
    clear hbV
    by_cases hval : leavesB zs = true ∧ 0 ≤ m ∧ m ≤ zs.length
    · obtain ⟨hlv, hk0, hkn⟩ := hval
      obtain ⟨k, rfl⟩ := Int.eq_ofNat_of_zero_le hk0
      obtain ⟨h16, hd⟩ := leavesB_yes hlv
      have hkn' : k ≤ zs.length := by omega
      have hlt : (zs.take k).length = k := by rw [List.length_take]; omega
      have hacc := growth_accept zs k h16 hkn' hd
      rw [← growthOr_yes hlv hkn', HR.out, ← digestOr_of h16 hd, ← digestOr_of (by omega) (hd.take k)] at hacc
      have hbd : 0 ≤ digestOr zs := by
        rcases digestOr_cases zs with h | ⟨_, _, h, h0, _⟩
        · rw [digestOr_of h16 hd] at h; have := (foldZ_bd zs.length (coverZ zs 0) (by omega) (by omega)).1; unfold digestZ at h; omega
        · omega
      obtain ⟨t, HT⟩ : ∃ t, Hid (digestOr zs = t) := ⟨_, rfl⟩
      obtain ⟨u, HU⟩ : ∃ u, Hid (digestOr (zs.take k) = u) := ⟨_, rfl⟩
      rw [HT.out] at hbd hacc ⊢
      rw [HU.out] at hacc
      have HACC := Lib.hid hacc
      have CD : Hid (Calls Try.prog 16 #[.slice (some ⟨b, 0, none⟩) k c] V fun e w' => e = .returned (.int .i64 u) ∧ Below V.heap.size V w') := by
        have := digest_any (zs.take k) b 0 c V (HZ.out.ints.first k) (by have := HC1.out; omega) HC2.out
        rw [hlt, HU.out] at this
        exact this
      have hneg : ¬ t < 0 := by omega
      have hmb : ¬ ((zs.length : Int) < (k : Int)) := by omega
      have hki : (k : Int) ≤ (c : Int) := by have := HC1.out; omega
      have hki2 : (k : Int) ≤ (zs.length : Int) := by omega
      have hc63 := HC2.out
      unfold maxLen at hc63
      clear hacc hlt hd hlv
      go_wp2_with fail
      refine CD.out.mono ?_
      rintro e V1 ⟨rfl, hb1⟩
      have HV1 := Lib.hid hb1
      clear hb1
      go_wp2_with fail
      refine (digest_any zs b 0 c _ (HZ.out.below HV1.out).ints HC1.out HC2.out).mono ?_
      rintro e V2 ⟨rfl, hb2⟩
      rw [HT.out]
      have HV2 : Hid (Below V.heap.size V V2) := HV1.out.trans (hb2.mono HV1.out.size)
      clear hb2
      go_wp2_with fail
      refine (gcheck_any R _ _ _ _ A2 c2 _ (HA2.out.below HV2.out).ints HO2.out.le.1 HO2.out.le.2).mono ?_
      rintro e V3 ⟨rfl, hb3⟩
      rw [HACC.out]
      have HV3 : Hid (Below V.heap.size V V3) := HV2.out.trans (hb3.mono HV2.out.size)
      clear hb3
      go_wp2
      go_ret
      exact ⟨rfl, HBV.out.trans (HV3.out.mono HBV.out.size)⟩
    · have HRN : Hid (R.length = 0) := by show _ = _; rw [← HR.out, growthOr_no hval]; rfl
      have hfin : ((R.length : Int) == 0) = true := by simp [HRN.out]
      rcases digestOr_cases zs with hdg | ⟨h16, hd, hdg, hz0, hz1⟩
      · rw [hdg]
        clear hdg hval
        go_wp2
        go_ret
        exact ⟨rfl, HBV.out⟩
      · rw [hdg]
        obtain ⟨t, HT⟩ : ∃ t, Hid (digestZ zs = t) := ⟨_, rfl⟩
        rw [HT.out] at hz0 hz1 ⊢
        have hneg : ¬ t < 0 := by omega
        have hor : m < 0 ∨ (zs.length : Int) < m := by
          have h1 : ¬ (0 ≤ m ∧ m ≤ zs.length) := fun h => hval ⟨leavesB_of h16 hd, h.1, h.2⟩
          omega
        clear hdg hval hd
        rcases hor with h1 | h1
        · go_wp2
          go_ret
          exact ⟨rfl, HBV.out⟩
        · by_cases h2 : m < 0
          · go_wp2
            go_ret
            exact ⟨rfl, HBV.out⟩
          · go_wp2
            go_ret
            exact ⟨rfl, HBV.out⟩
  · have h9 : 1048576 < len := by omega
    clear hlen
    go_enter Try.func3, Try.ntmps3
    go_wp2
    go_ret
    exact ⟨rfl, Below.refl _ _⟩

end Go.Proofs.Ytajiciapiopjcaa
