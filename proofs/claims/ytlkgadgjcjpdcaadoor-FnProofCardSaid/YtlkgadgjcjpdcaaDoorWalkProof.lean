/- The walk of FnProof: it returns true and changes nothing that was there. Condition: the codes' bytes lie in memory. -/
import Derived.Test.YtlkgadgjcjpdcaaDoorProofLaws
import Derived.Test.YtlkgadgjcjpdcaaDoorDrawProof
import Derived.Test.YtlkgadgjcjpdcaaDoorSame
import Derived.Test.YtlkgadgjcjpdcaaDoorIn
namespace Go.Proofs.YtlkgadgjcjpdcaaDoor
open Go.RowKit
set_option linter.unusedVariables false

theorem dec_self (l : List Int) : decide (l = l) = true := by simp

set_option maxHeartbeats 4000000 in
set_option maxRecDepth 100000 in
theorem walkProof (A : Option Addr) (len cap : Nat) (w : World) (hTab : Tab w) (hI : In w A len cap) :
    Calls Tryd.prog 3 #[.slice A len cap] w fun e w' => e = .returned (.bool true) ∧ Below w.heap.size w w' := by
  have hm := hI.len_le
  unfold maxLen at hm
  have HI := Lib.hid hI
  have HTB := Lib.hid hTab
  clear hI hTab
  by_cases hlen : len ≤ 1048576
  · go_enter Tryd.func3, Tryd.ntmps3
    go_wp2_with fail
    refine (drawproof_any A len cap _ HI.out).mono ?_
    rintro e w1 ⟨b, c, zs, m, rfl, hz28, hnear, hm0, hm100, hown1, hb1⟩
    have HO1 := Lib.hid hown1
    have HB1 := Lib.hid hb1
    have HC1 := Lib.hid hown1.le.1
    have HC2 := Lib.hid hown1.le.2
    clear hown1 hb1 hnear
    obtain ⟨R, HR⟩ : ∃ R, Hid (proofOr zs m = R) := ⟨_, rfl⟩
    go_wp2_with fail
    refine (proof_any zs m b 0 c _ HO1.out.ints HC1.out HC2.out).mono ?_
    rintro e w2 ⟨A2, c2, rfl, hown2, hb2⟩
    rw [HR.out] at hown2 ⊢
    have HO2 := Lib.hid hown2
    have HB2 := Lib.hid hb2
    clear hown2 hb2
    go_wp2_with fail
    refine (sproof_any zs m b 0 c _ (HO1.out.below HB2.out).ints HC1.out HC2.out).mono ?_
    rintro e w3 ⟨A3, c3, rfl, hown3, hb3⟩
    rw [HR.out] at hown3 ⊢
    have HO3 := Lib.hid hown3
    have HO2' := Lib.hid (HO2.out.below hb3)
    have HZ3 := Lib.hid ((HO1.out.below HB2.out).below hb3)
    have HB : Hid (Below w.heap.size w w3) := (HB1.out.trans (HB2.out.mono HB1.out.size)).trans (hb3.mono (Nat.le_trans HB1.out.size HB2.out.size))
    clear hown3 hb3
    have HL2 := Lib.hid (Nat.le_trans HO2.out.le.1 HO2.out.le.2)
    go_wp2_with fail
    refine (same_any A2 c2 R A3 c3 R _ HO2'.out.ints HO3.out.ints HL2.out HL2.out).mono ?_
    rintro e w' ⟨rfl, q, rfl⟩
    rw [dec_self]
    go_wp2_with fail
    refine (digest_any zs b 0 c _ (HZ3.out.drewN q).ints HC1.out HC2.out).mono ?_
    rintro e V ⟨rfl, hbV⟩
    have HA2 := Lib.hid ((HO2'.out.drewN q).below hbV)
    have HZ := Lib.hid ((HZ3.out.drewN q).below hbV)
    have HBV : Hid (Below w.heap.size w V) := (below_drewN HB.out q).trans (hbV.mono HB.out.size)
    clear hbV
    have HTV := Lib.hid (HTB.out.below HBV.out)
    by_cases hval : leavesB zs = true ∧ 0 ≤ m ∧ m < zs.length
    · obtain ⟨hlv, hk0, hkn⟩ := hval
      obtain ⟨k, rfl⟩ := Int.eq_ofNat_of_zero_le hk0
      obtain ⟨h16, hd⟩ := leavesB_yes hlv
      have hkn' : k < zs.length := by omega
      have hacc := proof_ok zs k h16 hkn' hd
      rw [← proofOr_yes hlv hkn', HR.out, ← digestOr_of h16 hd] at hacc
      have hbd : 0 ≤ digestOr zs := by
        rw [digestOr_of h16 hd]
        exact (foldZ_bd zs.length (coverZ zs 0) (by omega) (by omega)).1
      obtain ⟨t, HT⟩ : ∃ t, Hid (digestOr zs = t) := ⟨_, rfl⟩
      rw [HT.out] at hbd hacc ⊢
      have HACC := Lib.hid hacc
      have hneg : ¬ t < 0 := by omega
      have hmb : ¬ ((zs.length : Int) ≤ (k : Int)) := by omega
      have hki : (k : Int) < (zs.length : Int) := by omega
      have hck : V.cell? ⟨b, k, none⟩ = some (.int .i64 (nth zs k)) := by
        have h1 := (HZ.out.ints.lt (by omega)).2 k hkn'
        rw [Nat.zero_add] at h1
        exact h1
      clear hacc hd hlv
      go_wp2_with fail
      refine (tcheck_any _ _ _ _ R A2 c2 _ HTV.out HA2.out.ints HA2.out.formA HO2.out.le.1 HO2.out.le.2).mono ?_
      rintro e V3 ⟨rfl, hb3⟩
      rw [HACC.out]
      have HV3 := Lib.hid hb3
      clear hb3
      go_wp2
      go_ret
      exact ⟨rfl, HBV.out.trans (HV3.out.mono HBV.out.size)⟩
    · rcases digestOr_cases zs with hdg | ⟨h16, hd, hdg, hz0, hz1⟩
      · rw [hdg]
        clear hdg hval
        go_wp2
        go_ret
        exact ⟨rfl, HBV.out⟩
      · rw [hdg]
        obtain ⟨t, HT⟩ : ∃ t, Hid (digestZ zs = t) := ⟨_, rfl⟩
        rw [HT.out] at hz0 hz1 ⊢
        have hneg : ¬ t < 0 := by omega
        have hor : m < 0 ∨ (zs.length : Int) ≤ m := by
          have h1 : ¬ (0 ≤ m ∧ m < zs.length) := fun h => hval ⟨leavesB_of h16 hd, h.1, h.2⟩
          omega
        clear hdg hval hd
        by_cases h2 : m < 0
        · go_wp2
          go_ret
          exact ⟨rfl, HBV.out⟩
        · have h3 : (zs.length : Int) ≤ m := by omega
          go_wp2
          go_ret
          exact ⟨rfl, HBV.out⟩
  · have h9 : 1048576 < len := by omega
    clear hlen
    go_enter Tryd.func3, Tryd.ntmps3
    go_wp2
    go_ret
    exact ⟨rfl, Below.refl _ _⟩

end Go.Proofs.YtlkgadgjcjpdcaaDoor
