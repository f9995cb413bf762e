/- The walk of FnProofLeaf: it returns true and changes nothing that was there. Condition: the codes' bytes lie in memory. -/
import Derived.Test.YtlkgadgjcjpdcaaDoorProofLaws
import Derived.Test.YtlkgadgjcjpdcaaDoorDrawProof
import Derived.Test.YtlkgadgjcjpdcaaDoorSame
import Derived.Test.YtlkgadgjcjpdcaaDoorIn
import Derived.Test.YtlkgadgjcjpdcaaDoorOther
namespace Go.Proofs.YtlkgadgjcjpdcaaDoor
open Go.RowKit
set_option linter.unusedVariables false

theorem dec_self (l : List Int) : decide (l = l) = true := by simp

set_option maxHeartbeats 4000000 in
set_option maxRecDepth 100000 in
theorem walkProofLeaf (A : Option Addr) (len cap : Nat) (A1 : Option Addr) (len1 cap1 : Nat) (w : World) (hTab : Tab w) (hI : In w A len cap) (hI1 : In w A1 len1 cap1) :
    Calls Tryd.prog 4 #[.slice A len cap, .slice A1 len1 cap1] w fun e w' => e = .returned (.bool true) ∧ Below w.heap.size w w' := by
  have hm := hI.len_le
  have hm1 := hI1.len_le
  have HM1 := Lib.hid hm1
  unfold maxLen at hm hm1
  have HI := Lib.hid hI
  have HTB := Lib.hid hTab
  clear hI hTab hI1
  by_cases hlen : len ≤ 1048576
  · by_cases hlen1 : len1 ≤ 1048576
    · go_enter Tryd.func4, Tryd.ntmps4
      go_wp2_with fail
      refine (drawproof_any A len cap _ HI.out).mono ?_
      rintro e w1 ⟨b, c, zs, m, rfl, hz28, hnear, hm0, hm100, hown1, hb1⟩
      have HO1 := Lib.hid hown1
      have HB1 := Lib.hid hb1
      have HC1 := Lib.hid hown1.le.1
      have HC2 := Lib.hid hown1.le.2
      clear hown1 hb1 hnear
      obtain ⟨R, HR⟩ : ∃ R, Hid (proofOr zs m = R) := ⟨_, rfl⟩
      go_wp2_with fail
      refine (proof_any zs m b 0 c _ HO1.out.ints HC1.out HC2.out).mono ?_
      rintro e w2 ⟨A2, c2, rfl, hown2, hb2⟩
      rw [HR.out] at hown2 ⊢
      have HO2 := Lib.hid hown2
      have HB2 := Lib.hid hb2
      clear hown2 hb2
      go_wp2_with fail
      refine (sproof_any zs m b 0 c _ (HO1.out.below HB2.out).ints HC1.out HC2.out).mono ?_
      rintro e w3 ⟨A3, c3, rfl, hown3, hb3⟩
      rw [HR.out] at hown3 ⊢
      have HO3 := Lib.hid hown3
      have HO2' := Lib.hid (HO2.out.below hb3)
      have HZ3 := Lib.hid ((HO1.out.below HB2.out).below hb3)
      have HB : Hid (Below w.heap.size w w3) := (HB1.out.trans (HB2.out.mono HB1.out.size)).trans (hb3.mono (Nat.le_trans HB1.out.size HB2.out.size))
      clear hown3 hb3
      have HL2 := Lib.hid (Nat.le_trans HO2.out.le.1 HO2.out.le.2)
      go_wp2_with fail
      refine (same_any A2 c2 R A3 c3 R _ HO2'.out.ints HO3.out.ints HL2.out HL2.out).mono ?_
      rintro e w' ⟨rfl, q, rfl⟩
      rw [dec_self]
      go_wp2_with fail
      refine (sdigest_any zs b 0 c _ (HZ3.out.drewN q).ints HC1.out HC2.out).mono ?_
      rintro e V ⟨rfl, hbV⟩
      have HA2 := Lib.hid ((HO2'.out.drewN q).below hbV)
      have HA3 := Lib.hid ((HO3.out.drewN q).below hbV)
      have HZ := Lib.hid ((HZ3.out.drewN q).below hbV)
      have HBV : Hid (Below w.heap.size w V) := (below_drewN HB.out q).trans (hbV.mono HB.out.size)
      clear hbV
      by_cases hval : leavesB zs = true ∧ 0 ≤ m ∧ m < zs.length
      · obtain ⟨hlv, hk0, hkn⟩ := hval
        obtain ⟨k, rfl⟩ := Int.eq_ofNat_of_zero_le hk0
        obtain ⟨h16, hd⟩ := leavesB_yes hlv
        have hkn' : k < zs.length := by omega
        have hacc := proof_ok zs k h16 hkn' hd
        rw [← proofOr_yes hlv hkn', HR.out, ← digestOr_of h16 hd] at hacc
        obtain ⟨t0, t1⟩ : 0 ≤ digestOr zs ∧ digestOr zs < 991 := by
          rw [digestOr_of h16 hd]
          exact foldZ_bd zs.length (coverZ zs 0) (by omega) (by omega)
        obtain ⟨v0, v1⟩ := hd.at_ k hkn'
        obtain ⟨t, HT⟩ : ∃ t, Hid (digestOr zs = t) := ⟨_, rfl⟩
        rw [HT.out] at t0 t1 hacc ⊢
        have hck : V.cell? ⟨b, k, none⟩ = some (.int .i64 (nth zs k)) := by
          have h1 := (HZ.out.ints.lt (by omega)).2 k hkn'
          rw [Nat.zero_add] at h1
          exact h1
        have hbl : b < V.heap.size := (HZ.out.ints.lt (by omega)).1
        obtain ⟨v, HVV⟩ : ∃ v, Hid (nth zs k = v) := ⟨_, rfl⟩
        rw [HVV.out] at hacc hck v0 v1
        have hxn := otherZ_ne v len1
        obtain ⟨x0, x1⟩ := otherZ_bd v len1
        have hyn := otherZ_ne t len1
        obtain ⟨y0, y1⟩ := otherZ_bd t len1
        obtain ⟨x, HX⟩ : ∃ x, Hid (otherZ v len1 = x) := ⟨_, rfl⟩
        obtain ⟨y, HY⟩ : ∃ y, Hid (otherZ t len1 = y) := ⟨_, rfl⟩
        rw [HX.out] at hxn x0 x1
        rw [HY.out] at hyn y0 y1
        have HN1 := Lib.hid (ok_leaf hacc hxn)
        have HN2 := Lib.hid (ok_digest hacc hyn)
        have hxb : (x == v) = false := by rw [beq_eq_false_iff_ne]; exact hxn
        have hyb : (y == t) = false := by rw [beq_eq_false_iff_ne]; exact hyn
        have hneg : ¬ t < 0 := by omega
        have hmb : ¬ ((zs.length : Int) ≤ (k : Int)) := by omega
        have hki : (k : Int) < (zs.length : Int) := by omega
        clear hacc hd hlv hxn hyn
        go_wp2_with fail
        refine (digest_any zs b 0 c _ HZ.out.ints HC1.out HC2.out).mono ?_
        rintro e V1 ⟨rfl, hb1⟩
        rw [HT.out]
        have hc1 : V1.cell? ⟨b, k, none⟩ = some (.int .i64 v) := (hb1.cell (p := ⟨b, k, none⟩) hbl).trans hck
        have HA21 := Lib.hid (HA2.out.below hb1)
        have HBV1 : Hid (Below w.heap.size w V1) := HBV.out.trans (hb1.mono HBV.out.size)
        have hbl1 : b < V1.heap.size := Nat.lt_of_lt_of_le hbl hb1.size
        clear hb1 hck
        go_wp2_with fail
        refine (other_any _ _ _ v0 v1 HM1.out).mono ?_
        rintro e w' ⟨rfl, rfl⟩
        rw [HX.out]
        go_wp2_with fail
        refine (other_any _ _ _ t0 t1 HM1.out).mono ?_
        rintro e w' ⟨rfl, rfl⟩
        rw [HY.out]
        go_wp2_with fail
        refine (tcheck_any _ _ _ _ R A2 c2 _ (HTB.out.below HBV1.out) HA21.out.ints HA21.out.formA HO2.out.le.1 HO2.out.le.2).mono ?_
        rintro e V2 ⟨rfl, hb2⟩
        rw [HN1.out]
        have hc2 : V2.cell? ⟨b, k, none⟩ = some (.int .i64 v) := (hb2.cell (p := ⟨b, k, none⟩) hbl1).trans hc1
        have HA22 := Lib.hid (HA21.out.below hb2)
        have HBV2 : Hid (Below w.heap.size w V2) := HBV1.out.trans (hb2.mono HBV1.out.size)
        clear hb2 hc1
        go_wp2_with fail
        refine (tcheck_any _ _ _ _ R A2 c2 _ (HTB.out.below HBV2.out) HA22.out.ints HA22.out.formA HO2.out.le.1 HO2.out.le.2).mono ?_
        rintro e V3 ⟨rfl, hb3⟩
        rw [HN2.out]
        have HBV3 : Hid (Below w.heap.size w V3) := HBV2.out.trans (hb3.mono HBV2.out.size)
        clear hb3
        go_wp2
        go_ret
        exact ⟨rfl, HBV3.out⟩
      · have CS : Hid (∀ z : Nat, Calls Tryd.prog 11 #[.slice A2 R.length c2, .slice A3 R.length c3] V fun e w' => e = .returned (.bool true) ∧ Below V.heap.size V w') := fun _ => by
          refine (same_any A2 c2 R A3 c3 R V HA2.out.ints HA3.out.ints HL2.out HL2.out).mono ?_
          rintro e w' ⟨rfl, q', rfl⟩
          exact ⟨by rw [dec_self], below_drewN (Below.refl _ _) q'⟩
        rcases digestOr_cases zs with hdg | ⟨h16, hd, hdg, hz0, hz1⟩
        · rw [hdg]
          clear hdg hval
          go_wp2_with fail
          refine (CS.out 0).mono ?_
          rintro e V1 ⟨rfl, hb1⟩
          have HBV1 : Hid (Below w.heap.size w V1) := HBV.out.trans (hb1.mono HBV.out.size)
          clear hb1
          go_wp2
          go_ret
          exact ⟨rfl, HBV1.out⟩
        · rw [hdg]
          obtain ⟨t, HT⟩ : ∃ t, Hid (digestZ zs = t) := ⟨_, rfl⟩
          rw [HT.out] at hz0 hz1 ⊢
          have hneg : ¬ t < 0 := by omega
          have hor : m < 0 ∨ (zs.length : Int) ≤ m := by
            have h1 : ¬ (0 ≤ m ∧ m < zs.length) := fun h => hval ⟨leavesB_of h16 hd, h.1, h.2⟩
            omega
          clear hdg hval hd
          by_cases h2 : m < 0
          · go_wp2_with fail
            refine (CS.out 0).mono ?_
            rintro e V1 ⟨rfl, hb1⟩
            have HBV1 : Hid (Below w.heap.size w V1) := HBV.out.trans (hb1.mono HBV.out.size)
            clear hb1
            go_wp2
            go_ret
            exact ⟨rfl, HBV1.out⟩
          · have h3 : (zs.length : Int) ≤ m := by omega
            go_wp2_with fail
            refine (CS.out 0).mono ?_
            rintro e V1 ⟨rfl, hb1⟩
            have HBV1 : Hid (Below w.heap.size w V1) := HBV.out.trans (hb1.mono HBV.out.size)
            clear hb1
            go_wp2
            go_ret
            exact ⟨rfl, HBV1.out⟩
    · have h9 : 1048576 < len1 := by omega
      clear hlen1
      go_enter Tryd.func4, Tryd.ntmps4
      go_wp2
      go_ret
      exact ⟨rfl, Below.refl _ _⟩
  · have h9 : 1048576 < len := by omega
    clear hlen
    go_enter Tryd.func4, Tryd.ntmps4
    go_wp2
    go_ret
    exact ⟨rfl, Below.refl _ _⟩

end Go.Proofs.YtlkgadgjcjpdcaaDoor
