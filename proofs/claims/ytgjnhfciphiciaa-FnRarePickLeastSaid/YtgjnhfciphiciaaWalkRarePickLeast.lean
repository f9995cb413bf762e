/- The walk of FnRarePickLeast: it returns true and changes nothing that was there. Condition: the codes' bytes lie in memory. -/
import Derived.Test.YtgjnhfciphiciaaRareLaws
import Derived.Test.YtgjnhfciphiciaaHolders
import Derived.Test.YtgjnhfciphiciaaSame
import Derived.Test.YtgjnhfciphiciaaDrawPeers
namespace Go.Proofs.Ytgjnhfciphiciaa
open Go.RowKit
set_option linter.unusedVariables false

set_option maxHeartbeats 8000000 in
set_option maxRecDepth 100000 in
theorem walkRarePickLeast (A : Option Addr) (len cap : Nat) (w : World) (hI : In w A len cap) :
    Calls Try.prog 7 #[.slice A len cap] w fun e w' => e = .returned (.bool true) ∧ Below w.heap.size w w' := by
  have hm := hI.len_le
  unfold maxLen at hm
  have HI := Lib.hid hI
  clear hI
  by_cases hlen : len ≤ 1048576
  · go_enter Try.func7, Try.ntmps7
    go_wp2_with fail
    refine (drawRarePick_any A len cap _ HI.out).mono ?_
    rintro e w1 ⟨X, c, hs, Y, d, mine, pr, rfl, hl7, hm18, hpa, hpb, hp1, ho1, hb1⟩
    have PP1 := Lib.hid hp1
    have PM1 := Lib.hid ho1
    have HB1 := Lib.hid hb1
    clear hp1 ho1 hb1
    obtain ⟨n, HN⟩ : ∃ v, Hid (hs.length = v) := ⟨_, rfl⟩
    obtain ⟨m, HM⟩ : ∃ v, Hid (mine.length = v) := ⟨_, rfl⟩
    obtain ⟨v, HV⟩ : ∃ v, Hid (pickZ (pz hs) mine pr = v) := ⟨_, rfl⟩
    rw [HN.out] at hl7
    rw [HM.out] at hm18
    rw [HN.out, HM.out]
    go_wp2_with fail
    have CI := Lib.hid (pick_blk_any X c hs Y d mine pr w1 PP1.out PM1.out.ints)
    rw [HN.out, HM.out, HV.out] at CI
    refine CI.out.mono ?_
    rintro e w2 ⟨rfl, hb2⟩
    clear CI
    have PP2 := Lib.hid (PP1.out.belowS hb2)
    have PM2 := Lib.hid (PM1.out.below hb2)
    have HB2 : Hid (Below w.heap.size w w2) := HB1.out.trans (hb2.mono HB1.out.size)
    clear hb2
    go_wp2_with fail
    have CI := Lib.hid (spick_any X c hs Y d mine pr w2 PP2.out PM2.out.ints)
    rw [HN.out, HM.out, HV.out] at CI
    refine CI.out.mono ?_
    rintro e w3 ⟨rfl, hb3⟩
    clear CI
    have PP3 := Lib.hid (PP2.out.belowS hb3)
    have PM3 := Lib.hid (PM2.out.below hb3)
    have HB3 : Hid (Below w.heap.size w w3) := HB2.out.trans (hb3.mono HB2.out.size)
    clear hb3
    have hne : (v != v) = false := by simp
    have heq : (v == v) = true := by simp
    by_cases hv0 : v < 0
    · go_wp2
      go_ret
      exact ⟨rfl, HB3.out⟩
    · have hv0i : ¬ v < 0 := hv0
      have hpv : 0 ≤ pr ∧ pr < (n : Int) := by
        by_cases h : 0 ≤ pr ∧ pr < ((pz hs).length : Int)
        · rwa [pz_length, HN.out] at h
        · have := HV.out; rw [pickZ_out h] at this; omega
      obtain ⟨hp0, hpn⟩ := hpv
      obtain ⟨p, rfl⟩ : ∃ p : Nat, pr = (p : Int) := ⟨pr.toNat, by omega⟩
      have hpn' : p < n := by omega
      have hpl : p < (pz hs).length := by rw [pz_length, HN.out]; exact hpn'
      obtain ⟨r, HPN⟩ : ∃ r, Hid (pickN (pz hs) mine p = some r) := by
        cases h : pickN (pz hs) mine p with
        | some r => exact ⟨r, rfl⟩
        | none => have := HV.out; rw [pickZ_none hpl h] at this; omega
      have hvr : v = (r : Int) := by rw [← HV.out]; exact pickZ_some hpl HPN.out
      subst hvr
      have HLE := Lib.hid (pick_least HPN.out)
      have hpz : p < hs.length := by rw [HN.out]; exact hpn'
      obtain ⟨pb, po, hpA, _, hpc⟩ := PP3.out.cell p hpz
      have hpI := PP3.out.one p hpz
      have hpd : pth (pz hs) p = (hth hs p).zs := pth_pz hs p
      obtain ⟨z, HZ⟩ : ∃ v, Hid (hth hs p = v) := ⟨_, rfl⟩
      rw [HZ.out] at hpc hpI hpd
      obtain ⟨za, zc, zz⟩ := z
      simp only at hpc hpI hpd
      have HPI := Lib.hid hpI
      have hbr : bth zz r = true := by rw [← hpd]; exact HLE.out.2.2.2.1
      have hrz : r < zz.length := by
        by_cases h : r < zz.length
        · exact h
        · rw [bth_out zz r (by omega)] at hbr; cases hbr
      have hz16 : zz.length ≤ 16 := by
        have := (okP_iff (pz hs)).1 HLE.out.1
        rw [← hpd, pth_eq (pz hs) p hpl]
        exact this.2 _ (List.getElem_mem hpl)
      have HALL : Hid (∀ b, b < 16 → bth zz b = true → bth mine b = false → cntB (pz hs) r ≤ cntB (pz hs) b) := by
        have := HLE.out.2.2.2.2 hpl
        rw [hpd] at this
        exact this
      obtain ⟨zb, zo, hZ, _, hzc⟩ := hpI (by omega)
      have HZC := Lib.hid hzc
      have hzr := hzc r hrz
      rw [hbr] at hzr
      subst hpA hZ
      obtain ⟨zl, HZL⟩ : ∃ v, Hid (zz.length = v) := ⟨_, rfl⟩
      obtain ⟨cr, HCR⟩ : ∃ v, Hid (cntB (pz hs) r = v) := ⟨_, rfl⟩
      rw [HZL.out] at hpc hrz hz16
      rw [HCR.out] at HALL
      have CR := Lib.hid (holders_any (some ⟨pb, po, none⟩) c r hs w3 _ PP3.out)
      rw [HN.out, HCR.out] at CR
      have hrzi : (r : Int) < (zl : Int) := by omega
      clear hpI hpd hpz hzc hbr HLE hpl
      go_wp2
      go_loop [8] (fun i => ∃ k : Nat, k ≤ zl ∧ i = .int .i64 (k : Int)) (fun i => zl - (intOf i).toNat)
      case atStart => exact ⟨0, by omega, rfl⟩
      case round =>
        obtain ⟨k, hk, rfl⟩ := hrel
        by_cases hlt : k < zl
        · have hki : (k : Int) < (zl : Int) := by omega
          have hzk := HZC.out k (by rw [HZL.out]; exact hlt)
          have hall := HALL.out k (by omega)
          have CK := Lib.hid (holders_any (some ⟨pb, po, none⟩) c k hs w3 _ PP3.out)
          rw [HN.out] at CK
          obtain ⟨ck, HCK⟩ : ∃ v, Hid (cntB (pz hs) k = v) := ⟨_, rfl⟩
          rw [HCK.out] at CK hall
          obtain ⟨bz, HBZ⟩ : ∃ v, Hid (bth zz k = v) := ⟨_, rfl⟩
          rw [HBZ.out] at hzk hall
          by_cases hkm : k < m
          · obtain ⟨b, o, hA, _, hc⟩ := PM3.out.ints (by rw [HM.out]; omega)
            have hck := hc k (by rw [HM.out]; exact hkm)
            subst hA
            have hkmi : ¬ (m : Int) ≤ (k : Int) := by omega
            clear hc
            obtain ⟨bm, HBM⟩ : ∃ v, Hid (bth mine k = v) := ⟨_, rfl⟩
            rw [HBM.out] at hck hall
            cases bm with
            | true =>
              clear hall CK
              cases bz with
              | true =>
                go_wp2
                go_round
                case rel => exact ⟨k + 1, by omega, by go_num⟩
                case measure => simp [intOf]; omega
              | false =>
                go_wp2
                go_round
                case rel => exact ⟨k + 1, by omega, by go_num⟩
                case measure => simp [intOf]; omega
            | false =>
              cases bz with
              | true =>
                have hle := hall rfl rfl
                have hlei : ¬ (ck : Int) < (cr : Int) := by omega
                clear hall
                go_wp2_with fail
                refine CK.out.mono ?_
                rintro e w5 ⟨rfl, rfl⟩
                clear CK
                go_wp2_with fail
                refine CR.out.mono ?_
                rintro e w6 ⟨rfl, rfl⟩
                go_wp2
                go_round
                case rel => exact ⟨k + 1, by omega, by go_num⟩
                case measure => simp [intOf]; omega
              | false =>
                clear hall CK
                go_wp2
                go_round
                case rel => exact ⟨k + 1, by omega, by go_num⟩
                case measure => simp [intOf]; omega
          · have hkmi : (m : Int) ≤ (k : Int) := by omega
            rw [bth_out mine k (by rw [HM.out]; omega)] at hall
            cases bz with
            | true =>
              have hle := hall rfl rfl
              have hlei : ¬ (ck : Int) < (cr : Int) := by omega
              clear hall
              go_wp2_with fail
              refine CK.out.mono ?_
              rintro e w5 ⟨rfl, rfl⟩
              clear CK
              go_wp2_with fail
              refine CR.out.mono ?_
              rintro e w6 ⟨rfl, rfl⟩
              go_wp2
              go_round
              case rel => exact ⟨k + 1, by omega, by go_num⟩
              case measure => simp [intOf]; omega
            | false =>
              clear hall CK
              go_wp2
              go_round
              case rel => exact ⟨k + 1, by omega, by go_num⟩
              case measure => simp [intOf]; omega
        · have hki : ¬ (k : Int) < (zl : Int) := by omega
          go_wp2
          go_ret
          exact ⟨rfl, HB3.out⟩
  · have h9 : 1048576 < len := by omega
    clear hlen
    go_enter Try.func7, Try.ntmps7
    go_wp2
    go_ret
    exact ⟨rfl, Below.refl _ _⟩

end Go.Proofs.Ytgjnhfciphiciaa
