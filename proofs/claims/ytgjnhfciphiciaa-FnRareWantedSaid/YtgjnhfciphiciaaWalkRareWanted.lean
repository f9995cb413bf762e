/- The walk of FnRareWanted: it returns true and changes nothing that was there. Condition: the codes' bytes lie in memory. -/
import Derived.Test.YtgjnhfciphiciaaRareLaws
import Derived.Test.YtgjnhfciphiciaaHolders
import Derived.Test.YtgjnhfciphiciaaSame
import Derived.Test.YtgjnhfciphiciaaDrawPeers
namespace Go.Proofs.Ytgjnhfciphiciaa
open Go.RowKit
set_option linter.unusedVariables false

set_option maxHeartbeats 8000000 in
set_option maxRecDepth 100000 in
theorem walkRareWanted (A : Option Addr) (len cap : Nat) (w : World) (hI : In w A len cap) :
    Calls Try.prog 5 #[.slice A len cap] w fun e w' => e = .returned (.bool true) ∧ Below w.heap.size w w' := by
  have hm := hI.len_le
  unfold maxLen at hm
  have HI := Lib.hid hI
  clear hI
  by_cases hlen : len ≤ 1048576
  · go_enter Try.func5, Try.ntmps5
    go_wp2_with fail
    refine (drawRareOrder_any A len cap _ HI.out).mono ?_
    rintro e w1 ⟨X, c, hs, Y, d, mine, rfl, hl7, hm18, hp1, ho1, hb1⟩
    have PP1 := Lib.hid hp1
    have PM1 := Lib.hid ho1
    have HB1 := Lib.hid hb1
    clear hp1 ho1 hb1
    obtain ⟨n, HN⟩ : ∃ v, Hid (hs.length = v) := ⟨_, rfl⟩
    obtain ⟨m, HM⟩ : ∃ v, Hid (mine.length = v) := ⟨_, rfl⟩
    obtain ⟨os, HOS⟩ : ∃ v, Hid (natZ (orderN (pz hs) mine) = v) := ⟨_, rfl⟩
    obtain ⟨l, HL⟩ : ∃ v, Hid (os.length = v) := ⟨_, rfl⟩
    rw [HN.out] at hl7
    rw [HM.out] at hm18
    have hl16 : l ≤ 16 := by rw [← HL.out, ← HOS.out, natZ_length]; exact orderN_len _ _
    have HLM : Hid (os.length ≤ maxLen) := by show _ ≤ _; rw [HL.out]; unfold maxLen; omega
    rw [HN.out, HM.out]
    go_wp2_with fail
    have CI := Lib.hid (order_any X c hs Y d mine w1 PP1.out PM1.out.ints)
    rw [HN.out, HM.out, HOS.out] at CI
    refine CI.out.mono ?_
    rintro e w2 ⟨A2, c2, rfl, ho2, hb2⟩
    rw [HL.out]
    have PO2 := Lib.hid ho2
    clear ho2 CI
    have PP2 := Lib.hid (PP1.out.belowS hb2)
    have PM2 := Lib.hid (PM1.out.below hb2)
    have HB2 : Hid (Below w.heap.size w w2) := HB1.out.trans (hb2.mono HB1.out.size)
    clear hb2
    go_wp2_with fail
    have CI := Lib.hid (sorder_any X c hs Y d mine w2 PP2.out PM2.out.ints)
    rw [HN.out, HM.out, HOS.out] at CI
    refine CI.out.mono ?_
    rintro e w3 ⟨A3, c3, rfl, ho3, hb3⟩
    rw [HL.out]
    have PW3 := Lib.hid ho3
    clear ho3 CI
    have PP3 := Lib.hid (PP2.out.belowS hb3)
    have PM3 := Lib.hid (PM2.out.below hb3)
    have HB3 : Hid (Below w.heap.size w w3) := HB2.out.trans (hb3.mono HB2.out.size)
    have PO3 := Lib.hid (PO2.out.below hb3)
    clear hb3
    go_wp2_with fail
    have CI := Lib.hid (same_any A2 c2 os A3 c3 os w3 PO3.out.ints PW3.out.ints HLM.out HLM.out)
    rw [HL.out] at CI
    refine CI.out.mono ?_
    rintro e w4 ⟨rfl, q, hq⟩
    have hb4 : Below w3.heap.size w3 w4 := by rw [hq]; exact below_drewN (Below.refl _ _) q
    clear hq CI
    rw [deci_self os]
    have PP4 := Lib.hid (PP3.out.belowS hb4)
    have PM4 := Lib.hid (PM3.out.below hb4)
    have HB4 : Hid (Below w.heap.size w w4) := HB3.out.trans (hb4.mono HB3.out.size)
    have PO4 := Lib.hid (PO3.out.below hb4)
    have PW4 := Lib.hid (PW3.out.below hb4)
    clear hb4
    by_cases hm16 : m ≤ 16
    · have hm16i : ¬ (16 : Int) < (m : Int) := by omega
      obtain ⟨v, HV⟩ : ∃ v, Hid (countZ (pz hs) 0 = v) := ⟨_, rfl⟩
      go_wp2_with fail
      have CI := Lib.hid (srareCount_any X c hs 0 w4 _ PP4.out)
      rw [HN.out, HV.out] at CI
      refine CI.out.mono ?_
      rintro e w4 ⟨rfl, rfl⟩
      clear CI
      by_cases hv0 : v < 0
      · go_wp2_with fail
        have CI := Lib.hid (same_any A2 c2 os A3 c3 os w4 PO4.out.ints PW4.out.ints HLM.out HLM.out)
        rw [HL.out] at CI
        refine CI.out.mono ?_
        rintro e w5 ⟨rfl, q, hq⟩
        have hb5 : Below w4.heap.size w4 w5 := by rw [hq]; exact below_drewN (Below.refl _ _) q
        clear hq CI
        rw [deci_self os]
        have PP5 := Lib.hid (PP4.out.belowS hb5)
        have PM5 := Lib.hid (PM4.out.below hb5)
        have HB5 : Hid (Below w.heap.size w w5) := HB4.out.trans (hb5.mono HB4.out.size)
        have PO5 := Lib.hid (PO4.out.below hb5)
        have PW5 := Lib.hid (PW4.out.below hb5)
        clear hb5
        go_wp2
        go_ret
        exact ⟨rfl, HB5.out⟩
      · have hv0i : ¬ v < 0 := hv0
        have hok : okP (pz hs) = true := by
          by_cases h : okP (pz hs) = true ∧ (0 : Int) ≤ 0 ∧ (0 : Int) < 16
          · exact h.1
          · have := HV.out; rw [countZ_no h] at this; omega
        have HC : Hid (∀ b, b < 16 → (b ∈ orderN (pz hs) mine ↔ 0 < cntB (pz hs) b ∧ bth mine b = false)) := fun b hb => orderN_has ⟨hok, by rw [HM.out]; exact hm16⟩ hb
        clear hok
        go_wp2
        go_loop [7] (fun i => ∃ k : Nat, k ≤ 16 ∧ i = .int .i64 (k : Int)) (fun i => 16 - (intOf i).toNat)
        case atStart => exact ⟨0, by omega, rfl⟩
        case round =>
          obtain ⟨k, hk, rfl⟩ := hrel
          by_cases hlt : k < 16
          · have hki : (k : Int) < 16 := by omega
            have CH := Lib.hid (hasInt_any A2 c2 os (k : Int) w4 PO4.out.ints HLM.out)
            rw [← HOS.out, has_int, HOS.out, HL.out] at CH
            have CN := Lib.hid (holders_any X c k hs w4 _ PP4.out)
            rw [HN.out] at CN
            have hmem := HC.out k hlt
            obtain ⟨r, HR⟩ : ∃ v, Hid (cntB (pz hs) k = v) := ⟨_, rfl⟩
            rw [HR.out] at CN hmem
            obtain ⟨u, HU⟩ : ∃ v, Hid (decide (k ∈ orderN (pz hs) mine) = v) := ⟨_, rfl⟩
            rw [HU.out] at CH
            by_cases hkm : k < m
            · obtain ⟨b, o, hA, _, hc⟩ := PM4.out.ints (by rw [HM.out]; omega)
              have hck := hc k (by rw [HM.out]; exact hkm)
              subst hA
              have hkmi : ¬ (m : Int) ≤ (k : Int) := by omega
              clear hc
              cases hb : bth mine k with
              | true =>
                rw [hb] at hck hmem
                have hu : u = false := by rw [← HU.out, decide_eq_false_iff_not]; intro h; have := (hmem.1 h).2; cases this
                subst hu
                clear hmem CN
                go_wp2_with fail
                refine CH.out.mono ?_
                rintro e w5 ⟨rfl, rfl⟩
                clear CH
                go_wp2
                go_round
                case rel => exact ⟨k + 1, by omega, by go_num⟩
                case measure => simp [intOf]; omega
              | false =>
                rw [hb] at hck hmem
                by_cases hr : 0 < r
                · have hri : (0 : Int) < (r : Int) := by omega
                  have hu : u = true := by rw [← HU.out, decide_eq_true_iff]; exact hmem.2 ⟨hr, rfl⟩
                  subst hu
                  clear hmem
                  go_wp2_with fail
                  refine CH.out.mono ?_
                  rintro e w5 ⟨rfl, rfl⟩
                  clear CH
                  go_wp2_with fail
                  refine CN.out.mono ?_
                  rintro e w6 ⟨rfl, rfl⟩
                  clear CN
                  go_wp2
                  go_round
                  case rel => exact ⟨k + 1, by omega, by go_num⟩
                  case measure => simp [intOf]; omega
                · have hri : ¬ (0 : Int) < (r : Int) := by omega
                  have hu : u = false := by rw [← HU.out, decide_eq_false_iff_not]; intro h; exact hr (hmem.1 h).1
                  subst hu
                  clear hmem
                  go_wp2_with fail
                  refine CH.out.mono ?_
                  rintro e w5 ⟨rfl, rfl⟩
                  clear CH
                  go_wp2_with fail
                  refine CN.out.mono ?_
                  rintro e w6 ⟨rfl, rfl⟩
                  clear CN
                  go_wp2
                  go_round
                  case rel => exact ⟨k + 1, by omega, by go_num⟩
                  case measure => simp [intOf]; omega
            · have hb : bth mine k = false := bth_out mine k (by rw [HM.out]; omega)
              have hkmi : (m : Int) ≤ (k : Int) := by omega
              rw [hb] at hmem
              by_cases hr : 0 < r
              · have hri : (0 : Int) < (r : Int) := by omega
                have hu : u = true := by rw [← HU.out, decide_eq_true_iff]; exact hmem.2 ⟨hr, rfl⟩
                subst hu
                clear hmem hb
                go_wp2_with fail
                refine CH.out.mono ?_
                rintro e w5 ⟨rfl, rfl⟩
                clear CH
                go_wp2_with fail
                refine CN.out.mono ?_
                rintro e w6 ⟨rfl, rfl⟩
                clear CN
                go_wp2
                go_round
                case rel => exact ⟨k + 1, by omega, by go_num⟩
                case measure => simp [intOf]; omega
              · have hri : ¬ (0 : Int) < (r : Int) := by omega
                have hu : u = false := by rw [← HU.out, decide_eq_false_iff_not]; intro h; exact hr (hmem.1 h).1
                subst hu
                clear hmem hb
                go_wp2_with fail
                refine CH.out.mono ?_
                rintro e w5 ⟨rfl, rfl⟩
                clear CH
                go_wp2_with fail
                refine CN.out.mono ?_
                rintro e w6 ⟨rfl, rfl⟩
                clear CN
                go_wp2
                go_round
                case rel => exact ⟨k + 1, by omega, by go_num⟩
                case measure => simp [intOf]; omega
          · have hki : ¬ (k : Int) < 16 := by omega
            go_wp2
            go_ret
            exact ⟨rfl, HB4.out⟩
    · have hm16i : (16 : Int) < (m : Int) := by omega
      go_wp2_with fail
      have CI := Lib.hid (same_any A2 c2 os A3 c3 os w4 PO4.out.ints PW4.out.ints HLM.out HLM.out)
      rw [HL.out] at CI
      refine CI.out.mono ?_
      rintro e w5 ⟨rfl, q, hq⟩
      have hb5 : Below w4.heap.size w4 w5 := by rw [hq]; exact below_drewN (Below.refl _ _) q
      clear hq CI
      rw [deci_self os]
      have PP5 := Lib.hid (PP4.out.belowS hb5)
      have PM5 := Lib.hid (PM4.out.below hb5)
      have HB5 : Hid (Below w.heap.size w w5) := HB4.out.trans (hb5.mono HB4.out.size)
      have PO5 := Lib.hid (PO4.out.below hb5)
      have PW5 := Lib.hid (PW4.out.below hb5)
      clear hb5
      go_wp2
      go_ret
      exact ⟨rfl, HB5.out⟩
  · have h9 : 1048576 < len := by omega
    clear hlen
    go_enter Try.func5, Try.ntmps5
    go_wp2
    go_ret
    exact ⟨rfl, Below.refl _ _⟩

end Go.Proofs.Ytgjnhfciphiciaa
