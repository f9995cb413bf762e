/- The walk of FnGiveServed: it returns true and changes nothing that was there. Condition: the codes' bytes lie in memory. -/
import Derived.Test.YtmlichpokjfnnaaServeLaws
import Derived.Test.YtmlichpokjfnnaaHas
import Derived.Test.YtmlichpokjfnnaaSame
import Derived.Test.YtmlichpokjfnnaaDrawChoke
import Derived.Test.YtmlichpokjfnnaaChoke
import Derived.Test.YtmlichpokjfnnaaChokeGive
import Derived.Test.YtmlichpokjfnnaaSChokeGive
import Derived.Deep.DeepCutAuto
import Derived.Deep.LoopGhost
import Derived.Deep.RegionHeld3
namespace Go.Proofs.Ytmlichpokjfnnaa
open Go.RowKit
set_option linter.unusedVariables false

set_option maxHeartbeats 8000000 in
set_option maxRecDepth 100000 in
theorem walkGiveServed (A : Option Addr) (len cap : Nat) (A1 : Option Addr) (len1 cap1 : Nat) (w : World) (hI : In w A len cap) (hI1 : In w A1 len1 cap1) :
    Calls Try.prog 10 #[.slice A len cap, .slice A1 len1 cap1] w fun e w' => e = .returned (.bool true) ∧ Below w.heap.size w w' := by
  have hm := hI.len_le
  unfold maxLen at hm
  have hm1 := hI1.len_le
  unfold maxLen at hm1
  clear hI1
  have HI := Lib.hid hI
  clear hI
  by_cases hlen : len ≤ 1048576
  · by_cases hlen1 : len1 ≤ 1048576
    · go_enter Try.func10, Try.ntmps10
      go_wp2_with fail
      refine (drawChokeGive_any A len cap _ HI.out).mono ?_
      rintro e w1 ⟨X, c, gs, p, rfl, hl7, ht1, ht2, hg1, hb1⟩
      have HG1 := Lib.hid hg1
      have HB1 := Lib.hid hb1
      clear hg1 hb1
      obtain ⟨n, HN⟩ : ∃ v, Hid (gs.length = v) := ⟨_, rfl⟩
      rw [HN.out] at hl7
      obtain ⟨ok, HOK⟩ : ∃ v, Hid (giveB gs p = v) := ⟨_, rfl⟩
      obtain ⟨os, HOS⟩ : ∃ v, Hid (giveZ gs p = v) := ⟨_, rfl⟩
      obtain ⟨l, HL⟩ : ∃ v, Hid (os.length = v) := ⟨_, rfl⟩
      have hl7b : l ≤ 7 := by rw [← HL.out, ← HOS.out]; exact Nat.le_trans (give_len gs p) (by rw [HN.out]; exact hl7)
      have HLM : Hid (os.length ≤ maxLen) := by show _ ≤ _; rw [HL.out]; unfold maxLen; omega
      rw [HN.out]
      go_wp2_with fail
      have CI := Lib.hid (chokeGive_any X c gs n p w1 HG1.out.ints HN.out (by omega))
      rw [HOS.out, HOK.out] at CI
      refine CI.out.mono ?_
      rintro e w2 ⟨A2, c2, rfl, ho2, hb2⟩
      rw [HL.out]
      have PO2 := Lib.hid ho2
      clear ho2 CI
      have HG2 := Lib.hid (HG1.out.below hb2)
      have HB2 : Hid (Below w.heap.size w w2) := HB1.out.trans (hb2.mono HB1.out.size)
      clear hb2
      go_wp2_with fail
      have CI := Lib.hid (schokeGive_any X c gs n p w2 HG2.out.ints HN.out (by omega))
      rw [HOS.out, HOK.out] at CI
      refine CI.out.mono ?_
      rintro e w3 ⟨A3, c3, rfl, ho3, hb3⟩
      rw [HL.out]
      have PW3 := Lib.hid ho3
      clear ho3 CI
      have HG3 := Lib.hid (HG2.out.below hb3)
      have HB3 : Hid (Below w.heap.size w w3) := HB2.out.trans (hb3.mono HB2.out.size)
      have PO3 := Lib.hid (PO2.out.below hb3)
      clear hb3
      cases ok with
      | false =>
        go_wp2_with fail
        have CI := Lib.hid (same_any A2 c2 os A3 c3 os w3 PO3.out.ints PW3.out.ints HLM.out HLM.out)
        rw [HL.out] at CI
        refine CI.out.mono ?_
        rintro e w4 ⟨rfl, q, hq⟩
        have hb4 : Below w3.heap.size w3 w4 := by rw [hq]; exact below_drewN (Below.refl _ _) q
        clear hq CI
        rw [deci_same os]
        have HG4 := Lib.hid (HG3.out.below hb4)
        have HB4 : Hid (Below w.heap.size w w4) := HB3.out.trans (hb4.mono HB3.out.size)
        have PO4 := Lib.hid (PO3.out.below hb4)
        have PW4 := Lib.hid (PW3.out.below hb4)
        clear hb4
        go_wp2_with fail
        have CI := Lib.hid (same_any A2 c2 os A3 c3 os w4 PO4.out.ints PW4.out.ints HLM.out HLM.out)
        rw [HL.out] at CI
        refine CI.out.mono ?_
        rintro e w5 ⟨rfl, q, hq⟩
        have hb5 : Below w4.heap.size w4 w5 := by rw [hq]; exact below_drewN (Below.refl _ _) q
        clear hq CI
        rw [deci_same os]
        have HG5 := Lib.hid (HG4.out.below hb5)
        have HB5 : Hid (Below w.heap.size w w5) := HB4.out.trans (hb5.mono HB4.out.size)
        have PO5 := Lib.hid (PO4.out.below hb5)
        have PW5 := Lib.hid (PW4.out.below hb5)
        clear hb5
        go_wp2
        go_ret
        exact ⟨rfl, HB5.out⟩
      | true =>
        go_wp2_with fail
        have CI := Lib.hid (same_any A2 c2 os A3 c3 os w3 PO3.out.ints PW3.out.ints HLM.out HLM.out)
        rw [HL.out] at CI
        refine CI.out.mono ?_
        rintro e w4 ⟨rfl, q, hq⟩
        have hb4 : Below w3.heap.size w3 w4 := by rw [hq]; exact below_drewN (Below.refl _ _) q
        clear hq CI
        rw [deci_same os]
        have HG4 := Lib.hid (HG3.out.below hb4)
        have HB4 : Hid (Below w.heap.size w w4) := HB3.out.trans (hb4.mono HB3.out.size)
        have PO4 := Lib.hid (PO3.out.below hb4)
        have PW4 := Lib.hid (PW3.out.below hb4)
        clear hb4
        obtain ⟨hG, hP, hx9⟩ := giveB_iff.1 HOK.out
        have hpp := peerB_iff.1 hP
        obtain ⟨pn, rfl⟩ : ∃ q : Nat, p = (q : Int) := ⟨p.toNat, by omega⟩
        rw [Int.toNat_natCast] at hx9
        have hpn : pn < n := by have := hpp.2; rw [HN.out] at this; omega
        have hOE : os = gs.set pn (nth gs pn + 1) := by
          have := giveZ_more hG hP (by rw [Int.toNat_natCast]; exact hx9)
          rw [HOS.out, Int.toNat_natCast] at this
          exact this
        have hln : l = n := by rw [← HL.out, hOE, List.length_set, HN.out]
        subst hln
        have hn6 : l ≤ 6 := by rw [← HN.out]; exact (okG_iff.1 hG).1
        have HOE := Lib.hid hOE
        have HGG := Lib.hid hG
        have HX9 := Lib.hid hx9
        clear hG hP hx9 hpp hOE ht1 ht2
        have HGO : Hid (okG os = true) := by show _ = _; rw [HOE.out]; exact give_ok HGG.out (by rw [HN.out]; exact hpn) HX9.out
        obtain ⟨tn, HTN⟩ : ∃ v, Hid (len1 % 50 = v) := ⟨_, rfl⟩
        have htn : tn < 50 := by rw [← HTN.out]; exact Nat.mod_lt _ (by omega)
        have hrem : ((len1 : Int).tmod 50) = (tn : Int) := by rw [Int.tmod_eq_emod_of_nonneg (by omega)]; have := HTN.out; omega
        have HTT : Hid (okT (tn : Int) = true) := okT_iff.2 ⟨by omega, by omega⟩
        have HGB : Hid (pn ∈ servedN gs tn → ¬ turnZ gs tn = (pn : Int) → pn ∈ servedN os tn ∧ ¬ turnZ os tn = (pn : Int)) := by
          intro h1 h2
          rw [HOE.out]
          exact give_best (by rw [HN.out]; exact hpn) h1 h2
        have CI := Lib.hid (chokeServed_any X c gs l (tn : Int) w4 HG4.out.ints HN.out (by omega))
        rw [served_nat HGG.out HTT.out] at CI
        obtain ⟨l5, HL5⟩ : ∃ v, Hid ((numZ (servedN gs tn)).length = v) := ⟨_, rfl⟩
        have hl5 : l5 ≤ 4 := by rw [← HL5.out, numZ_length, served_length]; omega
        go_wp2_with fail
        refine CI.out.mono ?_
        rintro e w5 ⟨A5, c5, rfl, ho5, hb5⟩
        rw [HL5.out]
        have CH := hasL_any A5 c5 (numZ (servedN gs tn)) (pn : Int) w5 ho5.ints (by rw [HL5.out]; unfold maxLen; omega)
        rw [HL5.out, has_num] at CH
        have HC5 := Lib.hid CH
        clear ho5 CH CI
        have HG5 := Lib.hid (HG4.out.below hb5)
        have HB5 : Hid (Below w.heap.size w w5) := HB4.out.trans (hb5.mono HB4.out.size)
        have PO5 := Lib.hid (PO4.out.below hb5)
        have PW5 := Lib.hid (PW4.out.below hb5)
        clear hb5
        cases hb : decide (pn ∈ servedN gs tn) with
        | false =>
          rw [hb] at HC5
          clear hb
          go_wp2_with fail
          refine HC5.out.mono ?_
          rintro e w9 ⟨rfl, hw9⟩
          cases hw9
          have CI := Lib.hid (chokeServed_any A2 c2 os l (tn : Int) w5 PO5.out.ints HL.out (by omega))
          rw [served_nat HGO.out HTT.out] at CI
          obtain ⟨l7, HL7⟩ : ∃ v, Hid ((numZ (servedN os tn)).length = v) := ⟨_, rfl⟩
          have hl7 : l7 ≤ 4 := by rw [← HL7.out, numZ_length, served_length]; omega
          go_wp2_with fail
          refine CI.out.mono ?_
          rintro e w7 ⟨A7, c7, rfl, ho7, hb7⟩
          rw [HL7.out]
          have CH := hasL_any A7 c7 (numZ (servedN os tn)) (pn : Int) w7 ho7.ints (by rw [HL7.out]; unfold maxLen; omega)
          rw [HL7.out, has_num] at CH
          have HC7 := Lib.hid CH
          clear ho7 CH CI
          have HG7 := Lib.hid (HG5.out.below hb7)
          have HB7 : Hid (Below w.heap.size w w7) := HB5.out.trans (hb7.mono HB5.out.size)
          have PO7 := Lib.hid (PO5.out.below hb7)
          have PW7 := Lib.hid (PW5.out.below hb7)
          clear hb7
          cases hb : decide (pn ∈ servedN os tn) with
          | false =>
            rw [hb] at HC7
            clear hb
            go_wp2_with fail
            refine HC7.out.mono ?_
            rintro e w9 ⟨rfl, hw9⟩
            cases hw9
            go_wp2
            go_ret
            exact ⟨rfl, HB7.out⟩
          | true =>
            rw [hb] at HC7
            clear hb
            obtain ⟨u, HU⟩ : ∃ v, Hid (turnZ os tn = v) := ⟨_, rfl⟩
            go_wp2_with fail
            refine HC7.out.mono ?_
            rintro e w9 ⟨rfl, hw9⟩
            cases hw9
            have CT := Lib.hid (chokeTurn_any A2 c2 os l (tn : Int) w7 PO7.out.ints HL.out (by omega))
            rw [turnI_nat HGO.out HTT.out, HU.out] at CT
            go_wp2_with fail
            refine CT.out.mono ?_
            rintro e w8 ⟨rfl, hb8⟩
            clear CT
            have HG8 := Lib.hid (HG7.out.below hb8)
            have HB8 : Hid (Below w.heap.size w w8) := HB7.out.trans (hb8.mono HB7.out.size)
            have PO8 := Lib.hid (PO7.out.below hb8)
            have PW8 := Lib.hid (PW7.out.below hb8)
            clear hb8
            by_cases hup : u = (pn : Int)
            · have hun : (u != (pn : Int)) = false := by simp; omega
              have hue : (u == (pn : Int)) = true := by simp; omega
              go_wp2
              go_ret
              exact ⟨rfl, HB8.out⟩
            · have hun : (u != (pn : Int)) = true := by simp; omega
              have hue : (u == (pn : Int)) = false := by simp; omega
              go_wp2
              go_ret
              exact ⟨rfl, HB8.out⟩
        | true =>
          have HS1 := Lib.hid (of_decide_eq_true hb)
          rw [hb] at HC5
          clear hb
          obtain ⟨v, HV⟩ : ∃ v, Hid (turnZ gs tn = v) := ⟨_, rfl⟩
          go_wp2_with fail
          refine HC5.out.mono ?_
          rintro e w9 ⟨rfl, hw9⟩
          cases hw9
          have CT := Lib.hid (chokeTurn_any X c gs l (tn : Int) w5 HG5.out.ints HN.out (by omega))
          rw [turnI_nat HGG.out HTT.out, HV.out] at CT
          go_wp2_with fail
          refine CT.out.mono ?_
          rintro e w6 ⟨rfl, hb6⟩
          clear CT
          have HG6 := Lib.hid (HG5.out.below hb6)
          have HB6 : Hid (Below w.heap.size w w6) := HB5.out.trans (hb6.mono HB5.out.size)
          have PO6 := Lib.hid (PO5.out.below hb6)
          have PW6 := Lib.hid (PW5.out.below hb6)
          clear hb6
          by_cases hvp : v = (pn : Int)
          · have hvn : (v != (pn : Int)) = false := by simp; omega
            have hve : (v == (pn : Int)) = true := by simp; omega
            have CI := Lib.hid (chokeServed_any A2 c2 os l (tn : Int) w6 PO6.out.ints HL.out (by omega))
            rw [served_nat HGO.out HTT.out] at CI
            obtain ⟨l7, HL7⟩ : ∃ v, Hid ((numZ (servedN os tn)).length = v) := ⟨_, rfl⟩
            have hl7 : l7 ≤ 4 := by rw [← HL7.out, numZ_length, served_length]; omega
            go_wp2_with fail
            refine CI.out.mono ?_
            rintro e w7 ⟨A7, c7, rfl, ho7, hb7⟩
            rw [HL7.out]
            have CH := hasL_any A7 c7 (numZ (servedN os tn)) (pn : Int) w7 ho7.ints (by rw [HL7.out]; unfold maxLen; omega)
            rw [HL7.out, has_num] at CH
            have HC7 := Lib.hid CH
            clear ho7 CH CI
            have HG7 := Lib.hid (HG6.out.below hb7)
            have HB7 : Hid (Below w.heap.size w w7) := HB6.out.trans (hb7.mono HB6.out.size)
            have PO7 := Lib.hid (PO6.out.below hb7)
            have PW7 := Lib.hid (PW6.out.below hb7)
            clear hb7
            cases hb : decide (pn ∈ servedN os tn) with
            | false =>
              rw [hb] at HC7
              clear hb
              go_wp2_with fail
              refine HC7.out.mono ?_
              rintro e w9 ⟨rfl, hw9⟩
              cases hw9
              go_wp2
              go_ret
              exact ⟨rfl, HB7.out⟩
            | true =>
              rw [hb] at HC7
              clear hb
              obtain ⟨u, HU⟩ : ∃ v, Hid (turnZ os tn = v) := ⟨_, rfl⟩
              go_wp2_with fail
              refine HC7.out.mono ?_
              rintro e w9 ⟨rfl, hw9⟩
              cases hw9
              have CT := Lib.hid (chokeTurn_any A2 c2 os l (tn : Int) w7 PO7.out.ints HL.out (by omega))
              rw [turnI_nat HGO.out HTT.out, HU.out] at CT
              go_wp2_with fail
              refine CT.out.mono ?_
              rintro e w8 ⟨rfl, hb8⟩
              clear CT
              have HG8 := Lib.hid (HG7.out.below hb8)
              have HB8 : Hid (Below w.heap.size w w8) := HB7.out.trans (hb8.mono HB7.out.size)
              have PO8 := Lib.hid (PO7.out.below hb8)
              have PW8 := Lib.hid (PW7.out.below hb8)
              clear hb8
              by_cases hup : u = (pn : Int)
              · have hun : (u != (pn : Int)) = false := by simp; omega
                have hue : (u == (pn : Int)) = true := by simp; omega
                go_wp2
                go_ret
                exact ⟨rfl, HB8.out⟩
              · have hun : (u != (pn : Int)) = true := by simp; omega
                have hue : (u == (pn : Int)) = false := by simp; omega
                go_wp2
                go_ret
                exact ⟨rfl, HB8.out⟩
          · have HT1 : Hid (¬ turnZ gs tn = (pn : Int)) := by show ¬ _; rw [HV.out]; exact hvp
            have hvn : (v != (pn : Int)) = true := by simp; omega
            have hve : (v == (pn : Int)) = false := by simp; omega
            have CI := Lib.hid (chokeServed_any A2 c2 os l (tn : Int) w6 PO6.out.ints HL.out (by omega))
            rw [served_nat HGO.out HTT.out] at CI
            obtain ⟨l7, HL7⟩ : ∃ v, Hid ((numZ (servedN os tn)).length = v) := ⟨_, rfl⟩
            have hl7 : l7 ≤ 4 := by rw [← HL7.out, numZ_length, served_length]; omega
            go_wp2_with fail
            refine CI.out.mono ?_
            rintro e w7 ⟨A7, c7, rfl, ho7, hb7⟩
            rw [HL7.out]
            have CH := hasL_any A7 c7 (numZ (servedN os tn)) (pn : Int) w7 ho7.ints (by rw [HL7.out]; unfold maxLen; omega)
            rw [HL7.out, has_num] at CH
            have HC7 := Lib.hid CH
            clear ho7 CH CI
            have HG7 := Lib.hid (HG6.out.below hb7)
            have HB7 : Hid (Below w.heap.size w w7) := HB6.out.trans (hb7.mono HB6.out.size)
            have PO7 := Lib.hid (PO6.out.below hb7)
            have PW7 := Lib.hid (PW6.out.below hb7)
            clear hb7
            have hg := HGB.out HS1.out HT1.out
            rw [decide_eq_true hg.1] at HC7
            obtain ⟨u, HU⟩ : ∃ v, Hid (turnZ os tn = v) := ⟨_, rfl⟩
            have hup : ¬ u = (pn : Int) := by rw [← HU.out]; exact hg.2
            have hun : (u != (pn : Int)) = true := by simp; omega
            have hue : (u == (pn : Int)) = false := by simp; omega
            clear hg
            go_wp2_with fail
            refine HC7.out.mono ?_
            rintro e w9 ⟨rfl, hw9⟩
            cases hw9
            have CT := Lib.hid (chokeTurn_any A2 c2 os l (tn : Int) w7 PO7.out.ints HL.out (by omega))
            rw [turnI_nat HGO.out HTT.out, HU.out] at CT
            go_wp2_with fail
            refine CT.out.mono ?_
            rintro e w8 ⟨rfl, hb8⟩
            clear CT
            have HG8 := Lib.hid (HG7.out.below hb8)
            have HB8 : Hid (Below w.heap.size w w8) := HB7.out.trans (hb8.mono HB7.out.size)
            have PO8 := Lib.hid (PO7.out.below hb8)
            have PW8 := Lib.hid (PW7.out.below hb8)
            clear hb8
            go_wp2
            go_ret
            exact ⟨rfl, HB8.out⟩
    · have h9 : 1048576 < len1 := by omega
      clear hlen1
      go_enter Try.func10, Try.ntmps10
      go_wp2
      go_ret
      exact ⟨rfl, Below.refl _ _⟩
  · have h9 : 1048576 < len := by omega
    clear hlen
    go_enter Try.func10, Try.ntmps10
    go_wp2
    go_ret
    exact ⟨rfl, Below.refl _ _⟩

end Go.Proofs.Ytmlichpokjfnnaa
