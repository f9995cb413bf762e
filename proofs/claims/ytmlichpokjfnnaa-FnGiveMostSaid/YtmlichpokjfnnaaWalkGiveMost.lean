/- The walk of FnGiveMost: it returns true and changes nothing that was there. Condition: the codes' bytes lie in memory. -/
import Derived.Test.YtmlichpokjfnnaaServeLaws
import Derived.Test.YtmlichpokjfnnaaHas
import Derived.Test.YtmlichpokjfnnaaSame
import Derived.Test.YtmlichpokjfnnaaDrawChoke
import Derived.Test.YtmlichpokjfnnaaChokeGive
import Derived.Test.YtmlichpokjfnnaaSChokeGive
import Derived.Deep.DeepCutAuto
import Derived.Deep.LoopGhost
import Derived.Deep.RegionHeld3
namespace Go.Proofs.Ytmlichpokjfnnaa
open Go.RowKit
set_option linter.unusedVariables false

set_option maxHeartbeats 8000000 in
set_option maxRecDepth 100000 in
theorem walkGiveMost (A : Option Addr) (len cap : Nat) (w : World) (hI : In w A len cap) :
    Calls Try.prog 13 #[.slice A len cap] w fun e w' => e = .returned (.bool true) ∧ Below w.heap.size w w' := by
  have hm := hI.len_le
  unfold maxLen at hm
  have HI := Lib.hid hI
  clear hI
  by_cases hlen : len ≤ 1048576
  · go_enter Try.func13, Try.ntmps13
    go_wp2_with fail
    refine (drawChokeGive_any A len cap _ HI.out).mono ?_
    rintro e w1 ⟨X, c, gs, p, rfl, hl7, ht1, ht2, hg1, hb1⟩
    have HG1 := Lib.hid hg1
    have HB1 := Lib.hid hb1
    clear hg1 hb1
    obtain ⟨n, HN⟩ : ∃ v, Hid (gs.length = v) := ⟨_, rfl⟩
    rw [HN.out] at hl7
    obtain ⟨ok, HOK⟩ : ∃ v, Hid (giveB gs p = v) := ⟨_, rfl⟩
    obtain ⟨os, HOS⟩ : ∃ v, Hid (giveZ gs p = v) := ⟨_, rfl⟩
    obtain ⟨l, HL⟩ : ∃ v, Hid (os.length = v) := ⟨_, rfl⟩
    have hl7b : l ≤ 7 := by rw [← HL.out, ← HOS.out]; exact Nat.le_trans (give_len gs p) (by rw [HN.out]; exact hl7)
    have HLM : Hid (os.length ≤ maxLen) := by show _ ≤ _; rw [HL.out]; unfold maxLen; omega
    rw [HN.out]
    go_wp2_with fail
    have CI := Lib.hid (chokeGive_any X c gs n p w1 HG1.out.ints HN.out (by omega))
    rw [HOS.out, HOK.out] at CI
    refine CI.out.mono ?_
    rintro e w2 ⟨A2, c2, rfl, ho2, hb2⟩
    rw [HL.out]
    have PO2 := Lib.hid ho2
    clear ho2 CI
    have HG2 := Lib.hid (HG1.out.below hb2)
    have HB2 : Hid (Below w.heap.size w w2) := HB1.out.trans (hb2.mono HB1.out.size)
    clear hb2
    go_wp2_with fail
    have CI := Lib.hid (schokeGive_any X c gs n p w2 HG2.out.ints HN.out (by omega))
    rw [HOS.out, HOK.out] at CI
    refine CI.out.mono ?_
    rintro e w3 ⟨A3, c3, rfl, ho3, hb3⟩
    rw [HL.out]
    have PW3 := Lib.hid ho3
    clear ho3 CI
    have HG3 := Lib.hid (HG2.out.below hb3)
    have HB3 : Hid (Below w.heap.size w w3) := HB2.out.trans (hb3.mono HB2.out.size)
    have PO3 := Lib.hid (PO2.out.below hb3)
    clear hb3
    cases ok with
    | true =>
      go_wp2_with fail
      have CI := Lib.hid (same_any A2 c2 os A3 c3 os w3 PO3.out.ints PW3.out.ints HLM.out HLM.out)
      rw [HL.out] at CI
      refine CI.out.mono ?_
      rintro e w4 ⟨rfl, q, hq⟩
      have hb4 : Below w3.heap.size w3 w4 := by rw [hq]; exact below_drewN (Below.refl _ _) q
      clear hq CI
      rw [deci_same os]
      have HG4 := Lib.hid (HG3.out.below hb4)
      have HB4 : Hid (Below w.heap.size w w4) := HB3.out.trans (hb4.mono HB3.out.size)
      have PO4 := Lib.hid (PO3.out.below hb4)
      have PW4 := Lib.hid (PW3.out.below hb4)
      clear hb4
      go_wp2_with fail
      have CI := Lib.hid (same_any A2 c2 os A3 c3 os w4 PO4.out.ints PW4.out.ints HLM.out HLM.out)
      rw [HL.out] at CI
      refine CI.out.mono ?_
      rintro e w5 ⟨rfl, q, hq⟩
      have hb5 : Below w4.heap.size w4 w5 := by rw [hq]; exact below_drewN (Below.refl _ _) q
      clear hq CI
      rw [deci_same os]
      have HG5 := Lib.hid (HG4.out.below hb5)
      have HB5 : Hid (Below w.heap.size w w5) := HB4.out.trans (hb5.mono HB4.out.size)
      have PO5 := Lib.hid (PO4.out.below hb5)
      have PW5 := Lib.hid (PW4.out.below hb5)
      clear hb5
      go_wp2
      go_ret
      exact ⟨rfl, HB5.out⟩
    | false =>
      go_wp2_with fail
      have CI := Lib.hid (same_any A2 c2 os A3 c3 os w3 PO3.out.ints PW3.out.ints HLM.out HLM.out)
      rw [HL.out] at CI
      refine CI.out.mono ?_
      rintro e w4 ⟨rfl, q, hq⟩
      have hb4 : Below w3.heap.size w3 w4 := by rw [hq]; exact below_drewN (Below.refl _ _) q
      clear hq CI
      rw [deci_same os]
      have HG4 := Lib.hid (HG3.out.below hb4)
      have HB4 : Hid (Below w.heap.size w w4) := HB3.out.trans (hb4.mono HB3.out.size)
      have PO4 := Lib.hid (PO3.out.below hb4)
      have PW4 := Lib.hid (PW3.out.below hb4)
      clear hb4
      by_cases hl0 : l = 0
      · subst hl0
        go_wp2_with fail
        have CI := Lib.hid (same_any A2 c2 os A3 c3 os w4 PO4.out.ints PW4.out.ints HLM.out HLM.out)
        rw [HL.out] at CI
        refine CI.out.mono ?_
        rintro e w5 ⟨rfl, q, hq⟩
        have hb5 : Below w4.heap.size w4 w5 := by rw [hq]; exact below_drewN (Below.refl _ _) q
        clear hq CI
        rw [deci_same os]
        have HG5 := Lib.hid (HG4.out.below hb5)
        have HB5 : Hid (Below w.heap.size w w5) := HB4.out.trans (hb5.mono HB4.out.size)
        have PO5 := Lib.hid (PO4.out.below hb5)
        have PW5 := Lib.hid (PW4.out.below hb5)
        clear hb5
        go_wp2
        go_ret
        exact ⟨rfl, HB5.out⟩
      · have hok : okG gs = true ∧ peerB gs p = true := by
          by_cases h : okG gs = true ∧ peerB gs p = true
          · exact h
          · have := giveZ_no h; rw [HOS.out] at this; rw [this] at HL; exact absurd HL.out.symm hl0
        have hx9 : nth gs p.toNat = 99 := by
          by_cases h : nth gs p.toNat = 99
          · exact h
          · have := giveB_more hok.1 hok.2 h; rw [HOK.out] at this; cases this
        have hOE : os = gs := by rw [← HOS.out]; exact giveZ_full hok.1 hok.2 hx9
        have hpp := peerB_iff.1 hok.2
        obtain ⟨pn, rfl⟩ : ∃ q : Nat, p = (q : Int) := ⟨p.toNat, by omega⟩
        rw [Int.toNat_natCast] at hx9
        have hpn : pn < n := by have := hpp.2; rw [HN.out] at this; omega
        subst hOE
        have hln : l = n := by rw [← HL.out]; exact HN.out
        subst hln
        obtain ⟨gb, go, hXA, _, hgc⟩ := HG4.out.ints (by rw [HN.out]; omega)
        have hcp := hgc pn (by rw [HN.out]; exact hpn)
        rw [hx9] at hcp
        subst hXA
        have hpz : (pn : Int) < (l : Int) := by omega
        have hp0 : (0 : Int) ≤ (pn : Int) := by omega
        clear hok hx9 hpp hgc ht1 ht2
        go_wp2_with fail
        have CI := Lib.hid (same_any A2 c2 os (some ⟨gb, go, none⟩) c os w4 PO4.out.ints HG4.out.ints HLM.out HLM.out)
        rw [HL.out] at CI
        refine CI.out.mono ?_
        rintro e w5 ⟨rfl, q, hq⟩
        have hb5 : Below w4.heap.size w4 w5 := by rw [hq]; exact below_drewN (Below.refl _ _) q
        clear hq CI
        rw [deci_same os]
        have HG5 := Lib.hid (HG4.out.below hb5)
        have HB5 : Hid (Below w.heap.size w w5) := HB4.out.trans (hb5.mono HB4.out.size)
        have PO5 := Lib.hid (PO4.out.below hb5)
        have PW5 := Lib.hid (PW4.out.below hb5)
        clear hb5
        go_wp2
        go_ret
        exact ⟨rfl, HB5.out⟩
  · have h9 : 1048576 < len := by omega
    clear hlen
    go_enter Try.func13, Try.ntmps13
    go_wp2
    go_ret
    exact ⟨rfl, Below.refl _ _⟩

end Go.Proofs.Ytmlichpokjfnnaa
