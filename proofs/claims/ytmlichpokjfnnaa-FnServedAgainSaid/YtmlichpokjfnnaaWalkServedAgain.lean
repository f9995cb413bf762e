/- The walk of FnServedAgain: it returns true and changes nothing that was there. Condition: the codes' bytes lie in memory. -/
import Derived.Test.YtmlichpokjfnnaaServeLaws
import Derived.Test.YtmlichpokjfnnaaHas
import Derived.Test.YtmlichpokjfnnaaSame
import Derived.Test.YtmlichpokjfnnaaDrawChoke
import Derived.Test.YtmlichpokjfnnaaChoke
import Derived.Test.YtmlichpokjfnnaaSChokeMore
import Derived.Deep.DeepCutAuto
import Derived.Deep.LoopGhost
import Derived.Deep.RegionHeld3
namespace Go.Proofs.Ytmlichpokjfnnaa
open Go.RowKit
set_option linter.unusedVariables false

set_option maxHeartbeats 8000000 in
set_option maxRecDepth 100000 in
theorem walkServedAgain (A : Option Addr) (len cap : Nat) (w : World) (hI : In w A len cap) :
    Calls Try.prog 14 #[.slice A len cap] w fun e w' => e = .returned (.bool true) ∧ Below w.heap.size w w' := by
  have hm := hI.len_le
  unfold maxLen at hm
  have HI := Lib.hid hI
  clear hI
  by_cases hlen : len ≤ 1048576
  · go_enter Try.func14, Try.ntmps14
    go_wp2_with fail
    refine (drawChokeServed_any A len cap _ HI.out).mono ?_
    rintro e w1 ⟨X, c, gs, t, rfl, hl7, ht1, ht2, hg1, hb1⟩
    have HG1 := Lib.hid hg1
    have HB1 := Lib.hid hb1
    clear hg1 hb1
    obtain ⟨n, HN⟩ : ∃ v, Hid (gs.length = v) := ⟨_, rfl⟩
    rw [HN.out] at hl7
    obtain ⟨os, HOS⟩ : ∃ v, Hid (servedZ gs t = v) := ⟨_, rfl⟩
    obtain ⟨l, HL⟩ : ∃ v, Hid (os.length = v) := ⟨_, rfl⟩
    have hl7b : l ≤ 4 := by rw [← HL.out, ← HOS.out]; exact servedZ_len gs t
    have HLM : Hid (os.length ≤ maxLen) := by show _ ≤ _; rw [HL.out]; unfold maxLen; omega
    rw [HN.out]
    go_wp2_with fail
    have CI := Lib.hid (chokeServed_any X c gs n t w1 HG1.out.ints HN.out (by omega))
    rw [HOS.out] at CI
    refine CI.out.mono ?_
    rintro e w2 ⟨A2, c2, rfl, ho2, hb2⟩
    rw [HL.out]
    have PO2 := Lib.hid ho2
    clear ho2 CI
    have HG2 := Lib.hid (HG1.out.below hb2)
    have HB2 : Hid (Below w.heap.size w w2) := HB1.out.trans (hb2.mono HB1.out.size)
    clear hb2
    go_wp2_with fail
    have CI := Lib.hid (schokeServed_any X c gs n t w2 HG2.out.ints HN.out (by omega))
    rw [HOS.out] at CI
    refine CI.out.mono ?_
    rintro e w3 ⟨A3, c3, rfl, ho3, hb3⟩
    rw [HL.out]
    have PW3 := Lib.hid ho3
    clear ho3 CI
    have HG3 := Lib.hid (HG2.out.below hb3)
    have HB3 : Hid (Below w.heap.size w w3) := HB2.out.trans (hb3.mono HB2.out.size)
    have PO3 := Lib.hid (PO2.out.below hb3)
    clear hb3
    go_wp2_with fail
    have CI := Lib.hid (same_any A2 c2 os A3 c3 os w3 PO3.out.ints PW3.out.ints HLM.out HLM.out)
    rw [HL.out] at CI
    refine CI.out.mono ?_
    rintro e w4 ⟨rfl, q, hq⟩
    have hb4 : Below w3.heap.size w3 w4 := by rw [hq]; exact below_drewN (Below.refl _ _) q
    clear hq CI
    rw [deci_same os]
    have HG4 := Lib.hid (HG3.out.below hb4)
    have HB4 : Hid (Below w.heap.size w w4) := HB3.out.trans (hb4.mono HB3.out.size)
    have PO4 := Lib.hid (PO3.out.below hb4)
    have PW4 := Lib.hid (PW3.out.below hb4)
    clear hb4
    by_cases hn3 : n ≤ 3
    · have hn3z : (n : Int) ≤ 3 := by omega
      go_wp2_with fail
      have CI := Lib.hid (same_any A2 c2 os A3 c3 os w4 PO4.out.ints PW4.out.ints HLM.out HLM.out)
      rw [HL.out] at CI
      refine CI.out.mono ?_
      rintro e w5 ⟨rfl, q, hq⟩
      have hb5 : Below w4.heap.size w4 w5 := by rw [hq]; exact below_drewN (Below.refl _ _) q
      clear hq CI
      rw [deci_same os]
      have HG5 := Lib.hid (HG4.out.below hb5)
      have HB5 : Hid (Below w.heap.size w w5) := HB4.out.trans (hb5.mono HB4.out.size)
      have PO5 := Lib.hid (PO4.out.below hb5)
      have PW5 := Lib.hid (PW4.out.below hb5)
      clear hb5
      go_wp2
      go_ret
      exact ⟨rfl, HB5.out⟩
    · have hn3z : ¬ (n : Int) ≤ 3 := by omega
      by_cases hl0 : l = 0
      · subst hl0
        go_wp2_with fail
        have CI := Lib.hid (same_any A2 c2 os A3 c3 os w4 PO4.out.ints PW4.out.ints HLM.out HLM.out)
        rw [HL.out] at CI
        refine CI.out.mono ?_
        rintro e w5 ⟨rfl, q, hq⟩
        have hb5 : Below w4.heap.size w4 w5 := by rw [hq]; exact below_drewN (Below.refl _ _) q
        clear hq CI
        rw [deci_same os]
        have HG5 := Lib.hid (HG4.out.below hb5)
        have HB5 : Hid (Below w.heap.size w w5) := HB4.out.trans (hb5.mono HB4.out.size)
        have PO5 := Lib.hid (PO4.out.below hb5)
        have PW5 := Lib.hid (PW4.out.below hb5)
        clear hb5
        go_wp2
        go_ret
        exact ⟨rfl, HB5.out⟩
      · have hlz : ((l : Int) == 0) = false := by simp; omega
        have hlz2 : ¬ (l : Int) = 0 := by omega
        obtain ⟨hG, hT⟩ := servedZ_some (gs := gs) (t := t) (by rw [HOS.out, HL.out]; omega)
        obtain ⟨tn, rfl⟩ : ∃ q : Nat, t = (q : Int) := ⟨t.toNat, by have := okT_iff.1 hT; omega⟩
        have HOE : Hid (os = numZ (servedN gs tn)) := by show _ = _; rw [← HOS.out]; exact served_nat hG hT
        have HSL : Hid ((servedN gs tn).length = l) := by show _ = _; rw [← numZ_length, ← HOE.out]; exact HL.out
        have hn6 : n ≤ 6 := by rw [← HN.out]; exact (okG_iff.1 hG).1
        have ht9 : tn ≤ 999 := by have := okT_iff.1 hT; omega
        have HGG := Lib.hid hG
        have HTT := Lib.hid hT
        clear hG hT ht1 ht2
        have hsub : (n : Int) - 3 = ((n - 3 : Nat) : Int) := by omega
        obtain ⟨m, HM⟩ : ∃ v, Hid (n - 3 = v) := ⟨_, rfl⟩
        rw [HM.out] at hsub
        have hm6 : m ≤ 6 := by rw [← HM.out]; omega
        have hwm : IntKind.i64.wrap (m : Int) = (m : Int) := IntWalk.i64_in _ (by omega)
        have hws : IntKind.i64.wrap ((tn : Int) + (m : Int)) = (tn : Int) + (m : Int) := IntWalk.i64_in _ (by omega)
        by_cases h999 : 999 < tn + m
        · have h9z : (999 : Int) < (tn : Int) + (m : Int) := by omega
          go_wp2
          go_ret
          exact ⟨rfl, HB4.out⟩
        · have h9z : ¬ (999 : Int) < (tn : Int) + (m : Int) := by omega
          have hE : servedZ gs ((tn : Int) + (m : Int)) = os := by
            have e : (tn : Int) + (m : Int) = ((tn + m : Nat) : Int) := by omega
            rw [e, served_nat HGG.out (okT_iff.2 ⟨by omega, by omega⟩), ← HM.out, ← HN.out, served_again tn (by rw [HN.out]; omega), HOE.out]
          have HE := Lib.hid hE
          clear hE
          go_wp2_with fail
          have CI := Lib.hid (chokeServed_any X c gs n ((tn : Int) + (m : Int)) w4 HG4.out.ints HN.out (by omega))
          rw [HE.out] at CI
          refine CI.out.mono ?_
          rintro e w5 ⟨A5, c5, rfl, ho5, hb5⟩
          rw [HL.out]
          have PN5 := Lib.hid ho5
          clear ho5 CI
          have HG5 := Lib.hid (HG4.out.below hb5)
          have HB5 : Hid (Below w.heap.size w w5) := HB4.out.trans (hb5.mono HB4.out.size)
          have PO5 := Lib.hid (PO4.out.below hb5)
          have PW5 := Lib.hid (PW4.out.below hb5)
          clear hb5
          go_wp2_with fail
          have CI := Lib.hid (same_any A5 c5 os A2 c2 os w5 PN5.out.ints PO5.out.ints HLM.out HLM.out)
          rw [HL.out] at CI
          refine CI.out.mono ?_
          rintro e w6 ⟨rfl, q, hq⟩
          have hb6 : Below w5.heap.size w5 w6 := by rw [hq]; exact below_drewN (Below.refl _ _) q
          clear hq CI
          rw [deci_same os]
          have HG6 := Lib.hid (HG5.out.below hb6)
          have HB6 : Hid (Below w.heap.size w w6) := HB5.out.trans (hb6.mono HB5.out.size)
          have PO6 := Lib.hid (PO5.out.below hb6)
          have PW6 := Lib.hid (PW5.out.below hb6)
          have PN6 := Lib.hid (PN5.out.below hb6)
          clear hb6
          go_wp2
          go_ret
          exact ⟨rfl, HB6.out⟩
  · have h9 : 1048576 < len := by omega
    clear hlen
    go_enter Try.func14, Try.ntmps14
    go_wp2
    go_ret
    exact ⟨rfl, Below.refl _ _⟩

end Go.Proofs.Ytmlichpokjfnnaa
