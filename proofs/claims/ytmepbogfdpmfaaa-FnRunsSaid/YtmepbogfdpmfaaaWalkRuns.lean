/- The walk of FnRuns: it returns true and changes nothing that was there. Condition: the code's bytes lie in memory. -/
import Derived.Test.YtmepbogfdpmfaaaSpecBitsOf
import Derived.Test.YtmepbogfdpmfaaaDrawBits
import Derived.Test.YtmepbogfdpmfaaaExactKeep
import Derived.Test.YtmepbogfdpmfaaaSame
import Derived.Test.YtmepbogfdpmfaaaSameBools
namespace Go.Proofs.Ytmepbogfdpmfaaa
open Go.RowKit
set_option linter.unusedVariables false

set_option maxHeartbeats 4000000 in
set_option maxRecDepth 100000 in
theorem walkRuns (A : Option Addr) (len cap : Nat) (w : World) (hI : In w A len cap) :
    Calls Try.prog 3 #[.slice A len cap] w fun e w' => e = .returned (.bool true) ∧ Below w.heap.size w w' := by
  have hm := hI.len_le
  unfold maxLen at hm
  have HI := Lib.hid hI
  clear hI
  by_cases hlen : len ≤ 1048576
  · go_enter Try.func3, Try.ntmps3
    go_wp2_with fail
    refine (drawruns_any A len cap _ HI.out).mono ?_
    rintro e w1 ⟨b, c, bs, rfl, hz18, hown1, hb1⟩
    have HO1 := Lib.hid hown1
    have HB1 := Lib.hid hb1
    have HLM : Hid (bs.length ≤ maxLen) := by show _ ≤ _; unfold maxLen; omega
    clear hown1 hb1
    go_wp2_with fail
    refine (bitsRuns_any _ c bs _ HO1.out.ints).mono ?_
    rintro e w2 ⟨A2, c2, rfl, hown2, hb2⟩
    have HG2 := Lib.hid hown2
    have HO2 := Lib.hid (HO1.out.below hb2)
    have HB2 : Hid (Below w.heap.size w w2) := HB1.out.trans (hb2.mono HB1.out.size)
    clear hown2 hb2
    go_wp2_with fail
    refine (sbitsRuns_any _ c bs _ HO2.out.ints HLM.out).mono ?_
    rintro e w3 ⟨A3, c3, rfl, hown3, hb3⟩
    have HS3 := Lib.hid hown3
    have HG3 := Lib.hid (HG2.out.below hb3)
    have HO3 := Lib.hid (HO2.out.below hb3)
    have HB3 : Hid (Below w.heap.size w w3) := HB2.out.trans (hb3.mono HB2.out.size)
    clear hown3 hb3
    have HRM : Hid ((runsOr bs).length ≤ maxLen) := by show _ ≤ _; have := runsOr_short bs; unfold maxLen; omega
    go_wp2_with fail
    refine (same_any A2 c2 _ A3 c3 _ _ HG3.out.ints HS3.out.ints HRM.out HRM.out).mono ?_
    rintro e w' ⟨rfl, q, rfl⟩
    rw [deci_same]
    by_cases h16 : bs.length ≤ 16
    · have hdx : decide (16 < bs.length) = false := by simp; omega
      have htold := runs_told bs
      have hgood := told_good htold h16 (runsInts bs).length (Nat.le_refl _)
      have hbits : bitsOr (runsInts bs) = bs := by rw [bitsOr_yes hgood]; exact htold.bits
      have HRY : Hid (runsOr bs = runsInts bs) := runsOr_yes h16
      have hcall := bitsOf_any A2 c2 (runsOr bs) _ HRM.out (HG3.out.drewN q).ints
      rw [HRY.out, hgood, hbits, ← HRY.out] at hcall
      have HCALL := Lib.hid hcall
      clear hcall hgood hbits htold
      go_wp2_with fail
      refine HCALL.out.mono ?_
      rintro e w4 ⟨A4, c4, rfl, hown4, hb4⟩
      have HO4 := Lib.hid hown4
      have HO34 := Lib.hid ((HO3.out.drewN q).below hb4)
      have HB4 : Hid (Below w.heap.size w w4) := HB3.out.trans ((below_drewN_l hb4).mono HB3.out.size)
      clear hown4 hb4
      go_wp2_with fail
      refine (sameb_any A4 c4 _ _ c _ _ HO4.out.ints HO34.out.ints HLM.out HLM.out).mono ?_
      rintro e w' ⟨rfl, q1, rfl⟩
      rw [decb_same]
      go_wp2
      go_ret
      exact ⟨rfl, below_drewN HB4.out _⟩
    · have hdx : decide (16 < bs.length) = true := by simp; omega
      go_wp2_with fail
      refine (same_any A2 c2 _ A3 c3 _ _ (HG3.out.drewN q).ints (HS3.out.drewN q).ints HRM.out HRM.out).mono ?_
      rintro e w' ⟨rfl, q1, rfl⟩
      rw [deci_same]
      go_wp2
      go_ret
      exact ⟨rfl, below_drewN HB3.out _⟩
  · have h9 : 1048576 < len := by omega
    clear hlen
    go_enter Try.func3, Try.ntmps3
    go_wp2
    go_ret
    exact ⟨rfl, Below.refl _ _⟩

end Go.Proofs.Ytmepbogfdpmfaaa
