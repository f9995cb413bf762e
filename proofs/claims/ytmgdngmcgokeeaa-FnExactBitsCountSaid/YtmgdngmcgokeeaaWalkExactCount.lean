/- The walk of FnExactBitsCount: it returns true and changes nothing that was there. Condition: the argument's cells lie in memory. -/
import Derived.Test.YtmgdngmcgokeeaaBitsCount
import Derived.Test.YtmgdngmcgokeeaaExactBools
namespace Go.Proofs.Ytmgdngmcgokeeaa
open Go.RowKit
set_option linter.unusedVariables false

theorem decb_self (l : List Bool) : decide (l = l) = true := by simp

set_option maxHeartbeats 4000000 in
set_option maxRecDepth 100000 in
theorem walkExactBitsCount (A : Option Addr) (cap : Nat) (zs : List Bool) (w : World) (hI : BoolsAt w w.heap.size A zs) (hm : zs.length ≤ maxLen) :
    Calls Try.prog 8 #[.slice A zs.length cap] w fun e w' => e = .returned (.bool true) ∧ Below w.heap.size w w' := by
  unfold maxLen at hm
  have HI := Lib.hid hI
  clear hI
  by_cases hlen : zs.length ≤ 1048576
  · have HL := Lib.hid hlen
    have HLM : Hid (zs.length ≤ maxLen) := by show _ ≤ _; unfold maxLen; omega
    obtain ⟨R, HR⟩ : ∃ R, Hid (countOr zs = R) := ⟨_, rfl⟩
    have hRR : (R != R) = false := by simp
    go_enter Try.func8, Try.ntmps8
    go_wp2_with fail
    refine (toBools_any A cap zs _ HI.out HL.out).mono ?_
    rintro e w1 ⟨rfl, hown1, hb1⟩
    have HO1 := Lib.hid hown1
    have HB1 := Lib.hid hb1
    clear hown1 hb1
    go_wp2_with fail
    refine (sbitsCount_any _ zs.length zs _ HO1.out.ints HLM.out).mono ?_
    rintro e w' ⟨rfl, rfl⟩
    rw [HR.out]
    go_wp2_with fail
    refine (toBools_any A cap zs _ (HI.out.belowS HB1.out) HL.out).mono ?_
    rintro e w3 ⟨rfl, hown3, hb3⟩
    have HO3 := Lib.hid hown3
    have HB3 : Hid (Below w.heap.size w w3) := HB1.out.trans (hb3.mono HB1.out.size)
    clear hown3 hb3
    go_wp2_with fail
    refine (bitsCount_any _ zs.length zs _ HO3.out.ints).mono ?_
    rintro e w4 ⟨rfl, hb4⟩
    rw [HR.out]
    have HO34 := Lib.hid (HO3.out.below hb4)
    have HB4 : Hid (Below w.heap.size w w4) := HB3.out.trans (hb4.mono HB3.out.size)
    clear hb4
    go_wp2_with fail
    refine (toBools_any A cap zs _ (HI.out.belowS HB4.out) HL.out).mono ?_
    rintro e w5 ⟨rfl, hown5, hb5⟩
    have HO5 := Lib.hid hown5
    have HO35 := Lib.hid (HO34.out.below hb5)
    have HB5 : Hid (Below w.heap.size w w5) := HB4.out.trans (hb5.mono HB4.out.size)
    clear hown5 hb5
    go_wp2_with fail
    refine (eqb_any _ zs.length zs _ zs.length zs _ HO35.out.ints HO5.out.ints HLM.out HLM.out).mono ?_
    rintro e w' ⟨rfl, q1, rfl⟩
    rw [decb_self]
    go_wp2
    go_ret
    exact ⟨rfl, below_drewN HB5.out _⟩
  · have h9 : 1048576 < zs.length := by omega
    clear hlen
    go_enter Try.func8, Try.ntmps8
    go_wp2
    go_ret
    exact ⟨rfl, Below.refl _ _⟩

end Go.Proofs.Ytmgdngmcgokeeaa
