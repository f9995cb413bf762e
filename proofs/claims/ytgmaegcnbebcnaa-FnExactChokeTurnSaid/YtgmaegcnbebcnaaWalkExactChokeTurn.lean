/- The walk of FnExactChokeTurn: it returns true and changes nothing that was there. Condition: the argument's cells lie in memory. -/
import Derived.Test.YtgmaegcnbebcnaaChoke
import Derived.Test.YtgmaegcnbebcnaaSChokeMore
import Derived.Test.YtgmaegcnbebcnaaBaseD
namespace Go.Proofs.Ytgmaegcnbebcnaa
open Go.RowKit
set_option linter.unusedVariables false

set_option maxHeartbeats 8000000 in
set_option maxRecDepth 100000 in
theorem walkExactChokeTurn (A : Option Addr) (cap : Nat) (xs : List Int) (t : Int) (w : World) (hI : IntsAt w w.heap.size A xs) (hm : xs.length ≤ maxLen) :
    Calls Try.prog 4 #[.slice A xs.length cap, .int .i64 t] w fun e w' => e = .returned (.bool true) ∧ Below w.heap.size w w' := by
  unfold maxLen at hm
  have HI := Lib.hid hI
  clear hI
  by_cases hlen : xs.length ≤ 1048576
  · have HL := Lib.hid hlen
    have HLM : Hid (xs.length ≤ maxLen) := by show _ ≤ _; unfold maxLen; omega
    obtain ⟨v, HV⟩ : ∃ v, Hid (turnI xs t = v) := ⟨_, rfl⟩
    have hne : (v != v) = false := by simp
    have heq : (v == v) = true := by simp
    go_enter Try.func4, Try.ntmps4
    go_wp2_with fail
    refine (toInts_any A cap xs _ HI.out HL.out).mono ?_
    rintro e w1 ⟨rfl, ho1, hb1⟩
    have HX1 := Lib.hid ho1
    have HB1 := Lib.hid hb1
    clear ho1 hb1
    have C1 := Lib.hid (schokeTurn_any _ xs.length xs xs.length t _ HX1.out.ints rfl HL.out)
    rw [HV.out] at C1
    go_wp2_with fail
    refine C1.out.mono ?_
    rintro e w3 ⟨rfl, hb3⟩
    have HB3 : Hid (Below w.heap.size w w3) := HB1.out.trans (hb3.mono HB1.out.size)
    clear hb3 HX1 C1
    go_wp2_with fail
    refine (toInts_any A cap xs _ (HI.out.belowS HB3.out) HL.out).mono ?_
    rintro e w4 ⟨rfl, ho4, hb4⟩
    have HX4 := Lib.hid ho4
    have HB4 : Hid (Below w.heap.size w w4) := HB3.out.trans (hb4.mono HB3.out.size)
    clear ho4 hb4
    have C4 := Lib.hid (chokeTurn_any _ xs.length xs xs.length t _ HX4.out.ints rfl HL.out)
    rw [HV.out] at C4
    go_wp2_with fail
    refine C4.out.mono ?_
    rintro e w6 ⟨rfl, hb6⟩
    have HX6 := Lib.hid (HX4.out.below hb6)
    have HB6 : Hid (Below w.heap.size w w6) := HB4.out.trans (hb6.mono HB4.out.size)
    clear hb6 C4
    go_wp2_with fail
    refine (toInts_any A cap xs _ (HI.out.belowS HB6.out) HL.out).mono ?_
    rintro e w7 ⟨rfl, ho7, hb7⟩
    have HT7 := Lib.hid ho7
    have HX7 := Lib.hid (HX6.out.below hb7)
    have HB7 : Hid (Below w.heap.size w w7) := HB6.out.trans (hb7.mono HB6.out.size)
    clear ho7 hb7
    go_wp2_with fail
    refine (eqi_any _ xs.length xs _ xs.length xs _ HX7.out.ints HT7.out.ints HLM.out HLM.out).mono ?_
    rintro e w' ⟨rfl, q2, rfl⟩
    rw [deci_same]
    go_wp2
    go_ret
    exact ⟨rfl, below_drewN HB7.out q2⟩
  · have h9 : 1048576 < xs.length := by omega
    clear hlen
    go_enter Try.func4, Try.ntmps4
    go_wp2
    go_ret
    exact ⟨rfl, Below.refl _ _⟩

end Go.Proofs.Ytgmaegcnbebcnaa
