/- The walk of FnRareCount: it returns true and changes nothing that was there. Condition: the codes' bytes lie in memory. -/
import Derived.Test.YtgjnhfciphiciaaRareLaws
import Derived.Test.YtgjnhfciphiciaaHolders
import Derived.Test.YtgjnhfciphiciaaSame
import Derived.Test.YtgjnhfciphiciaaDrawPeers
namespace Go.Proofs.Ytgjnhfciphiciaa
open Go.RowKit
set_option linter.unusedVariables false

set_option maxHeartbeats 8000000 in
set_option maxRecDepth 100000 in
theorem walkRareCount (A : Option Addr) (len cap : Nat) (w : World) (hI : In w A len cap) :
    Calls Try.prog 3 #[.slice A len cap] w fun e w' => e = .returned (.bool true) ∧ Below w.heap.size w w' := by
  have hm := hI.len_le
  unfold maxLen at hm
  have HI := Lib.hid hI
  clear hI
  by_cases hlen : len ≤ 1048576
  · go_enter Try.func3, Try.ntmps3
    go_wp2_with fail
    refine (drawRareCount_any A len cap _ HI.out).mono ?_
    rintro e w1 ⟨X, c, hs, b0, rfl, hl7, hb100, hb200, hp1, hb1⟩
    have PP1 := Lib.hid hp1
    have HB1 := Lib.hid hb1
    clear hp1 hb1
    obtain ⟨n, HN⟩ : ∃ v, Hid (hs.length = v) := ⟨_, rfl⟩
    rw [HN.out] at hl7
    rw [HN.out]
    obtain ⟨v, HV⟩ : ∃ v, Hid (countZ (pz hs) b0 = v) := ⟨_, rfl⟩
    go_wp2_with fail
    have CI := Lib.hid (count_any X c hs b0 w1 _ PP1.out)
    rw [HN.out, HV.out] at CI
    refine CI.out.mono ?_
    rintro e w1 ⟨rfl, rfl⟩
    clear CI
    go_wp2_with fail
    have CI := Lib.hid (srareCount_any X c hs b0 w1 _ PP1.out)
    rw [HN.out, HV.out] at CI
    refine CI.out.mono ?_
    rintro e w1 ⟨rfl, rfl⟩
    clear CI
    have hne : (v != v) = false := by simp
    have heq : (v == v) = true := by simp
    by_cases hv0 : v < 0
    · go_wp2
      go_ret
      exact ⟨rfl, HB1.out⟩
    · obtain ⟨hok, hb0, hb16⟩ : okP (pz hs) = true ∧ 0 ≤ b0 ∧ b0 < 16 := by
        by_cases h : okP (pz hs) = true ∧ 0 ≤ b0 ∧ b0 < 16
        · exact h
        · have := HV.out; rw [countZ_no h] at this; omega
      obtain ⟨k, rfl⟩ : ∃ k : Nat, b0 = (k : Int) := ⟨b0.toNat, by omega⟩
      have HE : Hid (((cntB (pz hs) k : Nat) : Int) = v) := by show _ = _; rw [← HV.out, countZ_nat hok (by omega)]
      clear hok hb0 hb100 hb200
      go_wp2_with fail
      have CI := Lib.hid (holders_any X c k hs w1 _ PP1.out)
      rw [HN.out, HE.out] at CI
      refine CI.out.mono ?_
      rintro e w1 ⟨rfl, rfl⟩
      clear CI
      go_wp2
      go_ret
      exact ⟨rfl, HB1.out⟩
  · have h9 : 1048576 < len := by omega
    clear hlen
    go_enter Try.func3, Try.ntmps3
    go_wp2
    go_ret
    exact ⟨rfl, Below.refl _ _⟩

end Go.Proofs.Ytgjnhfciphiciaa
