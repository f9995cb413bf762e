/- The walk of FnTurnAgain: it returns true and changes nothing that was there. Condition: the codes' bytes lie in memory. -/
import Derived.Test.YtmlichpokjfnnaaServeLaws
import Derived.Test.YtmlichpokjfnnaaHas
import Derived.Test.YtmlichpokjfnnaaSame
import Derived.Test.YtmlichpokjfnnaaDrawChoke
import Derived.Test.YtmlichpokjfnnaaChoke
import Derived.Test.YtmlichpokjfnnaaSChokeMore
import Derived.Deep.DeepCutAuto
import Derived.Deep.LoopGhost
import Derived.Deep.RegionHeld3
namespace Go.Proofs.Ytmlichpokjfnnaa
open Go.RowKit
set_option linter.unusedVariables false

set_option maxHeartbeats 8000000 in
set_option maxRecDepth 100000 in
theorem walkTurnAgain (A : Option Addr) (len cap : Nat) (w : World) (hI : In w A len cap) :
    Calls Try.prog 8 #[.slice A len cap] w fun e w' => e = .returned (.bool true) ∧ Below w.heap.size w w' := by
  have hm := hI.len_le
  unfold maxLen at hm
  have HI := Lib.hid hI
  clear hI
  by_cases hlen : len ≤ 1048576
  · go_enter Try.func8, Try.ntmps8
    go_wp2_with fail
    refine (drawChokeTurn_any A len cap _ HI.out).mono ?_
    rintro e w1 ⟨X, c, gs, t, rfl, hl7, ht1, ht2, hg1, hb1⟩
    have HG1 := Lib.hid hg1
    have HB1 := Lib.hid hb1
    clear hg1 hb1
    obtain ⟨n, HN⟩ : ∃ v, Hid (gs.length = v) := ⟨_, rfl⟩
    rw [HN.out] at hl7
    obtain ⟨v, HV⟩ : ∃ v, Hid (turnI gs t = v) := ⟨_, rfl⟩
    rw [HN.out]
    go_wp2_with fail
    have CI := Lib.hid (chokeTurn_any X c gs n t w1 HG1.out.ints HN.out (by omega))
    rw [HV.out] at CI
    refine CI.out.mono ?_
    rintro e w2 ⟨rfl, hb2⟩
    clear CI
    have HG2 := Lib.hid (HG1.out.below hb2)
    have HB2 : Hid (Below w.heap.size w w2) := HB1.out.trans (hb2.mono HB1.out.size)
    clear hb2
    go_wp2_with fail
    have CI := Lib.hid (schokeTurn_any X c gs n t w2 HG2.out.ints HN.out (by omega))
    rw [HV.out] at CI
    refine CI.out.mono ?_
    rintro e w3 ⟨rfl, hb3⟩
    clear CI
    have HG3 := Lib.hid (HG2.out.below hb3)
    have HB3 : Hid (Below w.heap.size w w3) := HB2.out.trans (hb3.mono HB2.out.size)
    clear hb3
    have hne : (v != v) = false := by simp
    have heq : (v == v) = true := by simp
    by_cases hv0 : v < 0
    · go_wp2
      go_ret
      exact ⟨rfl, HB3.out⟩
    · obtain ⟨hG, hT⟩ := turnI_some (gs := gs) (t := t) (by rw [HV.out]; omega)
      obtain ⟨tn, rfl⟩ : ∃ q : Nat, t = (q : Int) := ⟨t.toNat, by have := okT_iff.1 hT; omega⟩
      have hn6 : n ≤ 6 := by rw [← HN.out]; exact (okG_iff.1 hG).1
      have ht9 : tn ≤ 999 := by have := okT_iff.1 hT; omega
      have hvt : turnZ gs tn = v := by rw [← turnI_nat hG hT]; exact HV.out
      have hn3 : 3 < n := by
        by_cases h : gs.length ≤ 3
        · have := turn_none h tn; omega
        · rw [← HN.out]; omega
      have hsub : (n : Int) - 3 = ((n - 3 : Nat) : Int) := by omega
      obtain ⟨m, HM⟩ : ∃ v, Hid (n - 3 = v) := ⟨_, rfl⟩
      rw [HM.out] at hsub
      have hm6 : m ≤ 6 := by rw [← HM.out]; omega
      have hwm : IntKind.i64.wrap (m : Int) = (m : Int) := IntWalk.i64_in _ (by omega)
      have hws : IntKind.i64.wrap ((tn : Int) + (m : Int)) = (tn : Int) + (m : Int) := IntWalk.i64_in _ (by omega)
      have HGG := Lib.hid hG
      have HVT := Lib.hid hvt
      clear hG hT ht1 ht2 hvt
      by_cases h999 : 999 < tn + m
      · have h9z : (999 : Int) < (tn : Int) + (m : Int) := by omega
        go_wp2
        go_ret
        exact ⟨rfl, HB3.out⟩
      · have h9z : ¬ (999 : Int) < (tn : Int) + (m : Int) := by omega
        have hE : turnI gs ((tn : Int) + (m : Int)) = v := by
          have e : (tn : Int) + (m : Int) = ((tn + m : Nat) : Int) := by omega
          rw [e, turnI_nat HGG.out (okT_iff.2 ⟨by omega, by omega⟩), ← HM.out, ← HN.out, turn_again tn (by rw [HN.out]; omega), HVT.out]
        have HE := Lib.hid hE
        clear hE
        go_wp2_with fail
        have CI := Lib.hid (chokeTurn_any X c gs n ((tn : Int) + (m : Int)) w3 HG3.out.ints HN.out (by omega))
        rw [HE.out] at CI
        refine CI.out.mono ?_
        rintro e w4 ⟨rfl, hb4⟩
        clear CI
        have HG4 := Lib.hid (HG3.out.below hb4)
        have HB4 : Hid (Below w.heap.size w w4) := HB3.out.trans (hb4.mono HB3.out.size)
        clear hb4
        go_wp2
        go_ret
        exact ⟨rfl, HB4.out⟩
  · have h9 : 1048576 < len := by omega
    clear hlen
    go_enter Try.func8, Try.ntmps8
    go_wp2
    go_ret
    exact ⟨rfl, Below.refl _ _⟩

end Go.Proofs.Ytmlichpokjfnnaa
