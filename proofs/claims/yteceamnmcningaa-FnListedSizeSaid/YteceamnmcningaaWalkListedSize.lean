/- The walk of FnListedSize: it returns true and changes nothing that was there. Condition: the code's bytes lie in memory. -/
import Derived.Test.YteceamnmcningaaDrawDir2
import Derived.Test.YteceamnmcningaaDir
import Derived.Test.YteceamnmcningaaDirLaws
import Derived.Deep.DeepCutAuto
import Derived.Deep.RegionHeld3
import Derived.BigQuiet
import Derived.Deep.QuietTactic
namespace Go.Proofs.Yteceamnmcningaa
open Go.RowKit
set_option linter.unusedVariables false

set_option maxHeartbeats 8000000 in
set_option maxRecDepth 100000 in
theorem walkListedSize (A : Option Addr) (len cap : Nat) (w : World) (hI : In w A len cap) :
    Calls Try.prog 12 #[.slice A len cap] w fun e w' => e = .returned (.bool true) ∧ Below w.heap.size w w' := by
  have hm := hI.len_le
  unfold maxLen at hm
  have HI := Lib.hid hI
  clear hI
  by_cases hlen : len ≤ 1048576
  · go_enter Try.func12, Try.ntmps12
    go_wp2_with fail
    refine (drawLPut_any A len cap _ HI.out).mono ?_
    rintro e w1 ⟨X, c, xs, node, now, rfl, ho, hl, hna, hnw, hb1⟩
    have PF1 := Lib.hid ho
    have HB1 := Lib.hid hb1
    clear ho hb1
    obtain ⟨nb, HN⟩ : ∃ v, Hid (xs.length = v) := ⟨_, rfl⟩
    rw [HN.out] at hl ⊢
    obtain ⟨os, HO⟩ : ∃ v, Hid (putL xs node now = v) := ⟨_, rfl⟩
    obtain ⟨ov, HV⟩ : ∃ v, Hid (putO xs node now = v) := ⟨_, rfl⟩
    obtain ⟨mb, HM⟩ : ∃ v, Hid (os.length = v) := ⟨_, rfl⟩
    have CI := Lib.hid (dirPut_any X c xs node now w1 (own_lis PF1.out) HN.out)
    rw [HO.out, HV.out] at CI
    go_wp2_with fail
    refine CI.out.mono ?_
    rintro e w2 ⟨A3, c3, rfl, ho, hb⟩
    clear CI
    rw [HM.out]
    have PF2 := Lib.hid (PF1.out.below hb)
    have HB2 : Hid (Below w.heap.size w w2) := HB1.out.trans (hb.mono HB1.out.size)
    clear hb
    have PO2 := Lib.hid ho
    clear ho
    have CI := Lib.hid (sdirPut_any X c xs node now w2 (own_lis PF2.out) HN.out)
    rw [HO.out, HV.out] at CI
    go_wp2_with fail
    refine CI.out.mono ?_
    rintro e w3 ⟨A4, c4, rfl, ho, hb⟩
    clear CI
    rw [HM.out]
    have PF3 := Lib.hid (PF2.out.below hb)
    have PO3 := Lib.hid (PO2.out.below hb)
    have HB3 : Hid (Below w.heap.size w w3) := HB2.out.trans (hb.mono HB2.out.size)
    clear hb
    have PW3 := Lib.hid ho
    clear ho
    have hne : (ov != ov) = false := by simp
    have heq : (ov == ov) = true := by simp
    have CI := Lib.hid (sameLis_any A3 c3 A4 c4 os w3 (own_lis PO3.out) (own_lis PW3.out) HM.out)
    go_wp2_with fail
    refine CI.out.mono ?_
    rintro e w4 ⟨rfl, hb⟩
    clear CI
    have PF4 := Lib.hid (PF3.out.below hb)
    have PO4 := Lib.hid (PO3.out.below hb)
    have PW4 := Lib.hid (PW3.out.below hb)
    have HB4 : Hid (Below w.heap.size w w4) := HB3.out.trans (hb.mono HB3.out.size)
    clear hb
    cases ov with
    | false =>
      have CI := Lib.hid (sameLis_any A3 c3 A4 c4 os w4 (own_lis PO4.out) (own_lis PW4.out) HM.out)
      go_wp2_with fail
      refine CI.out.mono ?_
      rintro e w5 ⟨rfl, hb⟩
      clear CI
      have PF5 := Lib.hid (PF4.out.below hb)
      have PO5 := Lib.hid (PO4.out.below hb)
      have PW5 := Lib.hid (PW4.out.below hb)
      have HB5 : Hid (Below w.heap.size w w5) := HB4.out.trans (hb.mono HB4.out.size)
      clear hb
      go_wp2
      go_ret
      exact ⟨rfl, HB5.out⟩
    | true =>
      have HL := Lib.hid (law_size HV.out)
      rw [HO.out, HM.out, HN.out] at HL
      have h1 : mb ≤ 8 := HL.out.1
      have h2 : mb ≤ nb + 1 := HL.out.2
      have h1i : (mb : Int) ≤ 8 := by omega
      have hw : IntKind.i64.wrap ((nb : Int) + 1) = (nb : Int) + 1 := IntWalk.i64_in _ (by omega)
      have h2i : (mb : Int) ≤ (nb : Int) + 1 := by omega
      have hd1 : decide ((mb : Int) ≤ 8) = true := decide_eq_true h1i
      have hd2 : decide ((mb : Int) ≤ (nb : Int) + 1) = true := decide_eq_true h2i
      go_wp2
      go_ret
      exact ⟨rfl, HB4.out⟩
  · have h9 : 1048576 < len := by omega
    clear hlen
    go_enter Try.func12, Try.ntmps12
    go_wp2
    go_ret
    exact ⟨rfl, Below.refl _ _⟩

end Go.Proofs.Yteceamnmcningaa
