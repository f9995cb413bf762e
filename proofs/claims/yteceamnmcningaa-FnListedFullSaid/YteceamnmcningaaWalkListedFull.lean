/- The walk of FnListedFull: it returns true and changes nothing that was there. Condition: the code's bytes lie in memory. -/
import Derived.Test.YteceamnmcningaaDrawDir2
import Derived.Test.YteceamnmcningaaDir
import Derived.Test.YteceamnmcningaaDirLaws
import Derived.Deep.DeepCutAuto
import Derived.Deep.RegionHeld3
import Derived.BigQuiet
import Derived.Deep.QuietTactic
namespace Go.Proofs.Yteceamnmcningaa
open Go.RowKit
set_option linter.unusedVariables false

set_option maxHeartbeats 8000000 in
set_option maxRecDepth 100000 in
theorem walkListedFull (A : Option Addr) (len cap : Nat) (w : World) (hI : In w A len cap) :
    Calls Try.prog 5 #[.slice A len cap] w fun e w' => e = .returned (.bool true) ∧ Below w.heap.size w w' := by
  have hm := hI.len_le
  unfold maxLen at hm
  have HI := Lib.hid hI
  clear hI
  by_cases hlen : len ≤ 1048576
  · go_enter Try.func5, Try.ntmps5
    go_wp2_with fail
    refine (drawLPut_any A len cap _ HI.out).mono ?_
    rintro e w1 ⟨X, c, xs, node, now, rfl, ho, hl, hna, hnw, hb1⟩
    have PF1 := Lib.hid ho
    have HB1 := Lib.hid hb1
    clear ho hb1
    obtain ⟨nb, HN⟩ : ∃ v, Hid (xs.length = v) := ⟨_, rfl⟩
    rw [HN.out] at hl ⊢
    obtain ⟨os, HO⟩ : ∃ v, Hid (putL xs node now = v) := ⟨_, rfl⟩
    obtain ⟨ov, HV⟩ : ∃ v, Hid (putO xs node now = v) := ⟨_, rfl⟩
    obtain ⟨mb, HM⟩ : ∃ v, Hid (os.length = v) := ⟨_, rfl⟩
    have CI := Lib.hid (dirPut_any X c xs node now w1 (own_lis PF1.out) HN.out)
    rw [HO.out, HV.out] at CI
    go_wp2_with fail
    refine CI.out.mono ?_
    rintro e w2 ⟨A3, c3, rfl, ho, hb⟩
    clear CI
    rw [HM.out]
    have PF2 := Lib.hid (PF1.out.below hb)
    have HB2 : Hid (Below w.heap.size w w2) := HB1.out.trans (hb.mono HB1.out.size)
    clear hb
    have PO2 := Lib.hid ho
    clear ho
    have CI := Lib.hid (sdirPut_any X c xs node now w2 (own_lis PF2.out) HN.out)
    rw [HO.out, HV.out] at CI
    go_wp2_with fail
    refine CI.out.mono ?_
    rintro e w3 ⟨A4, c4, rfl, ho, hb⟩
    clear CI
    rw [HM.out]
    have PF3 := Lib.hid (PF2.out.below hb)
    have PO3 := Lib.hid (PO2.out.below hb)
    have HB3 : Hid (Below w.heap.size w w3) := HB2.out.trans (hb.mono HB2.out.size)
    clear hb
    have PW3 := Lib.hid ho
    clear ho
    have hne : (ov != ov) = false := by simp
    have heq : (ov == ov) = true := by simp
    have CI := Lib.hid (sameLis_any A3 c3 A4 c4 os w3 (own_lis PO3.out) (own_lis PW3.out) HM.out)
    go_wp2_with fail
    refine CI.out.mono ?_
    rintro e w4 ⟨rfl, hb⟩
    clear CI
    have PF4 := Lib.hid (PF3.out.below hb)
    have PO4 := Lib.hid (PO3.out.below hb)
    have PW4 := Lib.hid (PW3.out.below hb)
    have HB4 : Hid (Below w.heap.size w w4) := HB3.out.trans (hb.mono HB3.out.size)
    clear hb
    cases ov with
    | true =>
      have CI := Lib.hid (sameLis_any A3 c3 A4 c4 os w4 (own_lis PO4.out) (own_lis PW4.out) HM.out)
      go_wp2_with fail
      refine CI.out.mono ?_
      rintro e w5 ⟨rfl, hb⟩
      clear CI
      have PF5 := Lib.hid (PF4.out.below hb)
      have PO5 := Lib.hid (PO4.out.below hb)
      have PW5 := Lib.hid (PW4.out.below hb)
      have HB5 : Hid (Below w.heap.size w w5) := HB4.out.trans (hb.mono HB4.out.size)
      clear hb
      go_wp2
      go_ret
      exact ⟨rfl, HB5.out⟩
    | false =>
      by_cases hm0 : mb = 0
      · subst hm0
        have CI := Lib.hid (sameLis_any A3 c3 A4 c4 os w4 (own_lis PO4.out) (own_lis PW4.out) HM.out)
        go_wp2_with fail
        refine CI.out.mono ?_
        rintro e w5 ⟨rfl, hb⟩
        clear CI
        have PF5 := Lib.hid (PF4.out.below hb)
        have PO5 := Lib.hid (PO4.out.below hb)
        have PW5 := Lib.hid (PW4.out.below hb)
        have HB5 : Hid (Below w.heap.size w w5) := HB4.out.trans (hb.mono HB4.out.size)
        clear hb
        go_wp2
        go_ret
        exact ⟨rfl, HB5.out⟩
      · have hmz : ((mb : Int) == 0) = false := by rw [beq_eq_false_iff_ne]; omega
        have hmz2 : ¬ mb = 0 := hm0
        have HL := Lib.hid (law_full HV.out (by rw [HO.out, HM.out]; omega))
        rw [HO.out] at HL
        have HN8 : Hid (nb = 8) := by show _ = _; rw [← HN.out]; exact HL.out.2.1
        have HEQ : Hid (os = xs) := HL.out.2.2
        have HOK : Hid (∀ x ∈ xs, 0 ≤ x.t ∧ x.t ≤ 999) := fun x hx => by
          have hd : DirP xs := by
            cases e : putIn xs node now with
            | true => exact ((putIn_iff xs node now).1 e).1
            | false =>
              have h1 := HO.out
              rw [putL_no e] at h1
              have h2 := HM.out
              rw [← h1] at h2
              exact absurd h2.symm hm0
          exact (hd.ok x hx).2
        clear hm0
        go_wp2
        go_loop [10] (fun i => ∃ k : Nat, k ≤ nb ∧ i = .int .i64 (k : Int)) (fun i => nb - (intOf i).toNat)
        case atStart => exact ⟨0, Nat.zero_le _, rfl⟩
        case round =>
          obtain ⟨k, hk, rfl⟩ := hrel
          by_cases hlt : k < nb
          · have hkz : k < xs.length := by rw [HN.out]; exact hlt
            obtain ⟨b, o, hX⟩ := (own_lis PF4.out).row.some_ (by omega)
            subst hX
            obtain ⟨c0, c1⟩ := lis_cells (own_lis PF4.out).row k hkz
            have hok := HOK.out _ (lth_mem xs k hkz)
            have hlk := HL.out.1 _ (lth_mem xs k hkz)
            obtain ⟨vn, HVN⟩ : ∃ v, Hid ((lth xs k).n = v) := ⟨_, rfl⟩
            obtain ⟨vt, HVT⟩ : ∃ v, Hid ((lth xs k).t = v) := ⟨_, rfl⟩
            rw [HVN.out] at c0
            rw [HVT.out] at c1 hok
            rw [HVN.out, HVT.out] at hlk
            have hw : IntKind.i64.wrap (vt + 10) = vt + 10 := IntWalk.i64_in _ (by omega)
            have hki : (k : Int) < (nb : Int) := by omega
            have hk0 : (0 : Int) ≤ (k : Int) := by omega
            have hfd : decide (vt + 10 < now) = false := decide_eq_false (by omega)
            have hfl : ¬ vt + 10 < now := by omega
            have hne : (vn == node) = false := beq_eq_false_iff_ne.2 hlk.2
            clear hkz hlk
            go_wp2
            go_round
            case rel => exact ⟨k + 1, by omega, by go_num⟩
            case measure => simp [intOf]; omega
          · have hkn : k = nb := by omega
            subst hkn
            have h8 : ((k : Int) == 8) = true := by have := HN8.out; simp [this]
            have hmk : mb = k := by rw [← HM.out, HEQ.out, HN.out]
            subst hmk
            have CI : Hid (Calls Try.prog 18 #[.slice A3 mb c3, .slice X mb c] w4 fun e w' => e = .returned (.bool true) ∧ Below w4.heap.size w4 w') := by
              have h := PO4.out
              rw [HEQ.out] at h
              exact sameLis_any A3 c3 X c xs w4 (own_lis h) (own_lis PF4.out) HN.out
            go_wp2_with fail
            refine CI.out.mono ?_
            rintro e wz ⟨rfl, hb⟩
            have HBZ : Hid (Below w.heap.size w wz) := HB4.out.trans (hb.mono HB4.out.size)
            go_wp2
            go_ret
            exact ⟨rfl, HBZ.out⟩
  · have h9 : 1048576 < len := by omega
    clear hlen
    go_enter Try.func5, Try.ntmps5
    go_wp2
    go_ret
    exact ⟨rfl, Below.refl _ _⟩

end Go.Proofs.Yteceamnmcningaa
