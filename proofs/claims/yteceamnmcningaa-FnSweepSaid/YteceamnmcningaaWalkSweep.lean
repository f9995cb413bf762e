/- The walk of FnSweep: it returns true and changes nothing that was there. Condition: the code's bytes lie in memory. -/
import Derived.Test.YteceamnmcningaaDrawDir2
import Derived.Test.YteceamnmcningaaDir
import Derived.Test.YteceamnmcningaaDirLaws
import Derived.Deep.DeepCutAuto
import Derived.Deep.RegionHeld3
import Derived.BigQuiet
import Derived.Deep.QuietTactic
namespace Go.Proofs.Yteceamnmcningaa
open Go.RowKit
set_option linter.unusedVariables false

set_option maxHeartbeats 8000000 in
set_option maxRecDepth 100000 in
theorem walkSweep (A : Option Addr) (len cap : Nat) (w : World) (hI : In w A len cap) :
    Calls Try.prog 7 #[.slice A len cap] w fun e w' => e = .returned (.bool true) ∧ Below w.heap.size w w' := by
  have hm := hI.len_le
  unfold maxLen at hm
  have HI := Lib.hid hI
  clear hI
  by_cases hlen : len ≤ 1048576
  · go_enter Try.func7, Try.ntmps7
    go_wp2_with fail
    refine (drawLSweep_any A len cap _ HI.out).mono ?_
    rintro e w1 ⟨X, c, xs, now, rfl, ho, hl, hnw, hb1⟩
    have PF1 := Lib.hid ho
    have HB1 := Lib.hid hb1
    clear ho hb1
    obtain ⟨nb, HN⟩ : ∃ v, Hid (xs.length = v) := ⟨_, rfl⟩
    rw [HN.out] at hl ⊢
    obtain ⟨os, HO⟩ : ∃ v, Hid (sweepR xs now = v) := ⟨_, rfl⟩
    obtain ⟨mb, HM⟩ : ∃ v, Hid (os.length = v) := ⟨_, rfl⟩
    have CI := Lib.hid (dirSweep_any X c xs now w1 (own_lis PF1.out) HN.out)
    rw [HO.out] at CI
    go_wp2_with fail
    refine CI.out.mono ?_
    rintro e w2 ⟨A3, c3, rfl, ho, hb⟩
    clear CI
    rw [HM.out]
    have PF2 := Lib.hid (PF1.out.below hb)
    have HB2 : Hid (Below w.heap.size w w2) := HB1.out.trans (hb.mono HB1.out.size)
    clear hb
    have PO2 := Lib.hid ho
    clear ho
    have CI := Lib.hid (sdirSweep_any X c xs now w2 (own_lis PF2.out) HN.out)
    rw [HO.out] at CI
    go_wp2_with fail
    refine CI.out.mono ?_
    rintro e w3 ⟨A4, c4, rfl, ho, hb⟩
    clear CI
    rw [HM.out]
    have PF3 := Lib.hid (PF2.out.below hb)
    have PO3 := Lib.hid (PO2.out.below hb)
    have HB3 : Hid (Below w.heap.size w w3) := HB2.out.trans (hb.mono HB2.out.size)
    clear hb
    have PW3 := Lib.hid ho
    clear ho
    have CI := Lib.hid (sameLis_any A3 c3 A4 c4 os w3 (own_lis PO3.out) (own_lis PW3.out) HM.out)
    go_wp2_with fail
    refine CI.out.mono ?_
    rintro e w4 ⟨rfl, hb⟩
    clear CI
    have PF4 := Lib.hid (PF3.out.below hb)
    have PO4 := Lib.hid (PO3.out.below hb)
    have PW4 := Lib.hid (PW3.out.below hb)
    have HB4 : Hid (Below w.heap.size w w4) := HB3.out.trans (hb.mono HB3.out.size)
    clear hb
    cases hdv : dirB xs with
    | false =>
      have HDV := Lib.hid hdv
      clear hdv
      have CI := Lib.hid (sdirValidB_any X c xs w4 (own_lis PF4.out) HN.out)
      rw [HDV.out] at CI
      go_wp2_with fail
      refine CI.out.mono ?_
      rintro e w5 ⟨rfl, hb⟩
      clear CI
      have PF5 := Lib.hid (PF4.out.below hb)
      have PO5 := Lib.hid (PO4.out.below hb)
      have PW5 := Lib.hid (PW4.out.below hb)
      have HB5 : Hid (Below w.heap.size w w5) := HB4.out.trans (hb.mono HB4.out.size)
      clear hb
      have CI := Lib.hid (sameLis_any A3 c3 A4 c4 os w5 (own_lis PO5.out) (own_lis PW5.out) HM.out)
      go_wp2_with fail
      refine CI.out.mono ?_
      rintro e w6 ⟨rfl, hb⟩
      clear CI
      have PF6 := Lib.hid (PF5.out.below hb)
      have PO6 := Lib.hid (PO5.out.below hb)
      have PW6 := Lib.hid (PW5.out.below hb)
      have HB6 : Hid (Below w.heap.size w w6) := HB5.out.trans (hb.mono HB5.out.size)
      clear hb
      go_wp2
      go_ret
      exact ⟨rfl, HB6.out⟩
    | true =>
      have HDV := Lib.hid hdv
      clear hdv
      have CI := Lib.hid (sdirValidB_any X c xs w4 (own_lis PF4.out) HN.out)
      rw [HDV.out] at CI
      go_wp2_with fail
      refine CI.out.mono ?_
      rintro e w5 ⟨rfl, hb⟩
      clear CI
      have PF5 := Lib.hid (PF4.out.below hb)
      have PO5 := Lib.hid (PO4.out.below hb)
      have PW5 := Lib.hid (PW4.out.below hb)
      have HB5 : Hid (Below w.heap.size w w5) := HB4.out.trans (hb.mono HB4.out.size)
      clear hb
      by_cases hn0 : now < 0
      · have hn0d : decide (now < 0) = true := decide_eq_true hn0
        have CI := Lib.hid (sameLis_any A3 c3 A4 c4 os w5 (own_lis PO5.out) (own_lis PW5.out) HM.out)
        go_wp2_with fail
        refine CI.out.mono ?_
        rintro e w6 ⟨rfl, hb⟩
        clear CI
        have PF6 := Lib.hid (PF5.out.below hb)
        have PO6 := Lib.hid (PO5.out.below hb)
        have PW6 := Lib.hid (PW5.out.below hb)
        have HB6 : Hid (Below w.heap.size w w6) := HB5.out.trans (hb.mono HB5.out.size)
        clear hb
        go_wp2
        go_ret
        exact ⟨rfl, HB6.out⟩
      · have hn0d : decide (now < 0) = false := decide_eq_false hn0
        by_cases hn9 : 999 < now
        · have hn9d : decide (999 < now) = true := decide_eq_true hn9
          have CI := Lib.hid (sameLis_any A3 c3 A4 c4 os w5 (own_lis PO5.out) (own_lis PW5.out) HM.out)
          go_wp2_with fail
          refine CI.out.mono ?_
          rintro e w6 ⟨rfl, hb⟩
          clear CI
          have PF6 := Lib.hid (PF5.out.below hb)
          have PO6 := Lib.hid (PO5.out.below hb)
          have PW6 := Lib.hid (PW5.out.below hb)
          have HB6 : Hid (Below w.heap.size w w6) := HB5.out.trans (hb.mono HB5.out.size)
          clear hb
          go_wp2
          go_ret
          exact ⟨rfl, HB6.out⟩
        · have hn9d : decide (999 < now) = false := decide_eq_false hn9
          have HOS : Hid (os = sweepL now xs) := by show _ = _; rw [← HO.out]; exact sweepR_ok HDV.out ((tOk_iff now).2 ⟨by omega, by omega⟩)
          have HOK := Lib.hid (dirP_of HDV.out).ok
          go_wp2
          go_loopw [7, 8] (fun m i w' => ∃ (k j : Nat), k ≤ nb ∧ j ≤ k ∧ m = .int .i64 (j : Int) ∧ i = .int .i64 (k : Int) ∧ Hid (((xs.take k).filter (freshB now)).length = j) ∧ Hid (∃ q, w' = w5.drewN q)) (fun _ i _ => nb - (intOf i).toNat)
          case atStart => exact ⟨0, 0, Nat.zero_le _, Nat.le_refl _, rfl, rfl, rfl, ⟨0, rfl⟩⟩
          case round =>
            obtain ⟨k, j, hk, hj, rfl, rfl, HJ, HQ⟩ := hrel
            have HPF : Hid (OwnRow LK wr w.heap.size X c xs) := by obtain ⟨q, e⟩ := HQ.out; subst e; exact PF5.out
            have HPO : Hid (OwnRow LK wr w1.heap.size A3 c3 os) := by obtain ⟨q, e⟩ := HQ.out; subst e; exact PO5.out
            have HBR : Hid (Below w.heap.size w wr) := by obtain ⟨q, e⟩ := HQ.out; subst e; exact below_drewN HB5.out q
            have HQN : Hid (∀ m, ∃ q, wr.drewN m = w5.drewN q) := fun m => by obtain ⟨q, e⟩ := HQ.out; subst e; exact ⟨q + m, World.drewN_drewN _ _ _⟩
            by_cases hlt : k < nb
            · have hkz : k < xs.length := by rw [HN.out]; exact hlt
              obtain ⟨b, o, hX⟩ := (own_lis HPF.out).row.some_ (by omega)
              subst hX
              obtain ⟨c0, c1⟩ := lis_cells (own_lis HPF.out).row k hkz
              have hok := (HOK.out _ (lth_mem xs k hkz)).2
              have HLS := Lib.hid (law_sweep (now := now) HDV.out (lth_mem xs k hkz))
              have HFS := Lib.hid (congrArg List.length (fcount_step (freshB now) xs k hkz))
              have HFR : Hid (freshB now (lth xs k) = decide (now ≤ (lth xs k).t + 10)) := rfl
              rw [← HOS.out] at HLS
              obtain ⟨vn, HVN⟩ : ∃ v, Hid ((lth xs k).n = v) := ⟨_, rfl⟩
              obtain ⟨vt, HVT⟩ : ∃ v, Hid ((lth xs k).t = v) := ⟨_, rfl⟩
              obtain ⟨tt, HTT⟩ : ∃ v, Hid (timeB os vn = v) := ⟨_, rfl⟩
              rw [HVN.out] at c0
              rw [HVT.out] at c1 hok HFR
              rw [HVN.out, HVT.out, HTT.out] at HLS
              have hw : IntKind.i64.wrap (vt + 10) = vt + 10 := IntWalk.i64_in _ (by omega)
              have hki : (k : Int) < (nb : Int) := by omega
              have hk0 : (0 : Int) ≤ (k : Int) := by omega
              have hwj : IntKind.i64.wrap ((j : Int) + 1) = (j : Int) + 1 := IntWalk.i64_in _ (by omega)
              have CI : Hid (∀ m, Calls Try.prog 20 #[.slice A3 mb c3, .int .i64 vn] (wr.drewN m) fun e w' => e = .returned (.int .i64 tt) ∧ w' = wr.drewN m) := fun m => by
                have h := ltime_any A3 c3 os vn (wr.drewN m) (own_lis (HPO.out.drewN m)) HM.out
                rwa [HTT.out] at h
              rw [List.length_append, HJ.out] at HFS
              clear hkz
              cases hf : freshB now (lth xs k) with
              | true =>
                rw [hf] at HLS HFR HFS
                have hfd : decide (now ≤ vt + 10) = true := HFR.out.symm
                have hfl : now ≤ vt + 10 := of_decide_eq_true hfd
                have htt : tt = vt := of_decide_eq_true HLS.out.symm
                have hte : (tt == vt) = true := by simp [htt]
                have HJ2 : Hid (((xs.take (k + 1)).filter (freshB now)).length = j + 1) := HFS.out
                clear hf
                go_wp2_with fail
                go_quiet ((go_at_call 20; exact Calls.quiet_of_same (CI.out _)))
                go_wp2
                go_roundw
                case rel => exact ⟨k + 1, j + 1, by omega, by omega, by go_num, by go_num, HJ2, HQN.out _⟩
                case measure => simp [intOf]; omega
              | false =>
                rw [hf] at HLS HFR HFS
                have hfd : decide (now ≤ vt + 10) = false := HFR.out.symm
                have hfl : ¬ now ≤ vt + 10 := of_decide_eq_false hfd
                have htt : ¬ tt = vt := of_decide_eq_false HLS.out.symm
                have hte : (tt == vt) = false := beq_eq_false_iff_ne.2 htt
                have HJ2 : Hid (((xs.take (k + 1)).filter (freshB now)).length = j) := HFS.out
                clear hf
                go_wp2_with fail
                go_quiet ((go_at_call 20; exact Calls.quiet_of_same (CI.out _)))
                go_wp2
                go_roundw
                case rel => exact ⟨k + 1, j, by omega, by omega, rfl, by go_num, HJ2, HQN.out _⟩
                case measure => simp [intOf]; omega
            · have hkn : k = nb := by omega
              subst hkn
              have hjm : j = mb := by
                rw [← HM.out, HOS.out, ← HJ.out, ← HN.out, List.take_length]; rfl
              subst hjm
              have hee : ((j : Int) == (j : Int)) = true := by simp
              go_wp2
              go_ret
              exact ⟨rfl, HBR.out⟩
  · have h9 : 1048576 < len := by omega
    clear hlen
    go_enter Try.func7, Try.ntmps7
    go_wp2
    go_ret
    exact ⟨rfl, Below.refl _ _⟩

end Go.Proofs.Yteceamnmcningaa
