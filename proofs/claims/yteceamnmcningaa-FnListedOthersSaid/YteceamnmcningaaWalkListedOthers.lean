/- The walk of FnListedOthers: it returns true and changes nothing that was there. Condition: the code's bytes lie in memory. -/
import Derived.Test.YteceamnmcningaaDrawDir2
import Derived.Test.YteceamnmcningaaDir
import Derived.Test.YteceamnmcningaaDirLaws
import Derived.Deep.DeepCutAuto
import Derived.Deep.RegionHeld3
import Derived.BigQuiet
import Derived.Deep.QuietTactic
namespace Go.Proofs.Yteceamnmcningaa
open Go.RowKit
set_option linter.unusedVariables false

set_option maxHeartbeats 8000000 in
set_option maxRecDepth 100000 in
theorem walkListedOthers (A : Option Addr) (len cap : Nat) (w : World) (hI : In w A len cap) :
    Calls Try.prog 4 #[.slice A len cap] w fun e w' => e = .returned (.bool true) ∧ Below w.heap.size w w' := by
  have hm := hI.len_le
  unfold maxLen at hm
  have HI := Lib.hid hI
  clear hI
  by_cases hlen : len ≤ 1048576
  · go_enter Try.func4, Try.ntmps4
    go_wp2_with fail
    refine (drawLPut_any A len cap _ HI.out).mono ?_
    rintro e w1 ⟨X, c, xs, node, now, rfl, ho, hl, hna, hnw, hb1⟩
    have PF1 := Lib.hid ho
    have HB1 := Lib.hid hb1
    clear ho hb1
    obtain ⟨nb, HN⟩ : ∃ v, Hid (xs.length = v) := ⟨_, rfl⟩
    rw [HN.out] at hl ⊢
    obtain ⟨os, HO⟩ : ∃ v, Hid (putL xs node now = v) := ⟨_, rfl⟩
    obtain ⟨ov, HV⟩ : ∃ v, Hid (putO xs node now = v) := ⟨_, rfl⟩
    obtain ⟨mb, HM⟩ : ∃ v, Hid (os.length = v) := ⟨_, rfl⟩
    have CI := Lib.hid (dirPut_any X c xs node now w1 (own_lis PF1.out) HN.out)
    rw [HO.out, HV.out] at CI
    go_wp2_with fail
    refine CI.out.mono ?_
    rintro e w2 ⟨A3, c3, rfl, ho, hb⟩
    clear CI
    rw [HM.out]
    have PF2 := Lib.hid (PF1.out.below hb)
    have HB2 : Hid (Below w.heap.size w w2) := HB1.out.trans (hb.mono HB1.out.size)
    clear hb
    have PO2 := Lib.hid ho
    clear ho
    have CI := Lib.hid (sdirPut_any X c xs node now w2 (own_lis PF2.out) HN.out)
    rw [HO.out, HV.out] at CI
    go_wp2_with fail
    refine CI.out.mono ?_
    rintro e w3 ⟨A4, c4, rfl, ho, hb⟩
    clear CI
    rw [HM.out]
    have PF3 := Lib.hid (PF2.out.below hb)
    have PO3 := Lib.hid (PO2.out.below hb)
    have HB3 : Hid (Below w.heap.size w w3) := HB2.out.trans (hb.mono HB2.out.size)
    clear hb
    have PW3 := Lib.hid ho
    clear ho
    have hne : (ov != ov) = false := by simp
    have heq : (ov == ov) = true := by simp
    have CI := Lib.hid (sameLis_any A3 c3 A4 c4 os w3 (own_lis PO3.out) (own_lis PW3.out) HM.out)
    go_wp2_with fail
    refine CI.out.mono ?_
    rintro e w4 ⟨rfl, hb⟩
    clear CI
    have PF4 := Lib.hid (PF3.out.below hb)
    have PO4 := Lib.hid (PO3.out.below hb)
    have PW4 := Lib.hid (PW3.out.below hb)
    have HB4 : Hid (Below w.heap.size w w4) := HB3.out.trans (hb.mono HB3.out.size)
    clear hb
    cases hdv : dirB xs with
    | false =>
      have HDV := Lib.hid hdv
      clear hdv
      have CI := Lib.hid (sdirValidB_any X c xs w4 (own_lis PF4.out) HN.out)
      rw [HDV.out] at CI
      go_wp2_with fail
      refine CI.out.mono ?_
      rintro e w5 ⟨rfl, hb⟩
      clear CI
      have PF5 := Lib.hid (PF4.out.below hb)
      have PO5 := Lib.hid (PO4.out.below hb)
      have PW5 := Lib.hid (PW4.out.below hb)
      have HB5 : Hid (Below w.heap.size w w5) := HB4.out.trans (hb.mono HB4.out.size)
      clear hb
      have CI := Lib.hid (sameLis_any A3 c3 A4 c4 os w5 (own_lis PO5.out) (own_lis PW5.out) HM.out)
      go_wp2_with fail
      refine CI.out.mono ?_
      rintro e w6 ⟨rfl, hb⟩
      clear CI
      have PF6 := Lib.hid (PF5.out.below hb)
      have PO6 := Lib.hid (PO5.out.below hb)
      have PW6 := Lib.hid (PW5.out.below hb)
      have HB6 : Hid (Below w.heap.size w w6) := HB5.out.trans (hb.mono HB5.out.size)
      clear hb
      go_wp2
      go_ret
      exact ⟨rfl, HB6.out⟩
    | true =>
      have HDV := Lib.hid hdv
      clear hdv
      have CI := Lib.hid (sdirValidB_any X c xs w4 (own_lis PF4.out) HN.out)
      rw [HDV.out] at CI
      go_wp2_with fail
      refine CI.out.mono ?_
      rintro e w5 ⟨rfl, hb⟩
      clear CI
      have PF5 := Lib.hid (PF4.out.below hb)
      have PO5 := Lib.hid (PO4.out.below hb)
      have PW5 := Lib.hid (PW4.out.below hb)
      have HB5 : Hid (Below w.heap.size w w5) := HB4.out.trans (hb.mono HB4.out.size)
      clear hb
      by_cases hm0 : mb = 0
      · subst hm0
        have CI := Lib.hid (sameLis_any A3 c3 A4 c4 os w5 (own_lis PO5.out) (own_lis PW5.out) HM.out)
        go_wp2_with fail
        refine CI.out.mono ?_
        rintro e w6 ⟨rfl, hb⟩
        clear CI
        have PF6 := Lib.hid (PF5.out.below hb)
        have PO6 := Lib.hid (PO5.out.below hb)
        have PW6 := Lib.hid (PW5.out.below hb)
        have HB6 : Hid (Below w.heap.size w w6) := HB5.out.trans (hb.mono HB5.out.size)
        clear hb
        go_wp2
        go_ret
        exact ⟨rfl, HB6.out⟩
      · have hmz : ((mb : Int) == 0) = false := by rw [beq_eq_false_iff_ne]; omega
        have hmz2 : ¬ mb = 0 := hm0
        have HL : Hid (∀ x ∈ xs, now ≤ x.t + 10 → x.n ≠ node → timeB os x.n = x.t) := fun x hx hf hn => by
          have := law_others (node := node) (now := now) HDV.out (by rw [HO.out, HM.out]; omega) hx hf hn
          rwa [HO.out] at this
        have HOK := Lib.hid (dirP_of HDV.out).ok
        clear hm0
        go_wp2
        go_loopw [10] (fun i w' => ∃ k : Nat, k ≤ nb ∧ i = .int .i64 (k : Int) ∧ Hid (∃ q, w' = w5.drewN q)) (fun i _ => nb - (intOf i).toNat)
        case atStart => exact ⟨0, Nat.zero_le _, rfl, ⟨0, rfl⟩⟩
        case round =>
          obtain ⟨k, hk, rfl, HQ⟩ := hrel
          have HPF : Hid (OwnRow LK wr w.heap.size X c xs) := by obtain ⟨q, e⟩ := HQ.out; subst e; exact PF5.out
          have HPO : Hid (OwnRow LK wr w1.heap.size A3 c3 os) := by obtain ⟨q, e⟩ := HQ.out; subst e; exact PO5.out
          have HBR : Hid (Below w.heap.size w wr) := by obtain ⟨q, e⟩ := HQ.out; subst e; exact below_drewN HB5.out q
          have HQN : Hid (∀ m, ∃ q, wr.drewN m = w5.drewN q) := fun m => by obtain ⟨q, e⟩ := HQ.out; subst e; exact ⟨q + m, World.drewN_drewN _ _ _⟩
          by_cases hlt : k < nb
          · have hkz : k < xs.length := by rw [HN.out]; exact hlt
            obtain ⟨b, o, hX⟩ := (own_lis HPF.out).row.some_ (by omega)
            subst hX
            obtain ⟨c0, c1⟩ := lis_cells (own_lis HPF.out).row k hkz
            have hok := (HOK.out _ (lth_mem xs k hkz)).2
            have HLK := Lib.hid (HL.out _ (lth_mem xs k hkz))
            obtain ⟨vn, HVN⟩ : ∃ v, Hid ((lth xs k).n = v) := ⟨_, rfl⟩
            obtain ⟨vt, HVT⟩ : ∃ v, Hid ((lth xs k).t = v) := ⟨_, rfl⟩
            rw [HVN.out] at c0
            rw [HVT.out] at c1 hok
            rw [HVN.out, HVT.out] at HLK
            have hw : IntKind.i64.wrap (vt + 10) = vt + 10 := IntWalk.i64_in _ (by omega)
            have hki : (k : Int) < (nb : Int) := by omega
            have hk0 : (0 : Int) ≤ (k : Int) := by omega
            clear hkz
            by_cases hf : now ≤ vt + 10
            · have hfd : decide (now ≤ vt + 10) = true := decide_eq_true hf
              by_cases hn : vn = node
              · have hne : (vn != node) = false := by simp [hn]
                clear HLK
                go_wp2_with fail
                go_quiet (fail)
                go_wp2
                go_roundw
                case rel => exact ⟨k + 1, by omega, by go_num, HQN.out _⟩
                case measure => simp [intOf]; omega
              · have hne : (vn != node) = true := by simp [hn]
                have HT := Lib.hid (HLK.out hf hn)
                have CI : Hid (∀ m, Calls Try.prog 20 #[.slice A3 mb c3, .int .i64 vn] (wr.drewN m) fun e w' => e = .returned (.int .i64 vt) ∧ w' = wr.drewN m) := fun m => by
                  have h := ltime_any A3 c3 os vn (wr.drewN m) (own_lis (HPO.out.drewN m)) HM.out
                  rwa [HT.out] at h
                have hvv : (vt != vt) = false := by simp
                clear HLK
                go_wp2_with fail
                go_quiet ((go_at_call 20; exact Calls.quiet_of_same (CI.out _)))
                go_wp2
                go_roundw
                case rel => exact ⟨k + 1, by omega, by go_num, HQN.out _⟩
                case measure => simp [intOf]; omega
            · have hfd : decide (now ≤ vt + 10) = false := decide_eq_false hf
              clear HLK
              go_wp2_with fail
              go_quiet (fail)
              go_wp2
              go_roundw
              case rel => exact ⟨k + 1, by omega, by go_num, HQN.out _⟩
              case measure => simp [intOf]; omega
          · have hkn : k = nb := by omega
            subst hkn
            go_wp2
            go_ret
            exact ⟨rfl, HBR.out⟩
  · have h9 : 1048576 < len := by omega
    clear hlen
    go_enter Try.func4, Try.ntmps4
    go_wp2
    go_ret
    exact ⟨rfl, Below.refl _ _⟩

end Go.Proofs.Yteceamnmcningaa
