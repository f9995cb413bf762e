/- The walk of FnSample: it returns true and changes nothing that was there. Condition: the code's bytes lie in memory. -/
import Derived.Test.YteceamnmcningaaDrawDir2
import Derived.Test.YteceamnmcningaaDir
import Derived.Test.YteceamnmcningaaDirLaws
import Derived.Deep.DeepCutAuto
import Derived.Deep.RegionHeld3
import Derived.BigQuiet
import Derived.Deep.QuietTactic
namespace Go.Proofs.Yteceamnmcningaa
open Go.RowKit
set_option linter.unusedVariables false

set_option maxHeartbeats 8000000 in
set_option maxRecDepth 100000 in
theorem walkSample (A : Option Addr) (len cap : Nat) (w : World) (hI : In w A len cap) :
    Calls Try.prog 9 #[.slice A len cap] w fun e w' => e = .returned (.bool true) ∧ Below w.heap.size w w' := by
  have hm := hI.len_le
  unfold maxLen at hm
  have HI := Lib.hid hI
  clear hI
  by_cases hlen : len ≤ 1048576
  · go_enter Try.func9, Try.ntmps9
    go_wp2_with fail
    refine (drawLSample_any A len cap _ HI.out).mono ?_
    rintro e w1 ⟨X, c, xs, seed, many, rfl, ho, hl, hsd, hmn, hb1⟩
    have PF1 := Lib.hid ho
    have HB1 := Lib.hid hb1
    clear ho hb1
    obtain ⟨nb, HN⟩ : ∃ v, Hid (xs.length = v) := ⟨_, rfl⟩
    rw [HN.out] at hl ⊢
    obtain ⟨os, HO⟩ : ∃ v, Hid (sampleL xs seed many = v) := ⟨_, rfl⟩
    obtain ⟨mb, HM⟩ : ∃ v, Hid (os.length = v) := ⟨_, rfl⟩
    have hmb : mb ≤ nb := by rw [← HM.out, ← HO.out, ← HN.out]; exact sample_le xs seed many
    have CI := Lib.hid (dirSample_any X c xs seed many w1 (own_lis PF1.out) (by omega) HN.out)
    rw [HO.out] at CI
    go_wp2_with fail
    refine CI.out.mono ?_
    rintro e w2 ⟨A3, c3, rfl, ho, hb⟩
    clear CI
    rw [HM.out]
    have PF2 := Lib.hid (PF1.out.below hb)
    have HB2 : Hid (Below w.heap.size w w2) := HB1.out.trans (hb.mono HB1.out.size)
    clear hb
    have PO2 := Lib.hid ho
    clear ho
    have CI := Lib.hid (sdirSample_any X c xs seed many w2 (own_lis PF2.out) (by omega) HN.out)
    rw [HO.out] at CI
    go_wp2_with fail
    refine CI.out.mono ?_
    rintro e w3 ⟨A4, c4, rfl, ho, hb⟩
    clear CI
    rw [HM.out]
    have PF3 := Lib.hid (PF2.out.below hb)
    have PO3 := Lib.hid (PO2.out.below hb)
    have HB3 : Hid (Below w.heap.size w w3) := HB2.out.trans (hb.mono HB2.out.size)
    clear hb
    have PW3 := Lib.hid ho
    clear ho
    have CI := Lib.hid (sameIB_any A3 c3 A4 c4 os w3 PO3.out.ints PW3.out.ints (by rw [HM.out]; unfold maxLen; omega) HM.out)
    go_wp2_with fail
    refine CI.out.mono ?_
    rintro e w4 ⟨rfl, hb⟩
    clear CI
    have PF4 := Lib.hid (PF3.out.below hb)
    have PO4 := Lib.hid (PO3.out.below hb)
    have PW4 := Lib.hid (PW3.out.below hb)
    have HB4 : Hid (Below w.heap.size w w4) := HB3.out.trans (hb.mono HB3.out.size)
    clear hb
    cases hdv : dirB xs with
    | false =>
      have HDV := Lib.hid hdv
      clear hdv
      have CI := Lib.hid (sdirValidB_any X c xs w4 (own_lis PF4.out) HN.out)
      rw [HDV.out] at CI
      go_wp2_with fail
      refine CI.out.mono ?_
      rintro e w5 ⟨rfl, hb⟩
      clear CI
      have PF5 := Lib.hid (PF4.out.below hb)
      have PO5 := Lib.hid (PO4.out.below hb)
      have PW5 := Lib.hid (PW4.out.below hb)
      have HB5 : Hid (Below w.heap.size w w5) := HB4.out.trans (hb.mono HB4.out.size)
      clear hb
      have CI := Lib.hid (sameIB_any A3 c3 A4 c4 os w5 PO5.out.ints PW5.out.ints (by rw [HM.out]; unfold maxLen; omega) HM.out)
      go_wp2_with fail
      refine CI.out.mono ?_
      rintro e w6 ⟨rfl, hb⟩
      clear CI
      have PF6 := Lib.hid (PF5.out.below hb)
      have PO6 := Lib.hid (PO5.out.below hb)
      have PW6 := Lib.hid (PW5.out.below hb)
      have HB6 : Hid (Below w.heap.size w w6) := HB5.out.trans (hb.mono HB5.out.size)
      clear hb
      go_wp2
      go_ret
      exact ⟨rfl, HB6.out⟩
    | true =>
      have HDV := Lib.hid hdv
      clear hdv
      have CI := Lib.hid (sdirValidB_any X c xs w4 (own_lis PF4.out) HN.out)
      rw [HDV.out] at CI
      go_wp2_with fail
      refine CI.out.mono ?_
      rintro e w5 ⟨rfl, hb⟩
      clear CI
      have PF5 := Lib.hid (PF4.out.below hb)
      have PO5 := Lib.hid (PO4.out.below hb)
      have PW5 := Lib.hid (PW4.out.below hb)
      have HB5 : Hid (Below w.heap.size w w5) := HB4.out.trans (hb.mono HB4.out.size)
      clear hb
      by_cases hs0 : seed < 0
      · have hs0d : decide (seed < 0) = true := decide_eq_true hs0
        have CI := Lib.hid (sameIB_any A3 c3 A4 c4 os w5 PO5.out.ints PW5.out.ints (by rw [HM.out]; unfold maxLen; omega) HM.out)
        go_wp2_with fail
        refine CI.out.mono ?_
        rintro e w6 ⟨rfl, hb⟩
        clear CI
        have PF6 := Lib.hid (PF5.out.below hb)
        have PO6 := Lib.hid (PO5.out.below hb)
        have PW6 := Lib.hid (PW5.out.below hb)
        have HB6 : Hid (Below w.heap.size w w6) := HB5.out.trans (hb.mono HB5.out.size)
        clear hb
        go_wp2
        go_ret
        exact ⟨rfl, HB6.out⟩
      · have hs0d : decide (seed < 0) = false := decide_eq_false hs0
        have HIN : Hid (∀ (i : Nat) (v : Int), os[i]? = some v → 0 ≤ timeB xs v ∧ ∀ j, j < i → os[j]? ≠ some v) := fun i v hv => by
          rw [← HO.out] at hv ⊢
          exact law_sample_in HDV.out (by omega) hv
        have HLEN : Hid (mb = min many.toNat nb) := by
          show _ = _
          rw [← HM.out, ← HO.out, sample_length HDV.out (by omega), HN.out]
        go_wp2
        go_loopw [8] (fun i w' => ∃ k : Nat, k ≤ mb ∧ i = .int .i64 (k : Int) ∧ Hid (∃ q, w' = w5.drewN q)) (fun i _ => mb - (intOf i).toNat)
        case atStart => exact ⟨0, Nat.zero_le _, rfl, ⟨0, rfl⟩⟩
        case round =>
          obtain ⟨k, hk, rfl, HQ⟩ := hrel
          have HPF : Hid (OwnRow LK wr w.heap.size X c xs) := by obtain ⟨q, e⟩ := HQ.out; subst e; exact PF5.out
          have HPO : Hid (OwnInts wr w1.heap.size A3 c3 os) := by obtain ⟨q, e⟩ := HQ.out; subst e; exact PO5.out
          have HBR : Hid (Below w.heap.size w wr) := by obtain ⟨q, e⟩ := HQ.out; subst e; exact below_drewN HB5.out q
          have HQN : Hid (∀ m, ∃ q, wr.drewN m = w5.drewN q) := fun m => by obtain ⟨q, e⟩ := HQ.out; subst e; exact ⟨q + m, World.drewN_drewN _ _ _⟩
          by_cases hlt : k < mb
          · have hkz : k < os.length := by rw [HM.out]; exact hlt
            obtain ⟨b, o, hX, _, hcell⟩ := HPO.out.ints.at_ (by omega)
            subst hX
            have c0 := hcell k hkz
            have hget : os[k]? = some (nth os k) := by
              unfold nth; rw [List.getD_eq_getElem?_getD, List.getElem?_eq_getElem hkz]; rfl
            have hin := HIN.out k _ hget
            have hox := HPO.out.le
            rw [HM.out] at hox
            have hx1 := hox.1
            have hx2 := hox.2
            unfold maxLen at hx2
            obtain ⟨v, HV⟩ : ∃ v, Hid (nth os k = v) := ⟨_, rfl⟩
            rw [HV.out] at c0 hin
            obtain ⟨tt, HTT⟩ : ∃ t, Hid (timeB xs v = t) := ⟨_, rfl⟩
            rw [HTT.out] at hin
            have htd : decide (tt < 0) = false := decide_eq_false (by omega)
            have htl : ¬ tt < 0 := by omega
            have HT1 : Hid ((os.take k).length = k) := by show _ = _; rw [List.length_take, HM.out]; omega
            have HNI : Hid (decide (v ∈ os.take k) = false) := decide_eq_false fun hmem => by
              obtain ⟨j, hj⟩ := List.getElem?_of_mem hmem
              have hjk : j < k := by have := (List.getElem?_eq_some_iff.1 hj).1; rw [HT1.out] at this; exact this
              rw [List.getElem?_take_of_lt hjk] at hj
              exact hin.2 j hjk hj
            have C1 : Hid (∀ m, Calls Try.prog 20 #[.slice X nb c, .int .i64 v] (wr.drewN m) fun e w' => e = .returned (.int .i64 tt) ∧ w' = wr.drewN m) := fun m => by
              have h := ltime_any X c xs v (wr.drewN m) (own_lis (HPF.out.drewN m)) HN.out
              rwa [HTT.out] at h
            have C2 : Hid (∀ m, Calls Try.prog 29 #[.slice (some ⟨b, o, none⟩) k c3, .int .i64 v] (wr.drewN m) fun e w' => e = .returned (.bool false) ∧ w' = wr.drewN m) := fun m => by
              have h := hasL_any (some ⟨b, o, none⟩) c3 (os.take k) v (wr.drewN m) ((HPO.out.ints.first k).drewN m) (by rw [HT1.out]; unfold maxLen; omega)
              rwa [HT1.out, HNI.out] at h
            have hki : (k : Int) < (mb : Int) := by omega
            have hk0 : (0 : Int) ≤ (k : Int) := by omega
            have hkc : (k : Int) ≤ (c3 : Int) := by omega
            have hktn : ((k : Int)).toNat = k := Int.toNat_natCast k
            clear hcell hget hin hox hkz
            go_wp2_with fail
            go_quiet (first | (go_at_call 20; with_reducible exact Calls.quiet_of_same (C1.out _)) | (go_at_call 29; with_reducible exact Calls.quiet_of_same (C2.out _)))
            go_wp2
            go_roundw
            case rel => exact ⟨k + 1, by omega, by go_num, HQN.out _⟩
            case measure => simp [intOf]; omega
          · have hkn : k = mb := by omega
            subst hkn
            by_cases h1 : many < (nb : Int)
            · by_cases h2 : many < 0
              · have hk0 : k = 0 := by have := HLEN.out; omega
                subst hk0
                go_wp2
                all_goals (go_ret; exact ⟨rfl, HBR.out⟩)
              · have h3 : many = (k : Int) := by have := HLEN.out; omega
                subst h3
                have hee : ((k : Int) == (k : Int)) = true := by simp
                go_wp2
                all_goals (go_ret; exact ⟨rfl, HBR.out⟩)
            · have h3 : k = nb := by have := HLEN.out; omega
              have h4 : ¬ (nb : Int) < 0 := by omega
              subst h3
              have hee : ((k : Int) == (k : Int)) = true := by simp
              by_cases h5 : many = (k : Int)
              · subst h5
                go_wp2
                all_goals (go_ret; exact ⟨rfl, HBR.out⟩)
              · have h6 : (k : Int) < many := by omega
                clear h5
                go_wp2
                all_goals (go_ret; exact ⟨rfl, HBR.out⟩)
  · have h9 : 1048576 < len := by omega
    clear hlen
    go_enter Try.func9, Try.ntmps9
    go_wp2
    go_ret
    exact ⟨rfl, Below.refl _ _⟩

end Go.Proofs.Yteceamnmcningaa
