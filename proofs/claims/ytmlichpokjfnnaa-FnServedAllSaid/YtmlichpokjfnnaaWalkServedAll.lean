/- The walk of FnServedAll: it returns true and changes nothing that was there. Condition: the codes' bytes lie in memory. -/
import Derived.Test.YtmlichpokjfnnaaServeLaws
import Derived.Test.YtmlichpokjfnnaaHas
import Derived.Test.YtmlichpokjfnnaaSame
import Derived.Test.YtmlichpokjfnnaaDrawChoke
import Derived.Test.YtmlichpokjfnnaaChoke
import Derived.Test.YtmlichpokjfnnaaSChokeMore
import Derived.Deep.DeepCutAuto
import Derived.Deep.LoopGhost
import Derived.Deep.RegionHeld3
namespace Go.Proofs.Ytmlichpokjfnnaa
open Go.RowKit
set_option linter.unusedVariables false

set_option maxHeartbeats 8000000 in
set_option maxRecDepth 100000 in
theorem walkServedAll (A : Option Addr) (len cap : Nat) (w : World) (hI : In w A len cap) :
    Calls Try.prog 6 #[.slice A len cap] w fun e w' => e = .returned (.bool true) ∧ Below w.heap.size w w' := by
  have hm := hI.len_le
  unfold maxLen at hm
  have HI := Lib.hid hI
  clear hI
  by_cases hlen : len ≤ 1048576
  · go_enter Try.func6, Try.ntmps6
    go_wp2_with fail
    refine (drawChokeServed_any A len cap _ HI.out).mono ?_
    rintro e w1 ⟨X, c, gs, t, rfl, hl7, ht1, ht2, hg1, hb1⟩
    have HG1 := Lib.hid hg1
    have HB1 := Lib.hid hb1
    clear hg1 hb1
    obtain ⟨n, HN⟩ : ∃ v, Hid (gs.length = v) := ⟨_, rfl⟩
    rw [HN.out] at hl7
    obtain ⟨os, HOS⟩ : ∃ v, Hid (servedZ gs t = v) := ⟨_, rfl⟩
    obtain ⟨l, HL⟩ : ∃ v, Hid (os.length = v) := ⟨_, rfl⟩
    have hl7b : l ≤ 4 := by rw [← HL.out, ← HOS.out]; exact servedZ_len gs t
    have HLM : Hid (os.length ≤ maxLen) := by show _ ≤ _; rw [HL.out]; unfold maxLen; omega
    rw [HN.out]
    go_wp2_with fail
    have CI := Lib.hid (chokeServed_any X c gs n t w1 HG1.out.ints HN.out (by omega))
    rw [HOS.out] at CI
    refine CI.out.mono ?_
    rintro e w2 ⟨A2, c2, rfl, ho2, hb2⟩
    rw [HL.out]
    have PO2 := Lib.hid ho2
    clear ho2 CI
    have HG2 := Lib.hid (HG1.out.below hb2)
    have HB2 : Hid (Below w.heap.size w w2) := HB1.out.trans (hb2.mono HB1.out.size)
    clear hb2
    go_wp2_with fail
    have CI := Lib.hid (schokeServed_any X c gs n t w2 HG2.out.ints HN.out (by omega))
    rw [HOS.out] at CI
    refine CI.out.mono ?_
    rintro e w3 ⟨A3, c3, rfl, ho3, hb3⟩
    rw [HL.out]
    have PW3 := Lib.hid ho3
    clear ho3 CI
    have HG3 := Lib.hid (HG2.out.below hb3)
    have HB3 : Hid (Below w.heap.size w w3) := HB2.out.trans (hb3.mono HB2.out.size)
    have PO3 := Lib.hid (PO2.out.below hb3)
    clear hb3
    go_wp2_with fail
    have CI := Lib.hid (same_any A2 c2 os A3 c3 os w3 PO3.out.ints PW3.out.ints HLM.out HLM.out)
    rw [HL.out] at CI
    refine CI.out.mono ?_
    rintro e w4 ⟨rfl, q, hq⟩
    have hb4 : Below w3.heap.size w3 w4 := by rw [hq]; exact below_drewN (Below.refl _ _) q
    clear hq CI
    rw [deci_same os]
    have HG4 := Lib.hid (HG3.out.below hb4)
    have HB4 : Hid (Below w.heap.size w w4) := HB3.out.trans (hb4.mono HB3.out.size)
    have PO4 := Lib.hid (PO3.out.below hb4)
    have PW4 := Lib.hid (PW3.out.below hb4)
    clear hb4
    by_cases hl0 : l = 0
    · subst hl0
      go_wp2_with fail
      have CI := Lib.hid (same_any A2 c2 os A3 c3 os w4 PO4.out.ints PW4.out.ints HLM.out HLM.out)
      rw [HL.out] at CI
      refine CI.out.mono ?_
      rintro e w5 ⟨rfl, q, hq⟩
      have hb5 : Below w4.heap.size w4 w5 := by rw [hq]; exact below_drewN (Below.refl _ _) q
      clear hq CI
      rw [deci_same os]
      have HG5 := Lib.hid (HG4.out.below hb5)
      have HB5 : Hid (Below w.heap.size w w5) := HB4.out.trans (hb5.mono HB4.out.size)
      have PO5 := Lib.hid (PO4.out.below hb5)
      have PW5 := Lib.hid (PW4.out.below hb5)
      clear hb5
      go_wp2
      go_ret
      exact ⟨rfl, HB5.out⟩
    · by_cases hsm : 999 < t + (n : Int)
      · have hwt : IntKind.i64.wrap (t + (n : Int)) = t + (n : Int) := IntWalk.i64_in _ (by omega)
        go_wp2_with fail
        have CI := Lib.hid (same_any A2 c2 os A3 c3 os w4 PO4.out.ints PW4.out.ints HLM.out HLM.out)
        rw [HL.out] at CI
        refine CI.out.mono ?_
        rintro e w5 ⟨rfl, q, hq⟩
        have hb5 : Below w4.heap.size w4 w5 := by rw [hq]; exact below_drewN (Below.refl _ _) q
        clear hq CI
        rw [deci_same os]
        have HG5 := Lib.hid (HG4.out.below hb5)
        have HB5 : Hid (Below w.heap.size w w5) := HB4.out.trans (hb5.mono HB4.out.size)
        have PO5 := Lib.hid (PO4.out.below hb5)
        have PW5 := Lib.hid (PW4.out.below hb5)
        clear hb5
        go_wp2
        go_ret
        exact ⟨rfl, HB5.out⟩
      · have hwt : IntKind.i64.wrap (t + (n : Int)) = t + (n : Int) := IntWalk.i64_in _ (by omega)
        have hlz : ((l : Int) == 0) = false := by simp; omega
        have hlz2 : ¬ (l : Int) = 0 := by omega
        obtain ⟨hG, hT⟩ := servedZ_some (gs := gs) (t := t) (by rw [HOS.out, HL.out]; omega)
        obtain ⟨tn, rfl⟩ : ∃ q : Nat, t = (q : Int) := ⟨t.toNat, by have := okT_iff.1 hT; omega⟩
        have HOE : Hid (os = numZ (servedN gs tn)) := by show _ = _; rw [← HOS.out]; exact served_nat hG hT
        have HSL : Hid ((servedN gs tn).length = l) := by show _ = _; rw [← numZ_length, ← HOE.out]; exact HL.out
        have hn6 : n ≤ 6 := by rw [← HN.out]; exact (okG_iff.1 hG).1
        have ht9 : tn ≤ 999 := by have := okT_iff.1 hT; omega
        have HGG := Lib.hid hG
        have HTT := Lib.hid hT
        clear hG hT ht1 ht2
        go_wp2
        go_loopw [7, 8, 9] (fun i _ _ w' => ∃ k : Nat, k ≤ n ∧ i = .int .i64 (k : Int) ∧ Hid (OwnInts w' w.heap.size X c gs) ∧ Hid (Below w.heap.size w w')) (fun i _ _ _ => n - (intOf i).toNat)
        case atStart => exact ⟨0, by omega, rfl, HG4, HB4⟩
        case round =>
          obtain ⟨i, hi, rfl, HGr, HBr⟩ := hrel
          by_cases hlt : i < n
          · have hii : (i : Int) < (n : Int) := by omega
            have HF : Hid (foundB gs tn i n = true) := by show _ = _; rw [← HN.out]; exact found_all (by rw [HN.out]; exact hlt)
            go_wp2
            go_loopw [8, 9] (fun f k w' => ∃ j : Nat, j ≤ n ∧ k = .int .i64 (j : Int) ∧ f = .bool (foundB gs tn i j) ∧ Hid (OwnInts w' w.heap.size X c gs) ∧ Hid (Below w.heap.size w w')) (fun _ k _ => n - (intOf k).toNat)
            case atStart => exact ⟨0, by omega, rfl, by rw [found_zero], HGr, HBr⟩
            case round =>
              obtain ⟨j, hj, rfl, rfl, HG2, HB2⟩ := hrel
              have hst := found_step gs tn i j
              obtain ⟨f, HFF⟩ : ∃ v, Hid (foundB gs tn i j = v) := ⟨_, rfl⟩
              rw [HFF.out] at hst ⊢
              have HST := Lib.hid hst
              clear hst
              by_cases hjn : j < n
              · have hjz : (j : Int) < (n : Int) := by omega
                cases f with
                | true =>
                  have HE : Hid (foundB gs tn i (j + 1) = true) := by show _ = _; rw [HST.out]; rfl
                  go_wp2
                  go_roundw
                  case rel => exact ⟨j + 1, by omega, by go_num, by rw [HE.out], HG2, HB2⟩
                  case measure => simp [intOf]; omega
                | false =>
                  have hws : IntKind.i64.wrap ((tn : Int) + (j : Int)) = (tn : Int) + (j : Int) := IntWalk.i64_in _ (by omega)
                  have CI := Lib.hid (chokeServed_any X c gs n ((tn : Int) + (j : Int)) wr HG2.out.ints HN.out (by omega))
                  rw [show servedZ gs ((tn : Int) + (j : Int)) = numZ (servedN gs (tn + j)) by
                    have e : (tn : Int) + (j : Int) = ((tn + j : Nat) : Int) := by omega
                    rw [e]
                    exact served_nat HGG.out (okT_iff.2 ⟨by omega, by omega⟩)] at CI
                  obtain ⟨l2, HL2⟩ : ∃ v, Hid ((numZ (servedN gs (tn + j))).length = v) := ⟨_, rfl⟩
                  have hl2 : l2 ≤ 4 := by rw [← HL2.out, numZ_length, served_length]; omega
                  go_wp2_with fail
                  refine CI.out.mono ?_
                  rintro e w5 ⟨A5, c5, rfl, ho5, hb5⟩
                  rw [HL2.out]
                  have HG5 := Lib.hid (HG2.out.below hb5)
                  have HB5 : Hid (Below w.heap.size w w5) := HB2.out.trans (hb5.mono HB2.out.size)
                  have CH := hasL_any A5 c5 (numZ (servedN gs (tn + j))) (i : Int) w5 ho5.ints (by rw [HL2.out]; unfold maxLen; omega)
                  rw [HL2.out, has_num] at CH
                  have HC := Lib.hid CH
                  obtain ⟨r, HR⟩ : ∃ v, Hid (decide (i ∈ servedN gs (tn + j)) = v) := ⟨_, rfl⟩
                  rw [HR.out] at HC
                  have HE : Hid (foundB gs tn i (j + 1) = r) := by show _ = _; rw [HST.out, HR.out]; rfl
                  clear ho5 hb5 CH CI
                  go_wp2_with fail
                  refine HC.out.mono ?_
                  rintro e w6 ⟨rfl, hw6⟩
                  cases hw6
                  go_wp2
                  go_roundw
                  case rel => exact ⟨j + 1, by omega, by go_num, by rw [HE.out], HG5, HB5⟩
                  case measure => simp [intOf]; omega
              · have hjj : j = n := by omega
                subst hjj
                have hf : f = true := by rw [← HFF.out]; exact HF.out
                subst hf
                go_wp2
                go_roundw
                case rel => exact ⟨i + 1, by omega, by go_num, HG2, HB2⟩
                case measure => simp [intOf]; omega
          · have hin : i = n := by omega
            subst hin
            go_wp2
            go_ret
            exact ⟨rfl, HBr.out⟩
  · have h9 : 1048576 < len := by omega
    clear hlen
    go_enter Try.func6, Try.ntmps6
    go_wp2
    go_ret
    exact ⟨rfl, Below.refl _ _⟩

end Go.Proofs.Ytmlichpokjfnnaa
