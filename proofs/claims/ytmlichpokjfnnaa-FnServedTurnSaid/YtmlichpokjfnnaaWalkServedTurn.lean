/- The walk of FnServedTurn: it returns true and changes nothing that was there. Condition: the codes' bytes lie in memory. -/
import Derived.Test.YtmlichpokjfnnaaServeLaws
import Derived.Test.YtmlichpokjfnnaaHas
import Derived.Test.YtmlichpokjfnnaaSame
import Derived.Test.YtmlichpokjfnnaaDrawChoke
import Derived.Test.YtmlichpokjfnnaaChoke
import Derived.Test.YtmlichpokjfnnaaSChokeMore
import Derived.Deep.DeepCutAuto
import Derived.Deep.LoopGhost
import Derived.Deep.RegionHeld3
namespace Go.Proofs.Ytmlichpokjfnnaa
open Go.RowKit
set_option linter.unusedVariables false

set_option maxHeartbeats 8000000 in
set_option maxRecDepth 100000 in
theorem walkServedTurn (A : Option Addr) (len cap : Nat) (w : World) (hI : In w A len cap) :
    Calls Try.prog 5 #[.slice A len cap] w fun e w' => e = .returned (.bool true) ∧ Below w.heap.size w w' := by
  have hm := hI.len_le
  unfold maxLen at hm
  have HI := Lib.hid hI
  clear hI
  by_cases hlen : len ≤ 1048576
  · go_enter Try.func5, Try.ntmps5
    go_wp2_with fail
    refine (drawChokeServed_any A len cap _ HI.out).mono ?_
    rintro e w1 ⟨X, c, gs, t, rfl, hl7, ht1, ht2, hg1, hb1⟩
    have HG1 := Lib.hid hg1
    have HB1 := Lib.hid hb1
    clear hg1 hb1
    obtain ⟨n, HN⟩ : ∃ v, Hid (gs.length = v) := ⟨_, rfl⟩
    rw [HN.out] at hl7
    obtain ⟨os, HOS⟩ : ∃ v, Hid (servedZ gs t = v) := ⟨_, rfl⟩
    obtain ⟨l, HL⟩ : ∃ v, Hid (os.length = v) := ⟨_, rfl⟩
    have hl7b : l ≤ 4 := by rw [← HL.out, ← HOS.out]; exact servedZ_len gs t
    have HLM : Hid (os.length ≤ maxLen) := by show _ ≤ _; rw [HL.out]; unfold maxLen; omega
    rw [HN.out]
    go_wp2_with fail
    have CI := Lib.hid (chokeServed_any X c gs n t w1 HG1.out.ints HN.out (by omega))
    rw [HOS.out] at CI
    refine CI.out.mono ?_
    rintro e w2 ⟨A2, c2, rfl, ho2, hb2⟩
    rw [HL.out]
    have PO2 := Lib.hid ho2
    clear ho2 CI
    have HG2 := Lib.hid (HG1.out.below hb2)
    have HB2 : Hid (Below w.heap.size w w2) := HB1.out.trans (hb2.mono HB1.out.size)
    clear hb2
    go_wp2_with fail
    have CI := Lib.hid (schokeServed_any X c gs n t w2 HG2.out.ints HN.out (by omega))
    rw [HOS.out] at CI
    refine CI.out.mono ?_
    rintro e w3 ⟨A3, c3, rfl, ho3, hb3⟩
    rw [HL.out]
    have PW3 := Lib.hid ho3
    clear ho3 CI
    have HG3 := Lib.hid (HG2.out.below hb3)
    have HB3 : Hid (Below w.heap.size w w3) := HB2.out.trans (hb3.mono HB2.out.size)
    have PO3 := Lib.hid (PO2.out.below hb3)
    clear hb3
    go_wp2_with fail
    have CI := Lib.hid (same_any A2 c2 os A3 c3 os w3 PO3.out.ints PW3.out.ints HLM.out HLM.out)
    rw [HL.out] at CI
    refine CI.out.mono ?_
    rintro e w4 ⟨rfl, q, hq⟩
    have hb4 : Below w3.heap.size w3 w4 := by rw [hq]; exact below_drewN (Below.refl _ _) q
    clear hq CI
    rw [deci_same os]
    have HG4 := Lib.hid (HG3.out.below hb4)
    have HB4 : Hid (Below w.heap.size w w4) := HB3.out.trans (hb4.mono HB3.out.size)
    have PO4 := Lib.hid (PO3.out.below hb4)
    have PW4 := Lib.hid (PW3.out.below hb4)
    clear hb4
    by_cases hn3 : n ≤ 3
    · have hn3z : (n : Int) ≤ 3 := by omega
      go_wp2_with fail
      have CI := Lib.hid (same_any A2 c2 os A3 c3 os w4 PO4.out.ints PW4.out.ints HLM.out HLM.out)
      rw [HL.out] at CI
      refine CI.out.mono ?_
      rintro e w5 ⟨rfl, q, hq⟩
      have hb5 : Below w4.heap.size w4 w5 := by rw [hq]; exact below_drewN (Below.refl _ _) q
      clear hq CI
      rw [deci_same os]
      have HG5 := Lib.hid (HG4.out.below hb5)
      have HB5 : Hid (Below w.heap.size w w5) := HB4.out.trans (hb5.mono HB4.out.size)
      have PO5 := Lib.hid (PO4.out.below hb5)
      have PW5 := Lib.hid (PW4.out.below hb5)
      clear hb5
      go_wp2
      go_ret
      exact ⟨rfl, HB5.out⟩
    · have hn3z : ¬ (n : Int) ≤ 3 := by omega
      by_cases hl0 : l = 0
      · subst hl0
        go_wp2_with fail
        have CI := Lib.hid (same_any A2 c2 os A3 c3 os w4 PO4.out.ints PW4.out.ints HLM.out HLM.out)
        rw [HL.out] at CI
        refine CI.out.mono ?_
        rintro e w5 ⟨rfl, q, hq⟩
        have hb5 : Below w4.heap.size w4 w5 := by rw [hq]; exact below_drewN (Below.refl _ _) q
        clear hq CI
        rw [deci_same os]
        have HG5 := Lib.hid (HG4.out.below hb5)
        have HB5 : Hid (Below w.heap.size w w5) := HB4.out.trans (hb5.mono HB4.out.size)
        have PO5 := Lib.hid (PO4.out.below hb5)
        have PW5 := Lib.hid (PW4.out.below hb5)
        clear hb5
        go_wp2
        go_ret
        exact ⟨rfl, HB5.out⟩
      · have hlz : ((l : Int) == 0) = false := by simp; omega
        have hlz2 : ¬ (l : Int) = 0 := by omega
        obtain ⟨hG, hT⟩ := servedZ_some (gs := gs) (t := t) (by rw [HOS.out, HL.out]; omega)
        obtain ⟨tn, rfl⟩ : ∃ q : Nat, t = (q : Int) := ⟨t.toNat, by have := okT_iff.1 hT; omega⟩
        have HOE : Hid (os = numZ (servedN gs tn)) := by show _ = _; rw [← HOS.out]; exact served_nat hG hT
        have HSL : Hid ((servedN gs tn).length = l) := by show _ = _; rw [← numZ_length, ← HOE.out]; exact HL.out
        have hn6 : n ≤ 6 := by rw [← HN.out]; exact (okG_iff.1 hG).1
        have ht9 : tn ≤ 999 := by have := okT_iff.1 hT; omega
        have HGG := Lib.hid hG
        have HTT := Lib.hid hT
        clear hG hT ht1 ht2
        obtain ⟨q0, hq0, hqs⟩ := turn_in (gs := gs) (t := tn) (by rw [HN.out]; omega)
        have HQ := Lib.hid hq0
        have HQS := Lib.hid hqs
        clear hq0 hqs
        go_wp2_with fail
        have CI := Lib.hid (chokeTurn_any X c gs n (tn : Int) w4 HG4.out.ints HN.out (by omega))
        rw [turnI_nat HGG.out HTT.out, HQ.out] at CI
        refine CI.out.mono ?_
        rintro e w5 ⟨rfl, hb5⟩
        clear CI
        have HG5 := Lib.hid (HG4.out.below hb5)
        have HB5 : Hid (Below w.heap.size w w5) := HB4.out.trans (hb5.mono HB4.out.size)
        have PO5 := Lib.hid (PO4.out.below hb5)
        have PW5 := Lib.hid (PW4.out.below hb5)
        clear hb5
        go_wp2
        go_loopw [8, 9] (fun i _ w' => ∃ k : Nat, k ≤ n ∧ i = .int .i64 (k : Int) ∧ ∃ q, w' = w5.drewN q) (fun i _ _ => n - (intOf i).toNat)
        case atStart => exact ⟨0, by omega, rfl, 0, rfl⟩
        case round =>
          obtain ⟨i, hi, rfl, nd, rfl⟩ := hrel
          by_cases hlt : i < n
          · obtain ⟨gb, go, hXA, _, hgc⟩ := HG5.out.ints (by rw [HN.out]; omega)
            subst hXA
            have hci := hgc i (by rw [HN.out]; exact hlt)
            obtain ⟨y, HY⟩ : ∃ v, Hid (nth gs i = v) := ⟨_, rfl⟩
            rw [HY.out] at hci
            have HGC : Hid (∀ k, k < n → w5.cell? ⟨gb, go + k, none⟩ = some (.int .i64 (nth gs k))) := fun k hk => hgc k (by rw [HN.out]; exact hk)
            obtain ⟨ob, oo, hOA, _, hoc⟩ := PO5.out.ints (by rw [HL.out]; omega)
            subst hOA
            have HOC : Hid (∀ k, k < l → w5.cell? ⟨ob, oo + k, none⟩ = some (.int .i64 (nth os k))) := fun k hk => hoc k (by rw [HL.out]; exact hk)
            have hii : (i : Int) < (n : Int) := by omega
            have hi0 : (0 : Int) ≤ (i : Int) := by omega
            have CH : Hid (∀ q, Calls Try.prog 19 #[.slice (some ⟨ob, oo, none⟩) l c2, .int .i64 (i : Int)] (w5.drewN q) fun e w' => e = .returned (.bool (decide (i ∈ servedN gs tn))) ∧ w' = w5.drewN q) := by
              intro q
              have := hasL_any (some ⟨ob, oo, none⟩) c2 os (i : Int) (w5.drewN q) (PO5.out.ints.drewN q) HLM.out
              rw [HL.out, HOE.out, has_num] at this
              exact this
            clear hgc hoc
            go_wp2
            go_loopw [9] (fun k w' => ∃ j : Nat, j ≤ l ∧ k = .int .i64 (j : Int) ∧ ∃ q, w' = w5.drewN q) (fun k _ => l - (intOf k).toNat)
            case atStart => exact ⟨0, by omega, rfl, nd, rfl⟩
            case round =>
              obtain ⟨j, hj, rfl, ne, rfl⟩ := hrel
              by_cases hjl : j < l
              · obtain ⟨x, hx, hxn, hxs⟩ := served_at (gs := gs) (t := tn) (k := j) (by rw [HSL.out]; exact hjl)
                have hcj := HOC.out j hjl
                rw [HOE.out, hx] at hcj
                rw [HN.out] at hxn
                have hcx := HGC.out x hxn
                have hjz : (j : Int) < (l : Int) := by omega
                have hj0 : (0 : Int) ≤ (j : Int) := by omega
                have hxz : (x : Int) < (n : Int) := by omega
                have hx0 : (0 : Int) ≤ (x : Int) := by omega
                clear hx
                cases hin : decide (i ∈ servedN gs tn) with
                | true =>
                  have CH2 := CH
                  rw [hin] at CH2
                  clear hin hxs hcx
                  go_wp2_with fail
                  go_quiet ((go_at_call 19; refine (CH2.out _).mono ?_; rintro e w' ⟨rfl, rfl⟩; exact ⟨rfl, _, by first | rfl | exact (World.drewN_drewN _ _ _).symm⟩))
                  go_wp2
                  go_roundw
                  case rel => exact ⟨j + 1, by omega, by go_num, _, by first | rfl | exact World.drewN_drewN _ _ _⟩
                  case measure => simp [intOf]; omega
                | false =>
                  have CH2 := CH
                  rw [hin] at CH2
                  have hni : i ∉ servedN gs tn := of_decide_eq_false hin
                  clear hin
                  by_cases hxq : x = q0
                  · have hneq : ((x : Int) != (q0 : Int)) = false := by simp; omega
                    have heq : ((x : Int) == (q0 : Int)) = true := by simp; omega
                    clear hni hxs hcx hxq
                    go_wp2_with fail
                    go_quiet ((go_at_call 19; refine (CH2.out _).mono ?_; rintro e w' ⟨rfl, rfl⟩; exact ⟨rfl, _, by first | rfl | exact (World.drewN_drewN _ _ _).symm⟩))
                    go_wp2
                    go_roundw
                    case rel => exact ⟨j + 1, by omega, by go_num, _, by first | rfl | exact World.drewN_drewN _ _ _⟩
                    case measure => simp [intOf]; omega
                  · have hneq : ((x : Int) != (q0 : Int)) = true := by simp; omega
                    have heq : ((x : Int) == (q0 : Int)) = false := by simp; omega
                    have hmost := served_most (gs := gs) (t := tn) (i := i) (x := x) (by rw [HN.out]; exact hlt) hni hxs (by rw [HQ.out]; omega)
                    obtain ⟨z, HZ⟩ : ∃ v, Hid (nth gs x = v) := ⟨_, rfl⟩
                    rw [HZ.out] at hcx hmost
                    rw [HY.out] at hmost
                    have hzd : decide (z < y) = false := by simp; omega
                    clear hni hxs hxq
                    go_wp2_with fail
                    go_quiet ((go_at_call 19; refine (CH2.out _).mono ?_; rintro e w' ⟨rfl, rfl⟩; exact ⟨rfl, _, by first | rfl | exact (World.drewN_drewN _ _ _).symm⟩))
                    go_wp2
                    go_roundw
                    case rel => exact ⟨j + 1, by omega, by go_num, _, by first | rfl | exact World.drewN_drewN _ _ _⟩
                    case measure => simp [intOf]; omega
              · have hjj : j = l := by omega
                subst hjj
                go_wp2
                go_roundw
                case rel => exact ⟨i + 1, by omega, by go_num, _, rfl⟩
                case measure => simp [intOf]; omega
          · have hin : i = n := by omega
            subst hin
            have CH := hasL_any A2 c2 os (q0 : Int) (w5.drewN nd) (PO5.out.ints.drewN nd) HLM.out
            rw [HL.out, HOE.out, has_num, decide_eq_true HQS.out] at CH
            have HC := Lib.hid CH
            clear CH
            go_wp2_with fail
            refine HC.out.mono ?_
            rintro e w6 ⟨rfl, rfl⟩
            go_wp2
            go_ret
            exact ⟨rfl, below_drewN HB5.out _⟩
  · have h9 : 1048576 < len := by omega
    clear hlen
    go_enter Try.func5, Try.ntmps5
    go_wp2
    go_ret
    exact ⟨rfl, Below.refl _ _⟩

end Go.Proofs.Ytmlichpokjfnnaa
