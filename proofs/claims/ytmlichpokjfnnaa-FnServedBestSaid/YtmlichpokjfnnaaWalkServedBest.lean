/- The walk of FnServedBest: it returns true and changes nothing that was there. Condition: the codes' bytes lie in memory. -/
import Derived.Test.YtmlichpokjfnnaaServeLaws
import Derived.Test.YtmlichpokjfnnaaHas
import Derived.Test.YtmlichpokjfnnaaSame
import Derived.Test.YtmlichpokjfnnaaDrawChoke
import Derived.Test.YtmlichpokjfnnaaChoke
import Derived.Test.YtmlichpokjfnnaaSChokeMore
import Derived.Deep.DeepCutAuto
import Derived.Deep.LoopGhost
import Derived.Deep.RegionHeld3
namespace Go.Proofs.Ytmlichpokjfnnaa
open Go.RowKit
set_option linter.unusedVariables false

set_option maxHeartbeats 8000000 in
set_option maxRecDepth 100000 in
theorem walkServedBest (A : Option Addr) (len cap : Nat) (w : World) (hI : In w A len cap) :
    Calls Try.prog 4 #[.slice A len cap] w fun e w' => e = .returned (.bool true) ∧ Below w.heap.size w w' := by
  have hm := hI.len_le
  unfold maxLen at hm
  have HI := Lib.hid hI
  clear hI
  by_cases hlen : len ≤ 1048576
  · go_enter Try.func4, Try.ntmps4
    go_wp2_with fail
    refine (drawChokeServed_any A len cap _ HI.out).mono ?_
    rintro e w1 ⟨X, c, gs, t, rfl, hl7, ht1, ht2, hg1, hb1⟩
    have HG1 := Lib.hid hg1
    have HB1 := Lib.hid hb1
    clear hg1 hb1
    obtain ⟨n, HN⟩ : ∃ v, Hid (gs.length = v) := ⟨_, rfl⟩
    rw [HN.out] at hl7
    obtain ⟨os, HOS⟩ : ∃ v, Hid (servedZ gs t = v) := ⟨_, rfl⟩
    obtain ⟨l, HL⟩ : ∃ v, Hid (os.length = v) := ⟨_, rfl⟩
    have hl7b : l ≤ 4 := by rw [← HL.out, ← HOS.out]; exact servedZ_len gs t
    have HLM : Hid (os.length ≤ maxLen) := by show _ ≤ _; rw [HL.out]; unfold maxLen; omega
    rw [HN.out]
    go_wp2_with fail
    have CI := Lib.hid (chokeServed_any X c gs n t w1 HG1.out.ints HN.out (by omega))
    rw [HOS.out] at CI
    refine CI.out.mono ?_
    rintro e w2 ⟨A2, c2, rfl, ho2, hb2⟩
    rw [HL.out]
    have PO2 := Lib.hid ho2
    clear ho2 CI
    have HG2 := Lib.hid (HG1.out.below hb2)
    have HB2 : Hid (Below w.heap.size w w2) := HB1.out.trans (hb2.mono HB1.out.size)
    clear hb2
    go_wp2_with fail
    have CI := Lib.hid (schokeServed_any X c gs n t w2 HG2.out.ints HN.out (by omega))
    rw [HOS.out] at CI
    refine CI.out.mono ?_
    rintro e w3 ⟨A3, c3, rfl, ho3, hb3⟩
    rw [HL.out]
    have PW3 := Lib.hid ho3
    clear ho3 CI
    have HG3 := Lib.hid (HG2.out.below hb3)
    have HB3 : Hid (Below w.heap.size w w3) := HB2.out.trans (hb3.mono HB2.out.size)
    have PO3 := Lib.hid (PO2.out.below hb3)
    clear hb3
    go_wp2_with fail
    have CI := Lib.hid (same_any A2 c2 os A3 c3 os w3 PO3.out.ints PW3.out.ints HLM.out HLM.out)
    rw [HL.out] at CI
    refine CI.out.mono ?_
    rintro e w4 ⟨rfl, q, hq⟩
    have hb4 : Below w3.heap.size w3 w4 := by rw [hq]; exact below_drewN (Below.refl _ _) q
    clear hq CI
    rw [deci_same os]
    have HG4 := Lib.hid (HG3.out.below hb4)
    have HB4 : Hid (Below w.heap.size w w4) := HB3.out.trans (hb4.mono HB3.out.size)
    have PO4 := Lib.hid (PO3.out.below hb4)
    have PW4 := Lib.hid (PW3.out.below hb4)
    clear hb4
    by_cases hl0 : l = 0
    · subst hl0
      go_wp2_with fail
      have CI := Lib.hid (same_any A2 c2 os A3 c3 os w4 PO4.out.ints PW4.out.ints HLM.out HLM.out)
      rw [HL.out] at CI
      refine CI.out.mono ?_
      rintro e w5 ⟨rfl, q, hq⟩
      have hb5 : Below w4.heap.size w4 w5 := by rw [hq]; exact below_drewN (Below.refl _ _) q
      clear hq CI
      rw [deci_same os]
      have HG5 := Lib.hid (HG4.out.below hb5)
      have HB5 : Hid (Below w.heap.size w w5) := HB4.out.trans (hb5.mono HB4.out.size)
      have PO5 := Lib.hid (PO4.out.below hb5)
      have PW5 := Lib.hid (PW4.out.below hb5)
      clear hb5
      go_wp2
      go_ret
      exact ⟨rfl, HB5.out⟩
    · have hlz : ((l : Int) == 0) = false := by simp; omega
      have hlz2 : ¬ (l : Int) = 0 := by omega
      obtain ⟨hG, hT⟩ := servedZ_some (gs := gs) (t := t) (by rw [HOS.out, HL.out]; omega)
      obtain ⟨tn, rfl⟩ : ∃ q : Nat, t = (q : Int) := ⟨t.toNat, by have := okT_iff.1 hT; omega⟩
      have HOE : Hid (os = numZ (servedN gs tn)) := by show _ = _; rw [← HOS.out]; exact served_nat hG hT
      have HSL : Hid ((servedN gs tn).length = l) := by show _ = _; rw [← numZ_length, ← HOE.out]; exact HL.out
      have hn6 : n ≤ 6 := by rw [← HN.out]; exact (okG_iff.1 hG).1
      have ht9 : tn ≤ 999 := by have := okT_iff.1 hT; omega
      have HGG := Lib.hid hG
      have HTT := Lib.hid hT
      clear hG hT ht1 ht2
      go_wp2
      go_loopw [7, 8, 9] (fun i _ _ w' => ∃ k : Nat, k ≤ n ∧ i = .int .i64 (k : Int) ∧ ∃ q, w' = w4.drewN q) (fun i _ _ _ => n - (intOf i).toNat)
      case atStart => exact ⟨0, by omega, rfl, 0, rfl⟩
      case round =>
        obtain ⟨i, hi, rfl, nd, rfl⟩ := hrel
        by_cases hlt : i < n
        · obtain ⟨gb, go, hXA, _, hgc⟩ := HG4.out.ints (by rw [HN.out]; omega)
          subst hXA
          have hci := hgc i (by rw [HN.out]; exact hlt)
          obtain ⟨x, HX⟩ : ∃ v, Hid (nth gs i = v) := ⟨_, rfl⟩
          rw [HX.out] at hci
          have HGC : Hid (∀ k, k < n → w4.cell? ⟨gb, go + k, none⟩ = some (.int .i64 (nth gs k))) := fun k hk => hgc k (by rw [HN.out]; exact hk)
          have hii : (i : Int) < (n : Int) := by omega
          have hi0 : (0 : Int) ≤ (i : Int) := by omega
          clear hgc
          go_wp2
          go_loopw [8, 9] (fun m k w' => ∃ j : Nat, j ≤ n ∧ k = .int .i64 (j : Int) ∧ m = .int .i64 ((geN gs i j : Nat) : Int) ∧ ∃ q, w' = w4.drewN q) (fun _ k _ => n - (intOf k).toNat)
          case atStart => exact ⟨0, by omega, rfl, by rw [geN_zero]; rfl, nd, rfl⟩
          case round =>
            obtain ⟨j, hj, rfl, rfl, ne, rfl⟩ := hrel
            have hge := geN_le gs i j
            obtain ⟨m, HM⟩ : ∃ v, Hid (geN gs i j = v) := ⟨_, rfl⟩
            rw [HM.out] at hge ⊢
            by_cases hjn : j < n
            · have hcj := HGC.out j hjn
              obtain ⟨y, HY⟩ : ∃ v, Hid (nth gs j = v) := ⟨_, rfl⟩
              rw [HY.out] at hcj
              have hji : (j : Int) < (n : Int) := by omega
              have hj0 : (0 : Int) ≤ (j : Int) := by omega
              by_cases e : j = i
              · have HE : Hid (geN gs i (j + 1) = m) := by show _ = _; rw [← HM.out]; exact geN_no (fun h => h.1 e)
                subst e
                have hneq : ((j : Int) != (j : Int)) = false := by simp
                have heq : ((j : Int) == (j : Int)) = true := by simp
                go_wp2_with fail
                go_quiet (fail)
                go_wp2
                go_roundw
                case rel => exact ⟨j + 1, by omega, by go_num, by rw [HE.out], _, by first | rfl | exact World.drewN_drewN _ _ _⟩
                case measure => simp [intOf]; omega
              · have hneq : ((j : Int) != (i : Int)) = true := by simp; omega
                have heq : ((j : Int) == (i : Int)) = false := by simp; omega
                by_cases hxy : x ≤ y
                · have HE : Hid (geN gs i (j + 1) = m + 1) := by show _ = _; rw [← HM.out]; exact geN_yes e (by rw [HX.out, HY.out]; exact hxy)
                  clear e
                  go_wp2_with fail
                  go_quiet (fail)
                  go_wp2
                  go_roundw
                  case rel => exact ⟨j + 1, by omega, by go_num, by rw [HE.out]; go_num, _, by first | rfl | exact World.drewN_drewN _ _ _⟩
                  case measure => simp [intOf]; omega
                · have HE : Hid (geN gs i (j + 1) = m) := by show _ = _; rw [← HM.out]; exact geN_no (fun h => hxy (by have := h.2; rwa [HX.out, HY.out] at this))
                  clear e
                  go_wp2_with fail
                  go_quiet (fail)
                  go_wp2
                  go_roundw
                  case rel => exact ⟨j + 1, by omega, by go_num, by rw [HE.out], _, by first | rfl | exact World.drewN_drewN _ _ _⟩
                  case measure => simp [intOf]; omega
            · have hjj : j = n := by omega
              subst hjj
              by_cases h3 : m < 3
              · have hs : i ∈ servedN gs tn := best_served tn (by rw [HN.out]; exact hlt) (by rw [HN.out, HM.out]; exact h3)
                have CH := hasL_any A2 c2 os (i : Int) (w4.drewN ne) (PO4.out.ints.drewN ne) HLM.out
                rw [HL.out, HOE.out, has_num, decide_eq_true hs] at CH
                have HC := Lib.hid CH
                have h3z : (m : Int) < 3 := by omega
                clear CH hs
                go_wp2_with fail
                refine HC.out.mono ?_
                rintro e w5 ⟨rfl, rfl⟩
                go_wp2
                go_roundw
                case rel => exact ⟨i + 1, by omega, by go_num, _, rfl⟩
                case measure => simp [intOf]; omega
              · have h3z : ¬ (m : Int) < 3 := by omega
                go_wp2
                go_roundw
                case rel => exact ⟨i + 1, by omega, by go_num, _, rfl⟩
                case measure => simp [intOf]; omega
        · have hin : i = n := by omega
          subst hin
          go_wp2
          go_ret
          exact ⟨rfl, below_drewN HB4.out _⟩
  · have h9 : 1048576 < len := by omega
    clear hlen
    go_enter Try.func4, Try.ntmps4
    go_wp2
    go_ret
    exact ⟨rfl, Below.refl _ _⟩

end Go.Proofs.Ytmlichpokjfnnaa
