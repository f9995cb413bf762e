/- The walk of FnRareOrder: it returns true and changes nothing that was there. Condition: the codes' bytes lie in memory. -/
import Derived.Test.YtgjnhfciphiciaaRareLaws
import Derived.Test.YtgjnhfciphiciaaHolders
import Derived.Test.YtgjnhfciphiciaaSame
import Derived.Test.YtgjnhfciphiciaaDrawPeers
namespace Go.Proofs.Ytgjnhfciphiciaa
open Go.RowKit
set_option linter.unusedVariables false

set_option maxHeartbeats 8000000 in
set_option maxRecDepth 100000 in
theorem walkRareOrder (A : Option Addr) (len cap : Nat) (w : World) (hI : In w A len cap) :
    Calls Try.prog 4 #[.slice A len cap] w fun e w' => e = .returned (.bool true) ∧ Below w.heap.size w w' := by
  have hm := hI.len_le
  unfold maxLen at hm
  have HI := Lib.hid hI
  clear hI
  by_cases hlen : len ≤ 1048576
  · go_enter Try.func4, Try.ntmps4
    go_wp2_with fail
    refine (drawRareOrder_any A len cap _ HI.out).mono ?_
    rintro e w1 ⟨X, c, hs, Y, d, mine, rfl, hl7, hm18, hp1, ho1, hb1⟩
    have PP1 := Lib.hid hp1
    have PM1 := Lib.hid ho1
    have HB1 := Lib.hid hb1
    clear hp1 ho1 hb1
    obtain ⟨n, HN⟩ : ∃ v, Hid (hs.length = v) := ⟨_, rfl⟩
    obtain ⟨m, HM⟩ : ∃ v, Hid (mine.length = v) := ⟨_, rfl⟩
    obtain ⟨os, HOS⟩ : ∃ v, Hid (natZ (orderN (pz hs) mine) = v) := ⟨_, rfl⟩
    obtain ⟨l, HL⟩ : ∃ v, Hid (os.length = v) := ⟨_, rfl⟩
    rw [HN.out] at hl7
    rw [HM.out] at hm18
    have hl16 : l ≤ 16 := by rw [← HL.out, ← HOS.out, natZ_length]; exact orderN_len _ _
    have HLM : Hid (os.length ≤ maxLen) := by show _ ≤ _; rw [HL.out]; unfold maxLen; omega
    rw [HN.out, HM.out]
    go_wp2_with fail
    have CI := Lib.hid (order_any X c hs Y d mine w1 PP1.out PM1.out.ints)
    rw [HN.out, HM.out, HOS.out] at CI
    refine CI.out.mono ?_
    rintro e w2 ⟨A2, c2, rfl, ho2, hb2⟩
    rw [HL.out]
    have PO2 := Lib.hid ho2
    clear ho2 CI
    have PP2 := Lib.hid (PP1.out.belowS hb2)
    have PM2 := Lib.hid (PM1.out.below hb2)
    have HB2 : Hid (Below w.heap.size w w2) := HB1.out.trans (hb2.mono HB1.out.size)
    clear hb2
    go_wp2_with fail
    have CI := Lib.hid (sorder_any X c hs Y d mine w2 PP2.out PM2.out.ints)
    rw [HN.out, HM.out, HOS.out] at CI
    refine CI.out.mono ?_
    rintro e w3 ⟨A3, c3, rfl, ho3, hb3⟩
    rw [HL.out]
    have PW3 := Lib.hid ho3
    clear ho3 CI
    have PP3 := Lib.hid (PP2.out.belowS hb3)
    have PM3 := Lib.hid (PM2.out.below hb3)
    have HB3 : Hid (Below w.heap.size w w3) := HB2.out.trans (hb3.mono HB2.out.size)
    have PO3 := Lib.hid (PO2.out.below hb3)
    clear hb3
    go_wp2_with fail
    have CI := Lib.hid (same_any A2 c2 os A3 c3 os w3 PO3.out.ints PW3.out.ints HLM.out HLM.out)
    rw [HL.out] at CI
    refine CI.out.mono ?_
    rintro e w4 ⟨rfl, q, hq⟩
    have hb4 : Below w3.heap.size w3 w4 := by rw [hq]; exact below_drewN (Below.refl _ _) q
    clear hq CI
    rw [deci_self os]
    have PP4 := Lib.hid (PP3.out.belowS hb4)
    have PM4 := Lib.hid (PM3.out.below hb4)
    have HB4 : Hid (Below w.heap.size w w4) := HB3.out.trans (hb4.mono HB3.out.size)
    have PO4 := Lib.hid (PO3.out.below hb4)
    have PW4 := Lib.hid (PW3.out.below hb4)
    clear hb4
    go_wp2
    go_loopw [7] (fun i w' => ∃ k : Nat, k ≤ l ∧ i = .int .i64 ((k : Int) + 1) ∧ ∃ q, w' = w4.drewN q) (fun i _ => l - (intOf i).toNat)
    case atStart => exact ⟨0, by omega, rfl, 0, rfl⟩
    case round =>
      obtain ⟨k, hk, rfl, nd, rfl⟩ := hrel
      by_cases hlt : k + 1 < l
      · have hl : k + 1 < (orderN (pz hs) mine).length := by rw [← natZ_length, HOS.out, HL.out]; exact hlt
        have hl0 : k < (orderN (pz hs) mine).length := by omega
        have hnx := orderN_next hl
        have hx16 := orderN_at (ps := pz hs) (mine := mine) (i := k) (by omega)
        have hy16 := orderN_at (ps := pz hs) (mine := mine) (i := k + 1) hl
        have hok := (orderN_some (ps := pz hs) (mine := mine) (by omega)).1
        have hnk := nth_natZ (orderN (pz hs) mine) k (by omega)
        have hnk1 := nth_natZ (orderN (pz hs) mine) (k + 1) hl
        rw [HOS.out] at hnk hnk1
        obtain ⟨b, o, hA, _, hc⟩ := PO4.out.ints (by rw [HL.out]; omega)
        have hc0 := hc k (by rw [HL.out]; omega)
        have hc1 := hc (k + 1) (by rw [HL.out]; omega)
        rw [hnk] at hc0
        rw [hnk1] at hc1
        subst hA
        obtain ⟨x, HX⟩ : ∃ v, Hid ((orderN (pz hs) mine)[k]'hl0 = v) := ⟨_, rfl⟩
        obtain ⟨y, HY⟩ : ∃ v, Hid ((orderN (pz hs) mine)[k + 1]'hl = v) := ⟨_, rfl⟩
        rw [HX.out] at hc0 hx16 hnx
        rw [HY.out] at hc1 hy16 hnx
        unfold rarer at hnx
        have CX := Lib.hid (count_any X c hs (x : Int) (w4.drewN nd) _ (PP4.out.below (below_drewN (Below.refl _ _) nd) (Nat.le_refl _)))
        have CY := Lib.hid (count_any X c hs (y : Int) (w4.drewN nd) _ (PP4.out.below (below_drewN (Below.refl _ _) nd) (Nat.le_refl _)))
        rw [countZ_nat hok hx16, HN.out] at CX
        rw [countZ_nat hok hy16, HN.out] at CY
        have hnx : ((cntB (pz hs) x : Nat) : Int) < ((cntB (pz hs) y : Nat) : Int) ∨ (((cntB (pz hs) x : Nat) : Int) = ((cntB (pz hs) y : Nat) : Int) ∧ x < y) := by omega
        obtain ⟨p, HPX⟩ : ∃ v, Hid (((cntB (pz hs) x : Nat) : Int) = v) := ⟨_, rfl⟩
        obtain ⟨q, HQY⟩ : ∃ v, Hid (((cntB (pz hs) y : Nat) : Int) = v) := ⟨_, rfl⟩
        rw [HPX.out] at CX hnx
        rw [HQY.out] at CY hnx
        clear hc hnk hnk1 hok HX HY hl hl0
        have hk0 : (k : Int) + 1 < (l : Int) := by omega
        have hk1 : (k : Int) + 1 - 1 = (k : Int) := by omega
        have hw1 : IntKind.i64.wrap (k : Int) = (k : Int) := IntWalk.i64_in _ (by omega)
        go_wp2_with fail
        refine CX.out.mono ?_
        rintro e w5 ⟨rfl, hw5⟩
        subst hw5
        go_wp2_with fail
        refine CY.out.mono ?_
        rintro e w6 ⟨rfl, hw6⟩
        subst hw6
        clear CX CY
        have hpq : decide (q < p) = false := by simp; omega
        by_cases he : p = q
        · subst he
          have hxy : decide ((y : Int) ≤ (x : Int)) = false := by simp; omega
          have hxyi : ¬ (y : Int) ≤ (x : Int) := by omega
          go_wp2_with fail
          go_quiet (fail)
          go_wp2
          go_roundw
          case rel => exact ⟨k + 1, by omega, by go_num, _, by first | rfl | exact World.drewN_drewN _ _ _⟩
          case measure => simp [intOf]; omega
        · have hpe : (p == q) = false := by simp; omega
          go_wp2_with fail
          go_quiet (fail)
          go_wp2
          go_roundw
          case rel => exact ⟨k + 1, by omega, by go_num, _, by first | rfl | exact World.drewN_drewN _ _ _⟩
          case measure => simp [intOf]; omega
      · have hk0 : ¬ (k : Int) + 1 < (l : Int) := by omega
        go_wp2
        go_ret
        exact ⟨rfl, below_drewN HB4.out _⟩
  · have h9 : 1048576 < len := by omega
    clear hlen
    go_enter Try.func4, Try.ntmps4
    go_wp2
    go_ret
    exact ⟨rfl, Below.refl _ _⟩

end Go.Proofs.Ytgjnhfciphiciaa
