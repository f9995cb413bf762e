/- The walk of FnFadeOrder: it returns true and changes nothing that was there. Condition: the codes' bytes lie in memory. -/
import Derived.Test.YtmlichpokjfnnaaServeLaws
import Derived.Test.YtmlichpokjfnnaaHas
import Derived.Test.YtmlichpokjfnnaaSame
import Derived.Test.YtmlichpokjfnnaaDrawChoke
import Derived.Test.YtmlichpokjfnnaaChokeGive
import Derived.Test.YtmlichpokjfnnaaSChokeGive
import Derived.Deep.DeepCutAuto
import Derived.Deep.LoopGhost
import Derived.Deep.RegionHeld3
namespace Go.Proofs.Ytmlichpokjfnnaa
open Go.RowKit
set_option linter.unusedVariables false

set_option maxHeartbeats 8000000 in
set_option maxRecDepth 100000 in
theorem walkFadeOrder (A : Option Addr) (len cap : Nat) (w : World) (hI : In w A len cap) :
    Calls Try.prog 12 #[.slice A len cap] w fun e w' => e = .returned (.bool true) ∧ Below w.heap.size w w' := by
  have hm := hI.len_le
  unfold maxLen at hm
  have HI := Lib.hid hI
  clear hI
  by_cases hlen : len ≤ 1048576
  · go_enter Try.func12, Try.ntmps12
    go_wp2_with fail
    refine (drawChokeFade_any A len cap _ HI.out).mono ?_
    rintro e w1 ⟨X, c, gs, rfl, hl7, hg1, hb1⟩
    have HG1 := Lib.hid hg1
    have HB1 := Lib.hid hb1
    clear hg1 hb1
    obtain ⟨n, HN⟩ : ∃ v, Hid (gs.length = v) := ⟨_, rfl⟩
    rw [HN.out] at hl7
    obtain ⟨os, HOS⟩ : ∃ v, Hid (fadeZ gs = v) := ⟨_, rfl⟩
    obtain ⟨l, HL⟩ : ∃ v, Hid (os.length = v) := ⟨_, rfl⟩
    have hl7b : l ≤ 7 := by rw [← HL.out, ← HOS.out]; exact Nat.le_trans fade_len (by rw [HN.out]; exact hl7)
    have HLM : Hid (os.length ≤ maxLen) := by show _ ≤ _; rw [HL.out]; unfold maxLen; omega
    rw [HN.out]
    go_wp2_with fail
    have CI := Lib.hid (chokeFade_any X c gs n w1 HG1.out.ints HN.out (by omega))
    rw [HOS.out] at CI
    refine CI.out.mono ?_
    rintro e w2 ⟨A2, c2, rfl, ho2, hb2⟩
    rw [HL.out]
    have PO2 := Lib.hid ho2
    clear ho2 CI
    have HG2 := Lib.hid (HG1.out.below hb2)
    have HB2 : Hid (Below w.heap.size w w2) := HB1.out.trans (hb2.mono HB1.out.size)
    clear hb2
    go_wp2_with fail
    have CI := Lib.hid (schokeFade_any X c gs n w2 HG2.out.ints HN.out (by omega))
    rw [HOS.out] at CI
    refine CI.out.mono ?_
    rintro e w3 ⟨A3, c3, rfl, ho3, hb3⟩
    rw [HL.out]
    have PW3 := Lib.hid ho3
    clear ho3 CI
    have HG3 := Lib.hid (HG2.out.below hb3)
    have HB3 : Hid (Below w.heap.size w w3) := HB2.out.trans (hb3.mono HB2.out.size)
    have PO3 := Lib.hid (PO2.out.below hb3)
    clear hb3
    go_wp2_with fail
    have CI := Lib.hid (same_any A2 c2 os A3 c3 os w3 PO3.out.ints PW3.out.ints HLM.out HLM.out)
    rw [HL.out] at CI
    refine CI.out.mono ?_
    rintro e w4 ⟨rfl, q, hq⟩
    have hb4 : Below w3.heap.size w3 w4 := by rw [hq]; exact below_drewN (Below.refl _ _) q
    clear hq CI
    rw [deci_same os]
    have HG4 := Lib.hid (HG3.out.below hb4)
    have HB4 : Hid (Below w.heap.size w w4) := HB3.out.trans (hb4.mono HB3.out.size)
    have PO4 := Lib.hid (PO3.out.below hb4)
    have PW4 := Lib.hid (PW3.out.below hb4)
    clear hb4
    by_cases hl0 : l = 0
    · subst hl0
      go_wp2
      refine wp_loop_rounds 1 ?_
      rw [rounds_succ]
      go_wp2
      go_ret
      exact ⟨rfl, HB4.out⟩
    · have hlz : ((l : Int) == 0) = false := by simp; omega
      have hlz2 : ¬ (l : Int) = 0 := by omega
      have hG := fade_some (gs := gs) (by rw [HOS.out, HL.out]; omega)
      have hOE : os = gs.map (· / 2) := by rw [← HOS.out]; exact fade_yes hG
      have hln : l = n := by rw [← HL.out, hOE, List.length_map, HN.out]
      subst hln
      have hn6 : l ≤ 6 := by rw [← HN.out]; exact (okG_iff.1 hG).1
      have HOE := Lib.hid hOE
      have HGG := Lib.hid hG
      clear hG hOE
      obtain ⟨gb, go, hXA, _, hgc⟩ := HG4.out.ints (by rw [HN.out]; omega)
      subst hXA
      have HGC : Hid (∀ k, k < l → w4.cell? ⟨gb, go + k, none⟩ = some (.int .i64 (nth gs k))) := fun k hk => hgc k (by rw [HN.out]; exact hk)
      obtain ⟨ob, oo, hOA, _, hoc⟩ := PO4.out.ints (by rw [HL.out]; omega)
      subst hOA
      have HOC : Hid (∀ k, k < l → w4.cell? ⟨ob, oo + k, none⟩ = some (.int .i64 (nth gs k / 2))) := fun k hk => by
        have := hoc k (by rw [HL.out]; exact hk)
        rwa [HOE.out, nth_half] at this
      clear hgc hoc
      go_wp2
      go_loopw [6, 7] (fun i _ w' => ∃ k : Nat, k ≤ l ∧ i = .int .i64 (k : Int) ∧ ∃ q, w' = w4.drewN q) (fun i _ _ => l - (intOf i).toNat)
      case atStart => exact ⟨0, by omega, rfl, 0, rfl⟩
      case round =>
        obtain ⟨i, hi, rfl, nd, rfl⟩ := hrel
        by_cases hlt : i < l
        · have hci := HGC.out i hlt
          have hco := HOC.out i hlt
          obtain ⟨x, HX⟩ : ∃ v, Hid (nth gs i = v) := ⟨_, rfl⟩
          rw [HX.out] at hci hco
          have hii : (i : Int) < (l : Int) := by omega
          have hi0 : (0 : Int) ≤ (i : Int) := by omega
          go_wp2
          go_loopw [7] (fun k w' => ∃ j : Nat, j ≤ l ∧ k = .int .i64 (j : Int) ∧ ∃ q, w' = w4.drewN q) (fun k _ => l - (intOf k).toNat)
          case atStart => exact ⟨0, by omega, rfl, nd, rfl⟩
          case round =>
            obtain ⟨j, hj, rfl, ne, rfl⟩ := hrel
            by_cases hjl : j < l
            · have hcj := HGC.out j hjl
              have hcp := HOC.out j hjl
              obtain ⟨y, HY⟩ : ∃ v, Hid (nth gs j = v) := ⟨_, rfl⟩
              rw [HY.out] at hcj hcp
              have hjz : (j : Int) < (l : Int) := by omega
              have hj0 : (0 : Int) ≤ (j : Int) := by omega
              by_cases hxy : y ≤ x
              · have hd : ¬ x / 2 < y / 2 := by omega
                have hdd : decide (x / 2 < y / 2) = false := by simp; omega
                go_wp2_with fail
                go_quiet (fail)
                go_wp2
                go_roundw
                case rel => exact ⟨j + 1, by omega, by go_num, _, by first | rfl | exact World.drewN_drewN _ _ _⟩
                case measure => simp [intOf]; omega
              · have hxd : decide (y ≤ x) = false := by simp; omega
                go_wp2_with fail
                go_quiet (fail)
                go_wp2
                go_roundw
                case rel => exact ⟨j + 1, by omega, by go_num, _, by first | rfl | exact World.drewN_drewN _ _ _⟩
                case measure => simp [intOf]; omega
            · have hjj : j = l := by omega
              subst hjj
              go_wp2
              go_roundw
              case rel => exact ⟨i + 1, by omega, by go_num, _, rfl⟩
              case measure => simp [intOf]; omega
        · have hin : i = l := by omega
          subst hin
          go_wp2
          go_ret
          exact ⟨rfl, below_drewN HB4.out _⟩
  · have h9 : 1048576 < len := by omega
    clear hlen
    go_enter Try.func12, Try.ntmps12
    go_wp2
    go_ret
    exact ⟨rfl, Below.refl _ _⟩

end Go.Proofs.Ytmlichpokjfnnaa
