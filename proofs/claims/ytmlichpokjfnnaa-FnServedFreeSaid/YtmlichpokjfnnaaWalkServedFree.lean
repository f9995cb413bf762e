/- The walk of FnServedFree: it returns true and changes nothing that was there. Condition: the codes' bytes lie in memory. -/
import Derived.Test.YtmlichpokjfnnaaServeLaws
import Derived.Test.YtmlichpokjfnnaaHas
import Derived.Test.YtmlichpokjfnnaaSame
import Derived.Test.YtmlichpokjfnnaaDrawChoke
import Derived.Test.YtmlichpokjfnnaaChoke
import Derived.Test.YtmlichpokjfnnaaSChokeMore
import Derived.Deep.DeepCutAuto
import Derived.Deep.LoopGhost
import Derived.Deep.RegionHeld3
namespace Go.Proofs.Ytmlichpokjfnnaa
open Go.RowKit
set_option linter.unusedVariables false

set_option maxHeartbeats 8000000 in
set_option maxRecDepth 100000 in
theorem walkServedFree (A : Option Addr) (len cap : Nat) (w : World) (hI : In w A len cap) :
    Calls Try.prog 7 #[.slice A len cap] w fun e w' => e = .returned (.bool true) ∧ Below w.heap.size w w' := by
  have hm := hI.len_le
  unfold maxLen at hm
  have HI := Lib.hid hI
  clear hI
  by_cases hlen : len ≤ 1048576
  · go_enter Try.func7, Try.ntmps7
    go_wp2_with fail
    refine (drawChokeServed_any A len cap _ HI.out).mono ?_
    rintro e w1 ⟨X, c, gs, t, rfl, hl7, ht1, ht2, hg1, hb1⟩
    have HG1 := Lib.hid hg1
    have HB1 := Lib.hid hb1
    clear hg1 hb1
    obtain ⟨n, HN⟩ : ∃ v, Hid (gs.length = v) := ⟨_, rfl⟩
    rw [HN.out] at hl7
    obtain ⟨os, HOS⟩ : ∃ v, Hid (servedZ gs t = v) := ⟨_, rfl⟩
    obtain ⟨l, HL⟩ : ∃ v, Hid (os.length = v) := ⟨_, rfl⟩
    have hl7b : l ≤ 4 := by rw [← HL.out, ← HOS.out]; exact servedZ_len gs t
    have HLM : Hid (os.length ≤ maxLen) := by show _ ≤ _; rw [HL.out]; unfold maxLen; omega
    rw [HN.out]
    go_wp2_with fail
    have CI := Lib.hid (chokeServed_any X c gs n t w1 HG1.out.ints HN.out (by omega))
    rw [HOS.out] at CI
    refine CI.out.mono ?_
    rintro e w2 ⟨A2, c2, rfl, ho2, hb2⟩
    rw [HL.out]
    have PO2 := Lib.hid ho2
    clear ho2 CI
    have HG2 := Lib.hid (HG1.out.below hb2)
    have HB2 : Hid (Below w.heap.size w w2) := HB1.out.trans (hb2.mono HB1.out.size)
    clear hb2
    go_wp2_with fail
    have CI := Lib.hid (schokeServed_any X c gs n t w2 HG2.out.ints HN.out (by omega))
    rw [HOS.out] at CI
    refine CI.out.mono ?_
    rintro e w3 ⟨A3, c3, rfl, ho3, hb3⟩
    rw [HL.out]
    have PW3 := Lib.hid ho3
    clear ho3 CI
    have HG3 := Lib.hid (HG2.out.below hb3)
    have HB3 : Hid (Below w.heap.size w w3) := HB2.out.trans (hb3.mono HB2.out.size)
    have PO3 := Lib.hid (PO2.out.below hb3)
    clear hb3
    go_wp2_with fail
    have CI := Lib.hid (same_any A2 c2 os A3 c3 os w3 PO3.out.ints PW3.out.ints HLM.out HLM.out)
    rw [HL.out] at CI
    refine CI.out.mono ?_
    rintro e w4 ⟨rfl, q, hq⟩
    have hb4 : Below w3.heap.size w3 w4 := by rw [hq]; exact below_drewN (Below.refl _ _) q
    clear hq CI
    rw [deci_same os]
    have HG4 := Lib.hid (HG3.out.below hb4)
    have HB4 : Hid (Below w.heap.size w w4) := HB3.out.trans (hb4.mono HB3.out.size)
    have PO4 := Lib.hid (PO3.out.below hb4)
    have PW4 := Lib.hid (PW3.out.below hb4)
    clear hb4
    by_cases hl0 : l = 0
    · subst hl0
      go_wp2_with fail
      have CI := Lib.hid (same_any A2 c2 os A3 c3 os w4 PO4.out.ints PW4.out.ints HLM.out HLM.out)
      rw [HL.out] at CI
      refine CI.out.mono ?_
      rintro e w5 ⟨rfl, q, hq⟩
      have hb5 : Below w4.heap.size w4 w5 := by rw [hq]; exact below_drewN (Below.refl _ _) q
      clear hq CI
      rw [deci_same os]
      have HG5 := Lib.hid (HG4.out.below hb5)
      have HB5 : Hid (Below w.heap.size w w5) := HB4.out.trans (hb5.mono HB4.out.size)
      have PO5 := Lib.hid (PO4.out.below hb5)
      have PW5 := Lib.hid (PW4.out.below hb5)
      clear hb5
      go_wp2
      go_ret
      exact ⟨rfl, HB5.out⟩
    · have hlz : ((l : Int) == 0) = false := by simp; omega
      have hlz2 : ¬ (l : Int) = 0 := by omega
      obtain ⟨hG, hT⟩ := servedZ_some (gs := gs) (t := t) (by rw [HOS.out, HL.out]; omega)
      obtain ⟨tn, rfl⟩ : ∃ q : Nat, t = (q : Int) := ⟨t.toNat, by have := okT_iff.1 hT; omega⟩
      have HOE : Hid (os = numZ (servedN gs tn)) := by show _ = _; rw [← HOS.out]; exact served_nat hG hT
      have HSL : Hid ((servedN gs tn).length = l) := by show _ = _; rw [← numZ_length, ← HOE.out]; exact HL.out
      have hn6 : n ≤ 6 := by rw [← HN.out]; exact (okG_iff.1 hG).1
      have ht9 : tn ≤ 999 := by have := okT_iff.1 hT; omega
      have HGG := Lib.hid hG
      have HTT := Lib.hid hT
      clear hG hT ht1 ht2
      go_wp2
      go_loopw [7, 8] (fun m k w' => ∃ j : Nat, j ≤ n ∧ k = .int .i64 (j : Int) ∧ m = .int .i64 ((posN gs j : Nat) : Int) ∧ Hid (w' = w4)) (fun _ k _ => n - (intOf k).toNat)
      case atStart => exact ⟨0, by omega, rfl, by rw [posN_zero]; rfl, (by first | exact Lib.hid trivial | exact Lib.hid rfl)⟩
      case round =>
        obtain ⟨j, hj, rfl, rfl, HW⟩ := hrel
        have hw : wr = w4 := HW.out
        subst hw
        clear HW
        have hpl := posN_le gs j
        obtain ⟨m, HM⟩ : ∃ v, Hid (posN gs j = v) := ⟨_, rfl⟩
        rw [HM.out] at hpl ⊢
        by_cases hjn : j < n
        · obtain ⟨gb, go, hXA, _, hgc⟩ := HG4.out.ints (by rw [HN.out]; omega)
          subst hXA
          have hcj := hgc j (by rw [HN.out]; exact hjn)
          obtain ⟨x, HX⟩ : ∃ v, Hid (nth gs j = v) := ⟨_, rfl⟩
          rw [HX.out] at hcj
          have hjz : (j : Int) < (n : Int) := by omega
          have hj0 : (0 : Int) ≤ (j : Int) := by omega
          clear hgc
          by_cases hx : 0 < x
          · have HE : Hid (posN gs (j + 1) = m + 1) := by show _ = _; rw [← HM.out]; exact posN_yes (by rw [HX.out]; exact hx)
            go_wp2
            go_roundw
            case rel => exact ⟨j + 1, by omega, by go_num, by rw [HE.out]; go_num, (by first | exact Lib.hid trivial | exact Lib.hid rfl)⟩
            case measure => simp [intOf]; omega
          · have HE : Hid (posN gs (j + 1) = m) := by show _ = _; rw [← HM.out]; exact posN_no (by rw [HX.out]; exact hx)
            go_wp2
            go_roundw
            case rel => exact ⟨j + 1, by omega, by go_num, by rw [HE.out], (by first | exact Lib.hid trivial | exact Lib.hid rfl)⟩
            case measure => simp [intOf]; omega
        · have hjj : j = n := by omega
          subst hjj
          have HBF := Lib.hid (Below.refl wr.heap.size wr)
          go_wp2
          go_loopw [9] (fun k w' => ∃ i : Nat, i ≤ l ∧ k = .int .i64 (i : Int) ∧ Hid (Below wr.heap.size wr w')) (fun k _ => l - (intOf k).toNat)
          case atStart => exact ⟨0, by omega, rfl, HBF⟩
          case round =>
            obtain ⟨i, hi, rfl, HB2⟩ := hrel
            have HGr := Lib.hid (HG4.out.below HB2.out)
            have POr := Lib.hid (PO4.out.below HB2.out)
            by_cases hil : i < l
            · obtain ⟨x, hx, hxn, hxs⟩ := served_at (gs := gs) (t := tn) (k := i) (by rw [HSL.out]; exact hil)
              obtain ⟨ob, oo, hOA, hob, hoc⟩ := POr.out.ints (by rw [HL.out]; omega)
              have hcj := hoc i (by rw [HL.out]; exact hil)
              rw [HOE.out, hx] at hcj
              rw [HN.out] at hxn
              obtain ⟨gb, go, hXA, hgb, hgc⟩ := HGr.out.ints (by rw [HN.out]; omega)
              have hcx := hgc x (by rw [HN.out]; exact hxn)
              subst hOA
              subst hXA
              obtain ⟨z, HZ⟩ : ∃ v, Hid (nth gs x = v) := ⟨_, rfl⟩
              rw [HZ.out] at hcx
              have hiz : (i : Int) < (l : Int) := by omega
              have hi0 : (0 : Int) ≤ (i : Int) := by omega
              have hxz : (x : Int) < (j : Int) := by omega
              have hx0 : (0 : Int) ≤ (x : Int) := by omega
              clear hx hoc hgc
              by_cases h3 : 3 ≤ m
              · have h3z : (3 : Int) ≤ (m : Int) := by omega
                by_cases hz0 : z = 0
                · have hft := free_turn (gs := gs) (t := tn) (x := x) (by rw [HN.out, HM.out]; exact h3) (by rw [HZ.out]; exact hz0) hxs
                  subst hz0
                  have HCT : Hid (∀ W, Below wr.heap.size wr W → Calls Try.prog 20 #[.slice (some ⟨gb, go, none⟩) j c, .int .i64 (tn : Int)] W fun e w' => e = .returned (.int .i64 (x : Int)) ∧ Below W.heap.size W w') := by
                    intro W hW
                    have := chokeTurn_any (some ⟨gb, go, none⟩) c gs j (tn : Int) W (HGr.out.below hW).ints HN.out (by omega)
                    rw [turnI_nat HGG.out HTT.out, hft] at this
                    exact this
                  have HBD : Hid (Below wr.heap.size wr wr.drew) := below_drew (Below.refl _ _)
                  have hneq : ((x : Int) != (x : Int)) = false := by simp
                  have heq : ((x : Int) == (x : Int)) = true := by simp
                  clear hft hxs
                  go_wp2_with fail
                  go_region_held3 (fun w' => w'.cell? ⟨ob, oo + i, none⟩ = some (.int .i64 (x : Int)) ∧ w'.cell? ⟨gb, go + x, none⟩ = some (.int .i64 0)) (go_keep)
                    (first
                      | (go_at_call 20; refine (HCT.out _ HBD.out).mono ?_; rintro e w3 ⟨rfl, kb⟩; have k1 : w3.cell? ⟨ob, oo + i, none⟩ = some (.int .i64 (x : Int)) := (kb.cell (p := ⟨ob, oo + i, none⟩) hob).trans hcj; have k2 : w3.cell? ⟨gb, go + x, none⟩ = some (.int .i64 0) := (kb.cell (p := ⟨gb, go + x, none⟩) hgb).trans hcx))
                  have HB3 := Lib.hid (HB2.out.trans ((below_drew_l kb).mono HB2.out.size))
                  clear kb
                  go_wp2
                  go_roundw
                  case rel => exact ⟨i + 1, by omega, by go_num, HB3⟩
                  case measure => simp [intOf]; omega
                · have hzb : (z == 0) = false := beq_eq_false_iff_ne.2 hz0
                  clear hxs
                  go_wp2_with fail
                  go_quiet (fail)
                  go_wp2
                  go_roundw
                  case rel => exact ⟨i + 1, by omega, by go_num, below_drewN HB2.out _⟩
                  case measure => simp [intOf]; omega
              · have h3z : ¬ (3 : Int) ≤ (m : Int) := by omega
                have h3d : decide ((3 : Int) ≤ (m : Int)) = false := by simp; omega
                clear hxs
                go_wp2_with fail
                go_quiet (fail)
                go_wp2
                go_roundw
                case rel => exact ⟨i + 1, by omega, by go_num, below_drewN HB2.out _⟩
                case measure => simp [intOf]; omega
            · have hii : i = l := by omega
              subst hii
              go_wp2
              go_ret
              exact ⟨rfl, HB4.out.trans (HB2.out.mono HB4.out.size)⟩
  · have h9 : 1048576 < len := by omega
    clear hlen
    go_enter Try.func7, Try.ntmps7
    go_wp2
    go_ret
    exact ⟨rfl, Below.refl _ _⟩

end Go.Proofs.Ytmlichpokjfnnaa
