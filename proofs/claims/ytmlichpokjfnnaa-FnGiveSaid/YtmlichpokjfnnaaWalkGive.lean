/- The walk of FnGive: it returns true and changes nothing that was there. Condition: the codes' bytes lie in memory. -/
import Derived.Test.YtmlichpokjfnnaaServeLaws
import Derived.Test.YtmlichpokjfnnaaHas
import Derived.Test.YtmlichpokjfnnaaSame
import Derived.Test.YtmlichpokjfnnaaDrawChoke
import Derived.Test.YtmlichpokjfnnaaChokeGive
import Derived.Test.YtmlichpokjfnnaaSChokeGive
import Derived.Deep.DeepCutAuto
import Derived.Deep.LoopGhost
import Derived.Deep.RegionHeld3
namespace Go.Proofs.Ytmlichpokjfnnaa
open Go.RowKit
set_option linter.unusedVariables false

set_option maxHeartbeats 8000000 in
set_option maxRecDepth 100000 in
theorem walkGive (A : Option Addr) (len cap : Nat) (w : World) (hI : In w A len cap) :
    Calls Try.prog 9 #[.slice A len cap] w fun e w' => e = .returned (.bool true) ∧ Below w.heap.size w w' := by
  have hm := hI.len_le
  unfold maxLen at hm
  have HI := Lib.hid hI
  clear hI
  by_cases hlen : len ≤ 1048576
  · go_enter Try.func9, Try.ntmps9
    go_wp2_with fail
    refine (drawChokeGive_any A len cap _ HI.out).mono ?_
    rintro e w1 ⟨X, c, gs, p, rfl, hl7, ht1, ht2, hg1, hb1⟩
    have HG1 := Lib.hid hg1
    have HB1 := Lib.hid hb1
    clear hg1 hb1
    obtain ⟨n, HN⟩ : ∃ v, Hid (gs.length = v) := ⟨_, rfl⟩
    rw [HN.out] at hl7
    obtain ⟨ok, HOK⟩ : ∃ v, Hid (giveB gs p = v) := ⟨_, rfl⟩
    obtain ⟨os, HOS⟩ : ∃ v, Hid (giveZ gs p = v) := ⟨_, rfl⟩
    obtain ⟨l, HL⟩ : ∃ v, Hid (os.length = v) := ⟨_, rfl⟩
    have hl7b : l ≤ 7 := by rw [← HL.out, ← HOS.out]; exact Nat.le_trans (give_len gs p) (by rw [HN.out]; exact hl7)
    have HLM : Hid (os.length ≤ maxLen) := by show _ ≤ _; rw [HL.out]; unfold maxLen; omega
    rw [HN.out]
    go_wp2_with fail
    have CI := Lib.hid (chokeGive_any X c gs n p w1 HG1.out.ints HN.out (by omega))
    rw [HOS.out, HOK.out] at CI
    refine CI.out.mono ?_
    rintro e w2 ⟨A2, c2, rfl, ho2, hb2⟩
    rw [HL.out]
    have PO2 := Lib.hid ho2
    clear ho2 CI
    have HG2 := Lib.hid (HG1.out.below hb2)
    have HB2 : Hid (Below w.heap.size w w2) := HB1.out.trans (hb2.mono HB1.out.size)
    clear hb2
    go_wp2_with fail
    have CI := Lib.hid (schokeGive_any X c gs n p w2 HG2.out.ints HN.out (by omega))
    rw [HOS.out, HOK.out] at CI
    refine CI.out.mono ?_
    rintro e w3 ⟨A3, c3, rfl, ho3, hb3⟩
    rw [HL.out]
    have PW3 := Lib.hid ho3
    clear ho3 CI
    have HG3 := Lib.hid (HG2.out.below hb3)
    have HB3 : Hid (Below w.heap.size w w3) := HB2.out.trans (hb3.mono HB2.out.size)
    have PO3 := Lib.hid (PO2.out.below hb3)
    clear hb3
    cases ok with
    | false =>
      go_wp2_with fail
      have CI := Lib.hid (same_any A2 c2 os A3 c3 os w3 PO3.out.ints PW3.out.ints HLM.out HLM.out)
      rw [HL.out] at CI
      refine CI.out.mono ?_
      rintro e w4 ⟨rfl, q, hq⟩
      have hb4 : Below w3.heap.size w3 w4 := by rw [hq]; exact below_drewN (Below.refl _ _) q
      clear hq CI
      rw [deci_same os]
      have HG4 := Lib.hid (HG3.out.below hb4)
      have HB4 : Hid (Below w.heap.size w w4) := HB3.out.trans (hb4.mono HB3.out.size)
      have PO4 := Lib.hid (PO3.out.below hb4)
      have PW4 := Lib.hid (PW3.out.below hb4)
      clear hb4
      go_wp2_with fail
      have CI := Lib.hid (same_any A2 c2 os A3 c3 os w4 PO4.out.ints PW4.out.ints HLM.out HLM.out)
      rw [HL.out] at CI
      refine CI.out.mono ?_
      rintro e w5 ⟨rfl, q, hq⟩
      have hb5 : Below w4.heap.size w4 w5 := by rw [hq]; exact below_drewN (Below.refl _ _) q
      clear hq CI
      rw [deci_same os]
      have HG5 := Lib.hid (HG4.out.below hb5)
      have HB5 : Hid (Below w.heap.size w w5) := HB4.out.trans (hb5.mono HB4.out.size)
      have PO5 := Lib.hid (PO4.out.below hb5)
      have PW5 := Lib.hid (PW4.out.below hb5)
      clear hb5
      go_wp2
      go_ret
      exact ⟨rfl, HB5.out⟩
    | true =>
      go_wp2_with fail
      have CI := Lib.hid (same_any A2 c2 os A3 c3 os w3 PO3.out.ints PW3.out.ints HLM.out HLM.out)
      rw [HL.out] at CI
      refine CI.out.mono ?_
      rintro e w4 ⟨rfl, q, hq⟩
      have hb4 : Below w3.heap.size w3 w4 := by rw [hq]; exact below_drewN (Below.refl _ _) q
      clear hq CI
      rw [deci_same os]
      have HG4 := Lib.hid (HG3.out.below hb4)
      have HB4 : Hid (Below w.heap.size w w4) := HB3.out.trans (hb4.mono HB3.out.size)
      have PO4 := Lib.hid (PO3.out.below hb4)
      have PW4 := Lib.hid (PW3.out.below hb4)
      clear hb4
      obtain ⟨hG, hP, hx9⟩ := giveB_iff.1 HOK.out
      have hpp := peerB_iff.1 hP
      obtain ⟨pn, rfl⟩ : ∃ q : Nat, p = (q : Int) := ⟨p.toNat, by omega⟩
      rw [Int.toNat_natCast] at hx9
      have hpn : pn < n := by have := hpp.2; rw [HN.out] at this; omega
      have hOE : os = gs.set pn (nth gs pn + 1) := by
        have := giveZ_more hG hP (by rw [Int.toNat_natCast]; exact hx9)
        rw [HOS.out, Int.toNat_natCast] at this
        exact this
      have hln : l = n := by rw [← HL.out, hOE, List.length_set, HN.out]
      subst hln
      have hn6 : l ≤ 6 := by rw [← HN.out]; exact (okG_iff.1 hG).1
      have HOE := Lib.hid hOE
      have HGG := Lib.hid hG
      have HX9 := Lib.hid hx9
      clear hG hP hx9 hpp hOE ht1 ht2
      go_wp2
      go_loopw [9, 10] (fun i _ w' => ∃ k : Nat, k ≤ l ∧ i = .int .i64 (k : Int) ∧ ∃ q, w' = w4.drewN q) (fun i _ _ => l - (intOf i).toNat)
      case atStart => exact ⟨0, by omega, rfl, 0, rfl⟩
      case round =>
        obtain ⟨i, hi, rfl, nd, rfl⟩ := hrel
        by_cases hlt : i < l
        · obtain ⟨gb, go, hXA, _, hgc⟩ := HG4.out.ints (by rw [HN.out]; omega)
          subst hXA
          have hci := hgc i (by rw [HN.out]; exact hlt)
          obtain ⟨ob, oo, hOA, _, hoc⟩ := PO4.out.ints (by rw [HL.out]; omega)
          subst hOA
          have hco := hoc i (by rw [HL.out]; exact hlt)
          have hb9 := okG_nth HGG.out i
          rw [HOE.out, nth_set' gs pn i _ (by rw [HN.out]; exact hpn)] at hco
          obtain ⟨x, HX⟩ : ∃ v, Hid (nth gs i = v) := ⟨_, rfl⟩
          rw [HX.out] at hci hb9
          have hii : (i : Int) < (l : Int) := by omega
          have hi0 : (0 : Int) ≤ (i : Int) := by omega
          clear hgc hoc
          by_cases e : i = pn
          · rw [if_pos e, ← e, HX.out] at hco
            have heq : ((i : Int) == (pn : Int)) = true := by simp; omega
            have hwx : IntKind.i64.wrap (x + 1) = x + 1 := by rw [IntKind.wrap_i64]; omega
            have hnn : (x + 1 != x + 1) = false := by simp
            have hee : (x + 1 == x + 1) = true := by simp
            clear e
            go_wp2_with fail
            go_quiet (fail)
            go_wp2
            go_roundw
            case rel => exact ⟨i + 1, by omega, by go_num, _, by first | rfl | exact World.drewN_drewN _ _ _⟩
            case measure => simp [intOf]; omega
          · rw [if_neg e, HX.out] at hco
            have heq : ((i : Int) == (pn : Int)) = false := by simp; omega
            have hwx : IntKind.i64.wrap x = x := by rw [IntKind.wrap_i64]; omega
            have hx0 : x + 0 = x := by omega
            have hnn : (x != x) = false := by simp
            have hee : (x == x) = true := by simp
            clear e
            go_wp2_with fail
            go_quiet (fail)
            go_wp2
            go_roundw
            case rel => exact ⟨i + 1, by omega, by go_num, _, by first | rfl | exact World.drewN_drewN _ _ _⟩
            case measure => simp [intOf]; omega
        · have hin : i = l := by omega
          subst hin
          go_wp2
          go_ret
          exact ⟨rfl, below_drewN HB4.out _⟩
  · have h9 : 1048576 < len := by omega
    clear hlen
    go_enter Try.func9, Try.ntmps9
    go_wp2
    go_ret
    exact ⟨rfl, Below.refl _ _⟩

end Go.Proofs.Ytmlichpokjfnnaa
