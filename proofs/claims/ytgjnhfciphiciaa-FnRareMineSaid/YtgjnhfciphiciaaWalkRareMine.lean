/- The walk of FnRareMine: it returns true and changes nothing that was there. Condition: the codes' bytes lie in memory. -/
import Derived.Test.YtgjnhfciphiciaaRareLaws
import Derived.Test.YtgjnhfciphiciaaHolders
import Derived.Test.YtgjnhfciphiciaaSame
import Derived.Test.YtgjnhfciphiciaaDrawPeers
namespace Go.Proofs.Ytgjnhfciphiciaa
open Go.RowKit
set_option linter.unusedVariables false

set_option maxHeartbeats 8000000 in
set_option maxRecDepth 100000 in
theorem walkRareMine (A : Option Addr) (len cap : Nat) (w : World) (hI : In w A len cap) :
    Calls Try.prog 10 #[.slice A len cap] w fun e w' => e = .returned (.bool true) ∧ Below w.heap.size w w' := by
  have hm := hI.len_le
  unfold maxLen at hm
  have HI := Lib.hid hI
  clear hI
  by_cases hlen : len ≤ 1048576
  · go_enter Try.func10, Try.ntmps10
    go_wp2_with fail
    refine (drawRareOrder_any A len cap _ HI.out).mono ?_
    rintro e w1 ⟨X, c, hs, Y, d, mine, rfl, hl7, hm18, hp1, ho1, hb1⟩
    have PP1 := Lib.hid hp1
    have PM1 := Lib.hid ho1
    have HB1 := Lib.hid hb1
    clear hp1 ho1 hb1
    obtain ⟨n, HN⟩ : ∃ v, Hid (hs.length = v) := ⟨_, rfl⟩
    obtain ⟨m, HM⟩ : ∃ v, Hid (mine.length = v) := ⟨_, rfl⟩
    obtain ⟨os, HOS⟩ : ∃ v, Hid (natZ (orderN (pz hs) mine) = v) := ⟨_, rfl⟩
    obtain ⟨l, HL⟩ : ∃ v, Hid (os.length = v) := ⟨_, rfl⟩
    rw [HN.out] at hl7
    rw [HM.out] at hm18
    have hl16 : l ≤ 16 := by rw [← HL.out, ← HOS.out, natZ_length]; exact orderN_len _ _
    have HLM : Hid (os.length ≤ maxLen) := by show _ ≤ _; rw [HL.out]; unfold maxLen; omega
    rw [HN.out, HM.out]
    go_wp2_with fail
    have CI := Lib.hid (order_any X c hs Y d mine w1 PP1.out PM1.out.ints)
    rw [HN.out, HM.out, HOS.out] at CI
    refine CI.out.mono ?_
    rintro e w2 ⟨A2, c2, rfl, ho2, hb2⟩
    rw [HL.out]
    have PO2 := Lib.hid ho2
    clear ho2 CI
    have PP2 := Lib.hid (PP1.out.belowS hb2)
    have PM2 := Lib.hid (PM1.out.below hb2)
    have HB2 : Hid (Below w.heap.size w w2) := HB1.out.trans (hb2.mono HB1.out.size)
    clear hb2
    go_wp2_with fail
    have CI := Lib.hid (sorder_any X c hs Y d mine w2 PP2.out PM2.out.ints)
    rw [HN.out, HM.out, HOS.out] at CI
    refine CI.out.mono ?_
    rintro e w3 ⟨A3, c3, rfl, ho3, hb3⟩
    rw [HL.out]
    have PW3 := Lib.hid ho3
    clear ho3 CI
    have PP3 := Lib.hid (PP2.out.belowS hb3)
    have PM3 := Lib.hid (PM2.out.below hb3)
    have HB3 : Hid (Below w.heap.size w w3) := HB2.out.trans (hb3.mono HB2.out.size)
    have PO3 := Lib.hid (PO2.out.below hb3)
    clear hb3
    go_wp2_with fail
    have CI := Lib.hid (same_any A2 c2 os A3 c3 os w3 PO3.out.ints PW3.out.ints HLM.out HLM.out)
    rw [HL.out] at CI
    refine CI.out.mono ?_
    rintro e w4 ⟨rfl, q, hq⟩
    have hb4 : Below w3.heap.size w3 w4 := by rw [hq]; exact below_drewN (Below.refl _ _) q
    clear hq CI
    rw [deci_self os]
    have PP4 := Lib.hid (PP3.out.belowS hb4)
    have PM4 := Lib.hid (PM3.out.below hb4)
    have HB4 : Hid (Below w.heap.size w w4) := HB3.out.trans (hb4.mono HB3.out.size)
    have PO4 := Lib.hid (PO3.out.below hb4)
    have PW4 := Lib.hid (PW3.out.below hb4)
    clear hb4
    have HB5 : Hid (Below w4.heap.size w4 (w4.alloc (.cells #[] 4))) := (Below.refl _ _).alloc (Nat.le_refl _) _
    have HO5 : Hid (OwnBools (w4.alloc (.cells #[] 4)) w4.heap.size (some ⟨w4.heap.size, 0, none⟩) 0 (List.replicate 0 true)) := OwnBools.new w4
    go_wp2
    go_loopw [7, 8] (fun x i w' => ∃ (Z : Option Addr) (zc k : Nat), k ≤ 16 ∧ x = .slice Z k zc ∧ i = .int .i64 (k : Int) ∧ Hid (OwnBools w' w4.heap.size Z zc (List.replicate k true)) ∧ Hid (Below w4.heap.size w4 w')) (fun _ i _ => 16 - (intOf i).toNat)
    case atStart => exact ⟨_, 0, 0, by omega, rfl, rfl, HO5, HB5⟩
    case round =>
      clear HO5 HB5
      obtain ⟨Z, zc, k, hk, rfl, rfl, HO, HBr⟩ := hrel
      have hzr : w4.heap.size ≤ wr.heap.size := HBr.out.size
      by_cases hlt : k < 16
      · have hki : (k : Int) < 16 := by omega
        go_wp2_with (at_builtin; refine wpList_app_bools rfl (.tmp 35) (.tmp 36) rfl _ w4.heap.size Z zc (List.replicate k true) (by rw [List.length_replicate]; rfl) _ _ [true] rfl (HO.out.alloc _) (one_newB _ _) (by rw [List.length_replicate]; simp; omega) (by simp; omega) (by simp) ?_; intro v w6 hA)
        obtain ⟨⟨Z', zc', rfl, hO6⟩, hg6, hb6⟩ := hA
        have e : List.replicate k true ++ [true] = List.replicate (k + 1) true := (List.replicate_succ' ..).symm
        rw [e] at hO6 ⊢
        have HO6 := Lib.hid hO6
        have HB6 : Hid (Below w4.heap.size w4 w6) := (HBr.out.alloc hzr _).trans hb6
        clear hO6 hg6 hb6 e
        rw [List.length_replicate]
        go_wp2
        go_roundw
        case rel => exact ⟨Z', zc', k + 1, by omega, rfl, by go_num, HO6, HB6⟩
        case measure => simp [intOf]; omega
      · have hki : ¬ (k : Int) < 16 := by omega
        have hk16 : k = 16 := by omega
        subst hk16
        have hb5 := HBr.out
        have CI := Lib.hid (order_any X c hs Z zc (List.replicate 16 true) wr (PP4.out.belowS hb5) HO.out.ints)
        rw [orderN_all (pz hs) (mine := List.replicate 16 true) (fun b hb => by unfold bth; rw [List.getD_eq_getElem?_getD, List.getElem?_replicate_of_lt hb]; rfl), HN.out, List.length_replicate] at CI
        have HB5 : Hid (Below w.heap.size w wr) := HB4.out.trans (hb5.mono HB4.out.size)
        clear hb5
        go_wp2_with fail
        refine CI.out.mono ?_
        rintro e w7 ⟨A7, c7, rfl, ho7, hb7⟩
        have HB7 : Hid (Below w.heap.size w w7) := HB5.out.trans (hb7.mono HB5.out.size)
        clear ho7 hb7 CI
        go_wp2
        go_ret
        exact ⟨rfl, HB7.out⟩
  · have h9 : 1048576 < len := by omega
    clear hlen
    go_enter Try.func10, Try.ntmps10
    go_wp2
    go_ret
    exact ⟨rfl, Below.refl _ _⟩

end Go.Proofs.Ytgjnhfciphiciaa
