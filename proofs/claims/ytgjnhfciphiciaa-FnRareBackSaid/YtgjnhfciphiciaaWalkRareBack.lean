/- The walk of FnRareBack: it returns true and changes nothing that was there. Condition: the codes' bytes lie in memory. -/
import Derived.Test.YtgjnhfciphiciaaRareLaws
import Derived.Test.YtgjnhfciphiciaaHolders
import Derived.Test.YtgjnhfciphiciaaSame
import Derived.Test.YtgjnhfciphiciaaDrawPeers
namespace Go.Proofs.Ytgjnhfciphiciaa
open Go.RowKit
set_option linter.unusedVariables false

theorem pat_of {w : World} {base : Nat} {Z : Option Addr} {zc : Nat} {xs : List PH} (hO : OwnRow PK w base Z zc xs) (hb : ∀ h ∈ xs, BoolsAt w w.heap.size h.a h.zs ∧ h.zs.length ≤ h.c ∧ h.c ≤ maxLen) (hm : xs.length ≤ 7) : PAt w w.heap.size Z xs :=
  ⟨hO.at_, fun h hx => (hb h hx).1, fun h hx => (hb h hx).2, by unfold maxLen; omega⟩
theorem pat_in {w : World} {Z : Option Addr} {xs : List PH} (h : PAt w w.heap.size Z xs) : ∀ x ∈ xs, BoolsAt w w.heap.size x.a x.zs ∧ x.zs.length ≤ x.c ∧ x.c ≤ maxLen := fun x hx => ⟨h.bits x hx, h.fit x hx⟩
theorem take_hth (hs : List PH) (k : Nat) (h : k < hs.length) : hs.take (k + 1) = hs.take k ++ [hth hs k] := by rw [List.take_succ_eq_append_getElem h, hth_eq hs k h]
theorem hth_rev (hs : List PH) (k : Nat) (h : k < hs.length) : hth hs.reverse k = hth hs (hs.length - 1 - k) := by
  rw [hth_eq _ _ (by rw [List.length_reverse]; exact h), hth_eq _ _ (by omega), List.getElem_reverse]
theorem pz_rev (hs : List PH) : pz hs.reverse = (pz hs).reverse := by unfold pz; rw [List.map_reverse]
theorem pz_app (a b : List PH) : pz (a ++ b) = pz a ++ pz b := by unfold pz; rw [List.map_append]

set_option maxHeartbeats 8000000 in
set_option maxRecDepth 100000 in
theorem walkRareBack (A : Option Addr) (len cap : Nat) (w : World) (hI : In w A len cap) :
    Calls Try.prog 12 #[.slice A len cap] w fun e w' => e = .returned (.bool true) ∧ Below w.heap.size w w' := by
  have hm := hI.len_le
  unfold maxLen at hm
  have HI := Lib.hid hI
  clear hI
  by_cases hlen : len ≤ 1048576
  · go_enter Try.func12, Try.ntmps12
    go_wp2_with fail
    refine (drawRareOrder_any A len cap _ HI.out).mono ?_
    rintro e w1 ⟨X, c, hs, Y, d, mine, rfl, hl7, hm18, hp1, ho1, hb1⟩
    have PP1 := Lib.hid hp1
    have PM1 := Lib.hid ho1
    have HB1 := Lib.hid hb1
    clear hp1 ho1 hb1
    obtain ⟨n, HN⟩ : ∃ v, Hid (hs.length = v) := ⟨_, rfl⟩
    obtain ⟨m, HM⟩ : ∃ v, Hid (mine.length = v) := ⟨_, rfl⟩
    obtain ⟨os, HOS⟩ : ∃ v, Hid (natZ (orderN (pz hs) mine) = v) := ⟨_, rfl⟩
    obtain ⟨l, HL⟩ : ∃ v, Hid (os.length = v) := ⟨_, rfl⟩
    rw [HN.out] at hl7
    rw [HM.out] at hm18
    have hl16 : l ≤ 16 := by rw [← HL.out, ← HOS.out, natZ_length]; exact orderN_len _ _
    have HLM : Hid (os.length ≤ maxLen) := by show _ ≤ _; rw [HL.out]; unfold maxLen; omega
    rw [HN.out, HM.out]
    go_wp2_with fail
    have CI := Lib.hid (order_any X c hs Y d mine w1 PP1.out PM1.out.ints)
    rw [HN.out, HM.out, HOS.out] at CI
    refine CI.out.mono ?_
    rintro e w2 ⟨A2, c2, rfl, ho2, hb2⟩
    rw [HL.out]
    have PO2 := Lib.hid ho2
    clear ho2 CI
    have PP2 := Lib.hid (PP1.out.belowS hb2)
    have PM2 := Lib.hid (PM1.out.below hb2)
    have HB2 : Hid (Below w.heap.size w w2) := HB1.out.trans (hb2.mono HB1.out.size)
    clear hb2
    go_wp2_with fail
    have CI := Lib.hid (sorder_any X c hs Y d mine w2 PP2.out PM2.out.ints)
    rw [HN.out, HM.out, HOS.out] at CI
    refine CI.out.mono ?_
    rintro e w3 ⟨A3, c3, rfl, ho3, hb3⟩
    rw [HL.out]
    have PW3 := Lib.hid ho3
    clear ho3 CI
    have PP3 := Lib.hid (PP2.out.belowS hb3)
    have PM3 := Lib.hid (PM2.out.below hb3)
    have HB3 : Hid (Below w.heap.size w w3) := HB2.out.trans (hb3.mono HB2.out.size)
    have PO3 := Lib.hid (PO2.out.below hb3)
    clear hb3
    go_wp2_with fail
    have CI := Lib.hid (same_any A2 c2 os A3 c3 os w3 PO3.out.ints PW3.out.ints HLM.out HLM.out)
    rw [HL.out] at CI
    refine CI.out.mono ?_
    rintro e w4 ⟨rfl, q, hq⟩
    have hb4 : Below w3.heap.size w3 w4 := by rw [hq]; exact below_drewN (Below.refl _ _) q
    clear hq CI
    rw [deci_self os]
    have PP4 := Lib.hid (PP3.out.belowS hb4)
    have PM4 := Lib.hid (PM3.out.below hb4)
    have HB4 : Hid (Below w.heap.size w w4) := HB3.out.trans (hb4.mono HB3.out.size)
    have PO4 := Lib.hid (PO3.out.below hb4)
    have PW4 := Lib.hid (PW3.out.below hb4)
    clear hb4
    obtain ⟨i0, hi0, hz0, hz1, hz2, hz3⟩ := bitsP_parts
    have HI0 : Hid (Try.prog.info? PK.e = some i0 ∧ i0.zero = some (.slice none 0 0) ∧ i0.size = PK.k ∧ i0.bytes = PK.by_ ∧ (Value.slice none 0 0).cells.size = PK.k) := ⟨hi0, hz0, hz1, hz2, hz3⟩
    clear hi0 hz0 hz1 hz2 hz3
    have HB5 : Hid (Below w4.heap.size w4 (w4.alloc (.cells #[] 28))) := (Below.refl _ _).alloc (Nat.le_refl _) _
    have HO5 : Hid (OwnRow PK (w4.alloc (.cells #[] 28)) w4.heap.size (some ⟨w4.heap.size, 0, none⟩) 0 (hs.reverse.take 0)) := OwnRow.new PK w4
    have HNR : Hid (hs.reverse.length = n) := by show _ = _; rw [List.length_reverse]; exact HN.out
    go_wp2
    go_loopw [7, 8] (fun x i w' => ∃ (Z : Option Addr) (zc k : Nat), k ≤ n ∧ x = .slice Z k zc ∧ i = .int .i64 ((n : Int) - 1 - (k : Int)) ∧ Hid (OwnRow PK w' w4.heap.size Z zc (hs.reverse.take k)) ∧ Hid (Below w4.heap.size w4 w')) (fun _ i _ => (intOf i + 1).toNat)
    case atStart => exact ⟨_, 0, 0, by omega, rfl, by go_num, HO5, HB5⟩
    case round =>
      clear HO5 HB5
      obtain ⟨Z, zc, k, hk, rfl, rfl, HO, HBr⟩ := hrel
      have hzr : w4.heap.size ≤ wr.heap.size := HBr.out.size
      have HLK : Hid ((hs.reverse.take k).length = k) := by show _ = _; rw [List.length_take, HNR.out]; omega
      by_cases hlt : k < n
      · obtain ⟨j, hj, HJ⟩ : ∃ j : Nat, j < n ∧ Hid ((n : Int) - 1 - (k : Int) = (j : Int) ∧ j = n - 1 - k) := ⟨n - 1 - k, by omega, (by show _ ∧ _; omega)⟩
        have hki : (0 : Int) ≤ (j : Int) := by omega
        have hnj : ¬ (j : Int) < 0 := by omega
        have hjn : (j : Int) < (n : Int) := by omega
        have HP : Hid (PAt wr wr.heap.size X hs) := PP4.out.belowS HBr.out
        obtain ⟨pb, po, hpA, _, hpc⟩ := HP.out.cell j (by rw [HN.out]; exact hj)
        have HTK : Hid (hs.reverse.take (k + 1) = hs.reverse.take k ++ [hth hs j]) := by
          show _ = _
          rw [take_hth _ _ (by rw [HNR.out]; exact hlt), hth_rev _ _ (by rw [HN.out]; exact hlt), HN.out, ← HJ.out.2]
        obtain ⟨z, HZ⟩ : ∃ v, Hid (hth hs j = v) := ⟨_, rfl⟩
        rw [HZ.out] at hpc HTK
        obtain ⟨za, zc2, zz⟩ := z
        simp only at hpc
        subst hpA
        rw [HJ.out.1]
        have hj1 : (j : Int) - 1 = (n : Int) - 1 - ((k : Int) + 1) := by have := HJ.out.1; omega
        have HJ1 := Lib.hid hj1
        clear hj1
        go_wp2_with (at_builtin; refine wpList_app_row (K := PK) Try.underlying23 HI0.out.1 HI0.out.2.1 HI0.out.2.2.1 HI0.out.2.2.2.1 HI0.out.2.2.2.2 (by decide) rfl (.tmp 38) (.tmp 43) rfl _ w4.heap.size Z zc (hs.reverse.take k) (by rw [HLK.out]; rfl) _ _ [(⟨za, zc2, zz⟩ : PH)] rfl (HO.out.alloc _) (one_newR PK wr ⟨za, zc2, zz⟩ _) (by rw [HLK.out]; show k + 1 ≤ 1000000; omega) (by rw [World.size_alloc]; omega) (fun e => by cases e) ?_; intro v2 w6 hA)
        obtain ⟨⟨Z', zc', rfl, hO6⟩, hg6, hb6, _⟩ := hA
        rw [← HTK.out] at hO6 ⊢
        have HO6 := Lib.hid hO6
        have HB6 : Hid (Below w4.heap.size w4 w6) := (HBr.out.alloc hzr _).trans hb6
        have hlen : (hs.reverse.take (k + 1)).length = k + 1 := by rw [List.length_take, HNR.out]; omega
        rw [hlen]
        clear hO6 hg6 hb6 hlen
        go_wp2
        go_roundw
        case rel => exact ⟨Z', zc', k + 1, by omega, rfl, by have := HJ1.out; first | (congr 1; done) | (congr 1; omega), HO6, HB6⟩
        case measure => simp [intOf]; try (have := HJ.out.1; omega)
      · have hkn : k = n := by omega
        have hki : (n : Int) - 1 - (k : Int) = -1 := by omega
        rw [hki]
        subst hkn
        have hb5 := HBr.out
        have HB5 : Hid (Below w.heap.size w wr) := HB4.out.trans (hb5.mono HB4.out.size)
        have HP5 : Hid (PAt wr wr.heap.size X hs) := PP4.out.belowS hb5
        have HM5 := Lib.hid (PM4.out.below hb5)
        have HO5 := Lib.hid (PO4.out.below hb5)
        have htk : hs.reverse.take k = hs.reverse := List.take_of_length_le (by rw [HNR.out]; exact Nat.le_refl _)
        have HR5 : Hid (PAt wr wr.heap.size Z hs.reverse) := by
          have := HO.out
          rw [htk] at this
          exact pat_of this (fun x hx => pat_in HP5.out x (List.mem_reverse.1 hx)) (by rw [HNR.out]; exact hl7)
        clear hb5 htk
        have CI := Lib.hid (order_any Z zc hs.reverse Y d mine wr HR5.out HM5.out.ints)
        rw [pz_rev, orderN_back, HNR.out, HM.out, HOS.out] at CI
        go_wp2_with fail
        refine CI.out.mono ?_
        rintro e w6 ⟨A6, c6, rfl, ho6, hb6⟩
        rw [HL.out]
        have HO6 := Lib.hid ho6
        have HS6 := Lib.hid (HO5.out.below hb6)
        have HP6 := Lib.hid (HP5.out.belowS hb6)
        have HR6 := Lib.hid (HR5.out.belowS hb6)
        have HB6 : Hid (Below w.heap.size w w6) := HB5.out.trans (hb6.mono HB5.out.size)
        clear ho6 hb6 CI
        go_wp2_with fail
        have CI := Lib.hid (same_any A6 c6 os A2 c2 os w6 HO6.out.ints HS6.out.ints HLM.out HLM.out)
        rw [HL.out] at CI
        refine CI.out.mono ?_
        rintro e w7 ⟨rfl, q, hq⟩
        have hb7 : Below w6.heap.size w6 w7 := by rw [hq]; exact below_drewN (Below.refl _ _) q
        clear hq CI
        rw [deci_self os]
        have HP7 := Lib.hid (HP6.out.belowS hb7)
        have HR7 := Lib.hid (HR6.out.belowS hb7)
        have HB7 : Hid (Below w.heap.size w w7) := HB6.out.trans (hb7.mono HB6.out.size)
        clear hb7
        obtain ⟨v5, HV5⟩ : ∃ v, Hid (wholeZ (pz hs) 5 = v) := ⟨_, rfl⟩
        have C1 := Lib.hid (whole_any Z zc hs.reverse 5 w7 _ HR7.out)
        have C2 := Lib.hid (whole_any X c hs 5 w7 _ HP7.out)
        rw [pz_rev, wholeZ_back, HNR.out, HV5.out] at C1
        rw [HN.out, HV5.out] at C2
        have h55 : (v5 == v5) = true := by simp
        go_wp2_with fail
        refine C1.out.mono ?_
        rintro e w8 ⟨rfl, hw8⟩
        subst hw8
        go_wp2_with fail
        refine C2.out.mono ?_
        rintro e w9 ⟨rfl, hw9⟩
        subst hw9
        go_wp2
        go_ret
        exact ⟨rfl, HB7.out⟩
  · have h9 : 1048576 < len := by omega
    clear hlen
    go_enter Try.func12, Try.ntmps12
    go_wp2
    go_ret
    exact ⟨rfl, Below.refl _ _⟩

end Go.Proofs.Ytgjnhfciphiciaa
