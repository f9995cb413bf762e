/- The walk of FnRareMore: it returns true and changes nothing that was there. Condition: the codes' bytes lie in memory. -/
import Derived.Test.YtgjnhfciphiciaaRareLaws
import Derived.Test.YtgjnhfciphiciaaHolders
import Derived.Test.YtgjnhfciphiciaaSame
import Derived.Test.YtgjnhfciphiciaaDrawPeers
import Derived.Test.YtgjnhfciphiciaaDrawWhole
namespace Go.Proofs.Ytgjnhfciphiciaa
open Go.RowKit
set_option linter.unusedVariables false

theorem pat_of {w : World} {base : Nat} {Z : Option Addr} {zc : Nat} {xs : List PH} (hO : OwnRow PK w base Z zc xs) (hb : ∀ h ∈ xs, BoolsAt w w.heap.size h.a h.zs ∧ h.zs.length ≤ h.c ∧ h.c ≤ maxLen) (hm : xs.length ≤ 7) : PAt w w.heap.size Z xs :=
  ⟨hO.at_, fun h hx => (hb h hx).1, fun h hx => (hb h hx).2, by unfold maxLen; omega⟩
theorem pat_in {w : World} {Z : Option Addr} {xs : List PH} (h : PAt w w.heap.size Z xs) : ∀ x ∈ xs, BoolsAt w w.heap.size x.a x.zs ∧ x.zs.length ≤ x.c ∧ x.c ≤ maxLen := fun x hx => ⟨h.bits x hx, h.fit x hx⟩
theorem app_keep {W w8 : World} {base b2 zc d : Nat} {Y Z : Option Addr} {hs xs : List PH} {zs : List Bool} {v : Value} (hA : AppendedR PK W base Z hs.length zc xs v w8) (hR : OwnRow PK W base Z zc hs) (hB : OwnBools W b2 Y d zs) : OwnBools w8 b2 Y d zs :=
  obk_block hB fun y hy => hA.grown.block y (obk_lt hB y hy).2 (fun e => bits_apart hR hB y hy e)
theorem take_hth (hs : List PH) (k : Nat) (h : k < hs.length) : hs.take (k + 1) = hs.take k ++ [hth hs k] := by rw [List.take_succ_eq_append_getElem h, hth_eq hs k h]
theorem hth_rev (hs : List PH) (k : Nat) (h : k < hs.length) : hth hs.reverse k = hth hs (hs.length - 1 - k) := by
  rw [hth_eq _ _ (by rw [List.length_reverse]; exact h), hth_eq _ _ (by omega), List.getElem_reverse]
theorem pz_rev (hs : List PH) : pz hs.reverse = (pz hs).reverse := by unfold pz; rw [List.map_reverse]
theorem pz_app (a b : List PH) : pz (a ++ b) = pz a ++ pz b := by unfold pz; rw [List.map_append]

set_option maxHeartbeats 8000000 in
set_option maxRecDepth 100000 in
theorem walkRareMore (A : Option Addr) (len cap : Nat) (A1 : Option Addr) (len1 cap1 : Nat) (w : World) (hI : In w A len cap) (hI1 : In w A1 len1 cap1) :
    Calls Try.prog 9 #[.slice A len cap, .slice A1 len1 cap1] w fun e w' => e = .returned (.bool true) ∧ Below w.heap.size w w' := by
  have hm := hI.len_le
  unfold maxLen at hm
  have hm1 := hI1.len_le
  unfold maxLen at hm1
  have HI := Lib.hid hI
  clear hI
  by_cases hlen : len ≤ 1048576
  · by_cases hlen1 : len1 ≤ 1048576
    · go_enter Try.func9, Try.ntmps9
      go_wp2_with fail
      refine (drawRareWhole_any A len cap _ HI.out).mono ?_
      rintro e w1 ⟨X, c, hs, b0, rfl, hl7, hb100, hb200, hp1, hb1⟩
      have PP1 := Lib.hid hp1
      have HB1 := Lib.hid hb1
      clear hp1 hb1
      obtain ⟨n, HN⟩ : ∃ v, Hid (hs.length = v) := ⟨_, rfl⟩
      rw [HN.out] at hl7
      rw [HN.out]
      obtain ⟨v, HV⟩ : ∃ v, Hid (wholeZ (pz hs) b0 = v) := ⟨_, rfl⟩
      go_wp2_with fail
      have CI := Lib.hid (whole_any X c hs b0 w1 _ PP1.out)
      rw [HN.out, HV.out] at CI
      refine CI.out.mono ?_
      rintro e w1 ⟨rfl, rfl⟩
      clear CI
      go_wp2_with fail
      have CI := Lib.hid (srareWhole_any X c hs b0 w1 _ PP1.out)
      rw [HN.out, HV.out] at CI
      refine CI.out.mono ?_
      rintro e w1 ⟨rfl, rfl⟩
      clear CI
      have hne : (v != v) = false := by simp
      have heq : (v == v) = true := by simp
      by_cases hv0 : v < 0
      · go_wp2
        go_ret
        exact ⟨rfl, HB1.out⟩
      · have hv0h : ¬ v < 0 := hv0
        obtain ⟨hok, hb0, hb16⟩ : okP (pz hs) = true ∧ 0 ≤ b0 ∧ b0 ≤ 16 := by
          by_cases h : okP (pz hs) = true ∧ 0 ≤ b0 ∧ b0 ≤ 16
          · exact h
          · have := HV.out; rw [wholeZ_no h] at this; omega
        obtain ⟨j, rfl⟩ : ∃ j : Nat, b0 = (j : Int) := ⟨b0.toNat, by omega⟩
        obtain ⟨r, HR⟩ : ∃ v, Hid (least (pz hs) j = v) := ⟨_, rfl⟩
        have hvr : v = (r : Int) := by rw [← HV.out, ← HR.out]; unfold wholeZ; rw [if_pos ⟨hok, by omega, by omega⟩]; rfl
        subst hvr
        have hv0i : ¬ (r : Int) < 0 := by omega
        by_cases hn6 : n = 6
        · subst hn6
          go_wp2
          go_ret
          exact ⟨rfl, HB1.out⟩
        · have hn6b : ((n : Int) == 6) = false := by simp; omega
          have hn5 : n ≤ 5 := by
            have := ((okP_iff (pz hs)).1 hok).1
            rw [pz_length, HN.out] at this
            omega
          have HOK := Lib.hid hok
          obtain ⟨i0, hi0, hz0, hz1, hz2, hz3⟩ := bitsP_parts
          have HI0 : Hid (Try.prog.info? PK.e = some i0 ∧ i0.zero = some (.slice none 0 0) ∧ i0.size = PK.k ∧ i0.bytes = PK.by_ ∧ (Value.slice none 0 0).cells.size = PK.k) := ⟨hi0, hz0, hz1, hz2, hz3⟩
          clear hi0 hz0 hz1 hz2 hz3 hn6 hok
          have HB5 : Hid (Below w1.heap.size w1 (w1.alloc (.cells #[] 28))) := (Below.refl _ _).alloc (Nat.le_refl _) _
          have HO5 : Hid (OwnRow PK (w1.alloc (.cells #[] 28)) w1.heap.size (some ⟨w1.heap.size, 0, none⟩) 0 (hs.take 0)) := OwnRow.new PK w1
          have hmod17 : (len1 : Int).tmod 17 = ((len1 % 17 : Nat) : Int) := tmod_nat len1 17
          have hmod16 : (len1 : Int).tmod 16 = ((len1 % 16 : Nat) : Int) := tmod_nat len1 16
          have hmd17 : len1 % 17 ≤ 16 := by omega
          have hmd16 : len1 % 16 < 16 := by omega
          obtain ⟨md, HMD⟩ : ∃ v, Hid (len1 % 17 = v) := ⟨_, rfl⟩
          obtain ⟨me, HME⟩ : ∃ v, Hid (len1 % 16 = v) := ⟨_, rfl⟩
          rw [HMD.out] at hmod17 hmd17
          rw [HME.out] at hmod16 hmd16
          go_wp2
          go_loopw [9, 10] (fun x i w' => ∃ (Z : Option Addr) (zc k : Nat), k ≤ n ∧ x = .slice Z k zc ∧ i = .int .i64 (k : Int) ∧ Hid (OwnRow PK w' w1.heap.size Z zc (hs.take k)) ∧ Hid (Below w1.heap.size w1 w')) (fun _ i _ => n - (intOf i).toNat)
          case atStart => exact ⟨_, 0, 0, by omega, rfl, rfl, HO5, HB5⟩
          case round =>
            clear HO5 HB5
            obtain ⟨Z, zc, k, hk, rfl, rfl, HO, HBr⟩ := hrel
            have hzr : w1.heap.size ≤ wr.heap.size := HBr.out.size
            have HLK : Hid ((hs.take k).length = k) := by show _ = _; rw [List.length_take, HN.out]; omega
            by_cases hlt : k < n
            · have hki : (k : Int) < (n : Int) := by omega
              have hkz : k < hs.length := by rw [HN.out]; exact hlt
              have HP : Hid (PAt wr wr.heap.size X hs) := PP1.out.belowS HBr.out
              obtain ⟨pb, po, hpA, _, hpc⟩ := HP.out.cell k hkz
              have HTK : Hid (hs.take (k + 1) = hs.take k ++ [hth hs k]) := take_hth _ _ hkz
              obtain ⟨z, HZ⟩ : ∃ v, Hid (hth hs k = v) := ⟨_, rfl⟩
              rw [HZ.out] at hpc HTK
              obtain ⟨za, zc2, zz⟩ := z
              simp only at hpc
              subst hpA
              clear hkz
              go_wp2_with (at_builtin; refine wpList_app_row (K := PK) Try.underlying23 HI0.out.1 HI0.out.2.1 HI0.out.2.2.1 HI0.out.2.2.2.1 HI0.out.2.2.2.2 (by decide) rfl (.tmp 54) (.tmp 59) rfl _ w1.heap.size Z zc (hs.take k) (by rw [HLK.out]; rfl) _ _ [(⟨za, zc2, zz⟩ : PH)] rfl (HO.out.alloc _) (one_newR PK wr ⟨za, zc2, zz⟩ _) (by rw [HLK.out]; show k + 1 ≤ 1000000; omega) (by rw [World.size_alloc]; omega) (fun e => by cases e) ?_; intro v2 w6 hA)
              obtain ⟨⟨Z', zc', rfl, hO6⟩, hg6, hb6, _⟩ := hA
              rw [← HTK.out] at hO6 ⊢
              have HO6 := Lib.hid hO6
              have HB6 : Hid (Below w1.heap.size w1 w6) := (HBr.out.alloc hzr _).trans hb6
              have hlen : (hs.take (k + 1)).length = k + 1 := by rw [List.length_take, HN.out]; omega
              rw [hlen]
              clear hO6 hg6 hb6 hlen
              go_wp2
              go_roundw
              case rel => exact ⟨Z', zc', k + 1, by omega, rfl, by go_num, HO6, HB6⟩
              case measure => simp [intOf]; omega
            · have hki : ¬ (k : Int) < (n : Int) := by omega
              have hkn : k = n := by omega
              subst hkn
              have htk : hs.take k = hs := List.take_of_length_le (by rw [HN.out]; exact Nat.le_refl _)
              have HOA : Hid (OwnRow PK wr w1.heap.size Z zc hs) := by have := HO.out; rw [htk] at this; exact this
              clear htk HO hlt
              have HB6 : Hid (Below wr.heap.size wr (wr.alloc (.cells #[] 4))) := (Below.refl _ _).alloc (Nat.le_refl _) _
              have HO6 : Hid (OwnBools (wr.alloc (.cells #[] 4)) wr.heap.size (some ⟨wr.heap.size, 0, none⟩) 0 []) := OwnBools.new wr
              obtain ⟨wa, HWA⟩ : ∃ v, Hid (wr = v) := ⟨_, rfl⟩
              rw [HWA.out] at HBr HOA HB6 HO6 hzr
              go_wp2
              rw [HWA.out]
              go_loopw [11, 12] (fun x i w' => ∃ (Y : Option Addr) (d q : Nat) (zs : List Bool), q ≤ md ∧ x = .slice Y q d ∧ i = .int .i64 (q : Int) ∧ Hid (zs.length = q) ∧ Hid (OwnBools w' wa.heap.size Y d zs) ∧ Hid (Below wa.heap.size wa w')) (fun _ i _ => md - (intOf i).toNat)
              case atStart => exact ⟨_, 0, 0, [], by omega, rfl, rfl, rfl, HO6, HB6⟩
              case round =>
                clear HO6 HB6
                obtain ⟨Y, d, q, zs, hq, rfl, rfl, HLZ, HOZ, HBz⟩ := hrel
                have hzz : wa.heap.size ≤ wr.heap.size := HBz.out.size
                by_cases hlt : q < md
                · have hqi : (q : Int) < (md : Int) := by omega
                  go_wp2_with (at_builtin; refine wpList_app_bools rfl (.tmp 69) (.tmp 73) rfl _ wa.heap.size Y d zs (by rw [HLZ.out]; rfl) _ _ [decide (0 < (q : Int).tmod 3)] rfl (HOZ.out.alloc _) (one_newB _ _) (by rw [HLZ.out]; simp; omega) (by simp; omega) (by simp) ?_; intro v2 w7 hA)
                  obtain ⟨⟨Y', d', rfl, hO7⟩, hg7, hb7⟩ := hA
                  have HO7 := Lib.hid hO7
                  have HB7 : Hid (Below wa.heap.size wa w7) := (HBz.out.alloc hzz _).trans hb7
                  have hlen : (zs ++ [decide (0 < (q : Int).tmod 3)]).length = q + 1 := by rw [List.length_append, HLZ.out]; rfl
                  have HL7 := Lib.hid hlen
                  rw [hlen]
                  clear hO7 hg7 hb7 hlen
                  go_wp2
                  go_roundw
                  case rel => exact ⟨Y', d', q + 1, _, by omega, rfl, by go_num, HL7, HO7, HB7⟩
                  case measure => simp [intOf]; omega
                · have hqi : ¬ (q : Int) < (md : Int) := by omega
                  have hqm : q = md := by omega
                  subst hqm
                  have hzq := HLZ.out
                  subst hzq
                  have hb7 := HBz.out
                  have HOR : Hid (OwnRow PK wr w1.heap.size Z zc hs) := HOA.out.below hb7
                  have HB7 : Hid (Below w1.heap.size w1 wr) := HBr.out.trans (hb7.mono hzr)
                  clear hb7 hqi hlt hq HOA
                  go_wp2_with (at_builtin; refine wpList_app_row (K := PK) Try.underlying23 HI0.out.1 HI0.out.2.1 HI0.out.2.2.1 HI0.out.2.2.2.1 HI0.out.2.2.2.2 (by decide) rfl (.tmp 75) (.tmp 77) rfl _ w1.heap.size Z zc hs (by rw [HN.out]; rfl) _ _ [(⟨Y, d, zs⟩ : PH)] rfl (HOR.out.alloc _) (one_newR PK wr ⟨Y, d, zs⟩ _) (by rw [HN.out]; show k + 1 ≤ 1000000; omega) (by rw [World.size_alloc]; omega) (fun e => by cases e) ?_; intro v2 w8 hA)
                  have hkeep : OwnBools w8 wa.heap.size Y d zs := app_keep hA (HOR.out.alloc _) (HOZ.out.alloc _)
                  obtain ⟨⟨Z', zc', rfl, hO8⟩, hg8, hb8, _⟩ := hA
                  have hB8 : Below w1.heap.size w1 w8 := (HB7.out.alloc (by omega) _).trans hb8
                  have hP8 : PAt w8 w8.heap.size X hs := PP1.out.belowS hB8
                  have hQ8 : PAt w8 w8.heap.size Z' (hs ++ [(⟨Y, d, zs⟩ : PH)]) := pat_of hO8 (fun x hx => by
                    rcases List.mem_append.1 hx with hx | hx
                    · exact pat_in hP8 x hx
                    · rw [List.mem_singleton.1 hx]; exact ⟨hkeep.ints, ownb_fit hkeep⟩) (by rw [List.length_append, HN.out]; show k + 1 ≤ 7; omega)
                  have HB8 : Hid (Below w.heap.size w w8) := HB1.out.trans (hB8.mono HB1.out.size)
                  have HP8 := Lib.hid hP8
                  clear hkeep hO8 hg8 hb8 hB8 hP8 HOR HB7
                  have hokm : okP (pz (hs ++ [(⟨Y, d, zs⟩ : PH)])) = true := by rw [pz_app]; exact okP_more HOK.out (by rw [pz_length, HN.out]; exact hn5) hmd17
                  have hlm : r ≤ least (pz (hs ++ [(⟨Y, d, zs⟩ : PH)])) j := by rw [pz_app, ← HR.out]; exact least_more _ _ j
                  have hcm : cntB (pz hs) me ≤ cntB (pz (hs ++ [(⟨Y, d, zs⟩ : PH)])) me := by rw [pz_app]; exact cnt_more _ _ me
                  have hlen : (hs ++ [(⟨Y, d, zs⟩ : PH)]).length = k + 1 := by rw [List.length_append, HN.out]; rfl
                  obtain ⟨hs2, HS2⟩ : ∃ v, Hid (hs ++ [(⟨Y, d, zs⟩ : PH)] = v) := ⟨_, rfl⟩
                  rw [HS2.out] at hQ8 hokm hlm hcm hlen ⊢
                  have C1 := Lib.hid (whole_any Z' zc' hs2 (j : Int) w8 _ hQ8)
                  have C2 := Lib.hid (count_any Z' zc' hs2 (me : Int) w8 _ hQ8)
                  have C3 := Lib.hid (count_any X c hs (me : Int) w8 _ HP8.out)
                  have hwz : wholeZ (pz hs2) (j : Int) = ((least (pz hs2) j : Nat) : Int) := by unfold wholeZ; rw [if_pos ⟨hokm, by omega, by omega⟩]; rfl
                  rw [hwz, hlen] at C1
                  rw [countZ_nat hokm hmd16, hlen] at C2
                  rw [countZ_nat HOK.out hmd16, HN.out] at C3
                  rw [hlen]
                  obtain ⟨r2, HR2⟩ : ∃ v, Hid (least (pz hs2) j = v) := ⟨_, rfl⟩
                  obtain ⟨q1, HQ1⟩ : ∃ v, Hid (cntB (pz hs) me = v) := ⟨_, rfl⟩
                  obtain ⟨q2, HQ2⟩ : ∃ v, Hid (cntB (pz hs2) me = v) := ⟨_, rfl⟩
                  rw [HR2.out] at hlm C1
                  rw [HQ1.out] at hcm C3
                  rw [HQ2.out] at hcm C2
                  have hlmi : (r : Int) ≤ (r2 : Int) := by omega
                  have hcmi : (q1 : Int) ≤ (q2 : Int) := by omega
                  clear hQ8 hokm hlen hwz
                  go_wp2_with fail
                  refine C1.out.mono ?_
                  rintro e w9 ⟨rfl, hw9⟩
                  subst hw9
                  go_wp2_with fail
                  refine C2.out.mono ?_
                  rintro e w10 ⟨rfl, hw10⟩
                  subst hw10
                  go_wp2_with fail
                  refine C3.out.mono ?_
                  rintro e w11 ⟨rfl, hw11⟩
                  subst hw11
                  go_wp2
                  go_ret
                  first | exact ⟨rfl, HB8.out⟩ | exact ⟨ret_bool (by simp; omega), HB8.out⟩
    · have h9 : 1048576 < len1 := by omega
      clear hlen1
      go_enter Try.func9, Try.ntmps9
      go_wp2
      go_ret
      exact ⟨rfl, Below.refl _ _⟩
  · have h9 : 1048576 < len := by omega
    clear hlen
    go_enter Try.func9, Try.ntmps9
    go_wp2
    go_ret
    exact ⟨rfl, Below.refl _ _⟩

end Go.Proofs.Ytgjnhfciphiciaa
