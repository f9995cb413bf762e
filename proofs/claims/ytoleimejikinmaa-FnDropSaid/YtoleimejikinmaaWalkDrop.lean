/- The walk of FnDrop: it returns true and changes nothing that was there. Condition: the code's bytes lie in memory. -/
import Derived.Test.YtoleimejikinmaaDrawWin2
import Derived.Test.YtoleimejikinmaaSWinGot
namespace Go.Proofs.Ytoleimejikinmaa
open Go.RowKit
set_option linter.unusedVariables false

set_option maxHeartbeats 8000000 in
set_option maxRecDepth 100000 in
theorem walkDrop (A : Option Addr) (len cap : Nat) (w : World) (hI : In w A len cap) :
    Calls Try.prog 8 #[.slice A len cap] w fun e w' => e = .returned (.bool true) ∧ Below w.heap.size w w' := by
  have hm := hI.len_le
  unfold maxLen at hm
  have HI := Lib.hid hI
  clear hI
  by_cases hlen : len ≤ 1048576
  · go_enter Try.func8, Try.ntmps8
    go_wp2_with fail
    refine (drawWDrop_any A len cap _ HI.out).mono ?_
    rintro e w1 ⟨X, c, xs, pr, rfl, ho, hl, hp0, hp1, hb1⟩
    have PF1 := Lib.hid ho
    have HB1 := Lib.hid hb1
    clear ho hb1
    obtain ⟨nb, HN⟩ : ∃ v, Hid (xs.length = v) := ⟨_, rfl⟩
    obtain ⟨os, HO⟩ : ∃ v, Hid (dropR xs pr = v) := ⟨_, rfl⟩
    obtain ⟨ov, HV⟩ : ∃ v, Hid (dropN xs pr = v) := ⟨_, rfl⟩
    obtain ⟨mb, HM⟩ : ∃ v, Hid (os.length = v) := ⟨_, rfl⟩
    rw [HN.out] at hl ⊢
    go_wp2_with fail
    have CI := Lib.hid (winDrop_any X c xs pr w1 (own_asks PF1.out))
    rw [HN.out, HO.out, HV.out] at CI
    refine CI.out.mono ?_
    rintro e w3 ⟨A3, c3, rfl, ho3, hb3⟩
    rw [HM.out]
    have PO3 := Lib.hid ho3
    clear ho3 CI
    have PF3 := Lib.hid (PF1.out.below hb3)
    have HB3 : Hid (Below w.heap.size w w3) := HB1.out.trans (hb3.mono HB1.out.size)
    clear hb3
    go_wp2_with fail
    have CI := Lib.hid (swinDrop_any X c xs pr w3 (own_asks PF3.out))
    rw [HN.out, HO.out, HV.out] at CI
    refine CI.out.mono ?_
    rintro e w4 ⟨A4, c4, rfl, ho4, hb4⟩
    rw [HM.out]
    have PW4 := Lib.hid ho4
    clear ho4 CI
    have PF4 := Lib.hid (PF3.out.below hb4)
    have HB4 : Hid (Below w.heap.size w w4) := HB3.out.trans (hb4.mono HB3.out.size)
    have PO4 := Lib.hid (PO3.out.below hb4)
    clear hb4
    have hne : (ov != ov) = false := by simp
    have heq : (ov == ov) = true := by simp
    go_wp2_with fail
    refine (sameA_any A3 c3 A4 c4 os w4 (own_asks PO4.out) (own_asks PW4.out) HM.out).mono ?_
    rintro e w5 ⟨rfl, hb5⟩
    have PF5 := Lib.hid (PF4.out.below hb5)
    have HB5 : Hid (Below w.heap.size w w5) := HB4.out.trans (hb5.mono HB4.out.size)
    have PO5 := Lib.hid (PO4.out.below hb5)
    have PW5 := Lib.hid (PW4.out.below hb5)
    clear hb5
    obtain hneg | ⟨hwin, hok, hnum, hres⟩ := dropN_neg_iff xs pr
    · have hov : ov = -1 := by rw [← HV.out, hneg]
      subst hov
      clear hneg
      go_wp2_with fail
      refine (sameA_any A3 c3 A4 c4 os w5 (own_asks PO5.out) (own_asks PW5.out) HM.out).mono ?_
      rintro e w6 ⟨rfl, hb6⟩
      have PF6 := Lib.hid (PF5.out.below hb6)
      have HB6 : Hid (Below w.heap.size w w6) := HB5.out.trans (hb6.mono HB5.out.size)
      have PO6 := Lib.hid (PO5.out.below hb6)
      have PW6 := Lib.hid (PW5.out.below hb6)
      clear hb6
      go_wp2
      go_ret
      exact ⟨rfl, HB6.out⟩
    · rw [HV.out] at hnum
      rw [HO.out] at hres
      have hovn : ¬ ov < 0 := by omega
      have HWIN := Lib.hid hwin
      have HOK := Lib.hid hok
      have HNUM := Lib.hid hnum
      have HRES := Lib.hid hres
      clear hwin hok hnum hres
      obtain ⟨i0, zz, hi0, hz0, hz1, hz2, hz3⟩ := ask_app_info
      have HI0 := Lib.hid (And.intro hi0 (And.intro hz0 (And.intro hz1 (And.intro hz2 hz3))))
      clear hi0 hz0 hz1 hz2 hz3
      have HT : Hid (roomN os pr = 3) := by show _ = _; rw [HRES.out]; exact (drop_twice HWIN.out HOK.out).2.2
      have hlen2 : ov = (nb : Int) - (mb : Int) := by
        have h := filter_length xs (isP pr)
        rw [← HRES.out, HM.out, HN.out] at h
        have h2 : ov = ((xs.countP (isP pr) : Nat) : Int) := HNUM.out
        omega
      have hw1 : IntKind.i64.wrap ((nb : Int) - (mb : Int)) = ov := by rw [hlen2]; exact IntWalk.i64_in _ (by have := HNUM.out; omega)
      clear hlen2
      obtain ⟨Wc, HWc⟩ : ∃ Q0, Hid (w5.alloc (.cells #[] 25) = Q0) := ⟨_, rfl⟩
      have HBc : Hid (Below w.heap.size w Wc) := by rw [← HWc.out]; exact HB5.out.alloc HB5.out.size _
      have hbc : Below w5.heap.size w5 Wc := by rw [← HWc.out]; exact (Below.refl _ _).alloc (Nat.le_refl _) _
      have PFc := Lib.hid (PF5.out.below hbc)
      have POc := Lib.hid (PO5.out.below hbc)
      have HOc : Hid (OwnRow AK Wc w5.heap.size (some ⟨w5.heap.size, 0, none⟩) 0 []) := by rw [← HWc.out]; exact OwnRow.new AK w5
      have hz5 : w.heap.size ≤ w5.heap.size := HB5.out.size
      have HB5c := Lib.hid hbc
      clear hbc
      go_upto_region 9 with fail
      rw [HWc.out]
      go_wp2
      go_loopw [9, 10] (fun s i wr => ∃ (k m x : Nat) (Y : Option Addr), k ≤ nb ∧ m ≤ k ∧ s = .slice Y m x ∧ i = .int .i64 (k : Int) ∧ Hid (Below w5.heap.size w5 wr) ∧ Hid (OwnRow AK wr w5.heap.size Y x ((xs.take k).filter (fun x => !isP pr x))) ∧ Hid (((xs.take k).filter (fun x => !isP pr x)).length = m)) (fun _ i _ => nb - (intOf i).toNat)
      case atStart => exact ⟨0, 0, 0, _, Nat.zero_le _, Nat.le_refl _, rfl, rfl, HB5c, HOc, rfl⟩
      case round =>
        obtain ⟨k, m, x, Y, hk, hm, rfl, rfl, HBr, HOr, HMr⟩ := hrel
        by_cases hlt : k < nb
        · have hkz : k < xs.length := by rw [HN.out]; exact hlt
          have hj := own_asks (PF5.out.below HBr.out)
          obtain ⟨b, o, rfl⟩ := hj.row.some_ (by omega)
          obtain ⟨c0, c1⟩ := ask_cells hj.row k hkz
          obtain ⟨xp, HRI⟩ : ∃ x, Hid ((ath xs k).p = x) := ⟨_, rfl⟩
          obtain ⟨xb, HRT⟩ : ∃ x, Hid ((ath xs k).b = x) := ⟨_, rfl⟩
          have HONE : Hid (ath xs k = ⟨xp, xb⟩) := by
            show _ = _
            rw [← HRI.out, ← HRT.out]
          have HFS := Lib.hid (filter_step (fun x => !isP pr x) xs k hkz)
          have HIS : Hid (isP pr (ath xs k) = (xp == pr)) := by show _ = _; rw [← HRI.out]; rfl
          rw [HRI.out] at c0
          rw [HRT.out] at c1
          have hk0 : (0 : Int) ≤ (k : Int) := by omega
          have hki : (k : Int) < (nb : Int) := by omega
          have hbz : w5.heap.size ≤ wr.heap.size := HBr.out.size
          clear hkz hj
          by_cases he : xp = pr
          · have HS2 : Hid ((xs.take (k + 1)).filter (fun x => !isP pr x) = (xs.take k).filter (fun x => !isP pr x)) := by
              show _ = _
              rw [HFS.out, HIS.out, he, beq_self_eq_true]
              exact List.append_nil _
            rw [he] at c0
            clear he
            go_wp2
            go_roundw
            case rel => exact ⟨k + 1, m, x, Y, by omega, by omega, rfl, by go_num, HBr, by show OwnRow _ _ _ _ _ _; rw [HS2.out]; exact HOr.out, by show _ = _; rw [HS2.out]; exact HMr.out⟩
            case measure => simp [intOf]; omega
          · have HS2 : Hid ((xs.take (k + 1)).filter (fun x => !isP pr x) = (xs.take k).filter (fun x => !isP pr x) ++ [(⟨xp, xb⟩ : AD)]) := by
              show _ = _
              rw [HFS.out, HIS.out, beq_eq_false_iff_ne.2 he, HONE.out]; rfl
            go_wp2_with (at_builtin; refine wpList_app_row (K := AK) Try.underlying23 HI0.out.1 HI0.out.2.1 HI0.out.2.2.1 HI0.out.2.2.2.1 HI0.out.2.2.2.2 (by decide) rfl (.tmp 66) (.tmp 71) rfl _ w5.heap.size Y x ((xs.take k).filter (fun x => !isP pr x)) (by rw [HMr.out]; rfl) _ _ [(⟨xp, xb⟩ : AD)] rfl (HOr.out.alloc _) (one_newR AK _ ⟨xp, xb⟩ _) (by rw [HMr.out]; show m + 1 ≤ 1000000; omega) (by simp; omega) (fun e => by cases e) ?_; intro v w7 hA; obtain ⟨Z, z, rfl, ho7⟩ := hA.own; have HB7 : Hid (Below w5.heap.size w5 w7) := ((HBr.out.alloc hbz _).trans hA.below); have HO7 : Hid (OwnRow AK w7 w5.heap.size Z z ((xs.take (k + 1)).filter (fun x => !isP pr x))) := (by rw [HS2.out]; exact ho7); have HL7 : Hid (((xs.take k).filter (fun x => !isP pr x) ++ [(⟨xp, xb⟩ : AD)]).length = m + 1) := (by show _ = _; rw [List.length_append, HMr.out]; rfl); have HL8 : Hid (((xs.take (k + 1)).filter (fun x => !isP pr x)).length = m + 1) := (by rw [HS2.out]; exact HL7.out); rw [HL7.out]; clear hA ho7)
            go_roundw
            case rel => exact ⟨k + 1, m + 1, z, Z, by omega, by omega, rfl, by go_num, HB7, HO7, HL8⟩
            case measure => simp [intOf]; omega
        · have hkn : k = nb := by omega
          subst hkn
          have hfe : (xs.take k).filter (fun x => !isP pr x) = os := by rw [← HN.out, List.take_length]; exact HRES.out.symm
          rw [hfe] at HOr HMr
          have hmm : mb = m := by rw [← HM.out]; exact HMr.out
          subst hmm
          have PFr := Lib.hid (PF5.out.below HBr.out)
          have POr := Lib.hid (PO5.out.below HBr.out)
          have HBR : Hid (Below w.heap.size w wr) := HB5.out.trans (HBr.out.mono HB5.out.size)
          clear hfe
          go_wp2_with fail
          refine (sameA_any A3 c3 Y x os wr (own_asks POr.out) (own_asks HOr.out) HM.out).mono ?_
          rintro e w8 ⟨rfl, hb8⟩
          have PO8 := Lib.hid (POr.out.below hb8)
          have HB8 : Hid (Below w.heap.size w w8) := HBR.out.trans (hb8.mono HBR.out.size)
          have CR := Lib.hid (winRoom_any A3 c3 os pr w8 (own_asks PO8.out))
          rw [HM.out, HT.out] at CR
          clear hb8
          go_wp2_with fail
          refine CR.out.mono ?_
          rintro e w9 ⟨rfl, hb9⟩
          have HB9 : Hid (Below w.heap.size w w9) := HB8.out.trans (hb9.mono HB8.out.size)
          clear hb9
          go_wp2
          go_ret
          exact ⟨rfl, HB9.out⟩
  · have h9 : 1048576 < len := by omega
    clear hlen
    go_enter Try.func8, Try.ntmps8
    go_wp2
    go_ret
    exact ⟨rfl, Below.refl _ _⟩

end Go.Proofs.Ytoleimejikinmaa
