/- The walk of FnGot: it returns true and changes nothing that was there. Condition: the code's bytes lie in memory. -/
import Derived.Test.YtccadanhadakkaaDrawWin2
import Derived.Test.YtccadanhadakkaaSWinGot
namespace Go.Proofs.Ytccadanhadakkaa
open Go.RowKit
set_option linter.unusedVariables false

set_option maxHeartbeats 8000000 in
set_option maxRecDepth 100000 in
theorem walkGot (A : Option Addr) (len cap : Nat) (w : World) (hI : In w A len cap) :
    Calls Try.prog 4 #[.slice A len cap] w fun e w' => e = .returned (.bool true) ∧ Below w.heap.size w w' := by
  have hm := hI.len_le
  unfold maxLen at hm
  have HI := Lib.hid hI
  clear hI
  by_cases hlen : len ≤ 1048576
  · go_enter Try.func4, Try.ntmps4
    go_wp2_with fail
    refine (drawWGot_any A len cap _ HI.out).mono ?_
    rintro e w1 ⟨X, c, xs, a, rfl, ho, hl, hb1⟩
    obtain ⟨ap, ab⟩ := a
    have PF1 := Lib.hid ho
    have HB1 := Lib.hid hb1
    clear ho hb1
    obtain ⟨nb, HN⟩ : ∃ v, Hid (xs.length = v) := ⟨_, rfl⟩
    obtain ⟨os, HO⟩ : ∃ v, Hid (gotR xs ⟨ap, ab⟩ = v) := ⟨_, rfl⟩
    obtain ⟨ov, HV⟩ : ∃ v, Hid (gotN xs ⟨ap, ab⟩ = v) := ⟨_, rfl⟩
    obtain ⟨mb, HM⟩ : ∃ v, Hid (os.length = v) := ⟨_, rfl⟩
    rw [HN.out] at hl ⊢
    obtain ⟨w2, HW2⟩ : ∃ Q0, Hid (w1.alloc (.cells #[.int .i64 ap, .int .i64 ab] 25) = Q0) := ⟨_, rfl⟩
    have hb2 : Below w1.heap.size w1 w2 := by rw [← HW2.out]; exact (Below.refl _ _).alloc (Nat.le_refl _) _
    have PF2 := Lib.hid (PF1.out.below hb2)
    have HB2 : Hid (Below w.heap.size w w2) := HB1.out.trans (hb2.mono HB1.out.size)
    clear hb2
    have LF2 : Hid (Blk w2 w1.heap.size 25 #[.int .i64 ap, .int .i64 ab]) := by rw [← HW2.out]; exact Blk.new w1 _ _
    go_wp2_with fail
    rw [HW2.out]
    have CI := Lib.hid (winGot_any X c xs ⟨ap, ab⟩ w2 (own_asks PF2.out))
    rw [HN.out, HO.out, HV.out] at CI
    refine CI.out.mono ?_
    rintro e w3 ⟨A3, c3, rfl, ho3, hb3⟩
    rw [HM.out]
    have PO3 := Lib.hid ho3
    clear ho3 CI
    have PF3 := Lib.hid (PF2.out.below hb3)
    have HB3 : Hid (Below w.heap.size w w3) := HB2.out.trans (hb3.mono HB2.out.size)
    have LF3 := Lib.hid (LF2.out.below hb3 LF2.out.lt)
    clear hb3
    obtain ⟨f0, f1⟩ := ask2 LF3.out
    go_wp2_with fail
    have CI := Lib.hid (swinGot_any X c xs ⟨ap, ab⟩ w3 (own_asks PF3.out))
    rw [HN.out, HO.out, HV.out] at CI
    refine CI.out.mono ?_
    rintro e w4 ⟨A4, c4, rfl, ho4, hb4⟩
    rw [HM.out]
    have PW4 := Lib.hid ho4
    clear ho4 CI
    have PF4 := Lib.hid (PF3.out.below hb4)
    have HB4 : Hid (Below w.heap.size w w4) := HB3.out.trans (hb4.mono HB3.out.size)
    have LF4 := Lib.hid (LF3.out.below hb4 LF3.out.lt)
    have PO4 := Lib.hid (PO3.out.below hb4)
    clear hb4
    clear f0 f1
    obtain ⟨f0, f1⟩ := ask2 LF4.out
    have hne : (ov != ov) = false := by simp
    have heq : (ov == ov) = true := by simp
    go_wp2_with fail
    refine (sameA_any A3 c3 A4 c4 os w4 (own_asks PO4.out) (own_asks PW4.out) HM.out).mono ?_
    rintro e w5 ⟨rfl, hb5⟩
    have PF5 := Lib.hid (PF4.out.below hb5)
    have HB5 : Hid (Below w.heap.size w w5) := HB4.out.trans (hb5.mono HB4.out.size)
    have LF5 := Lib.hid (LF4.out.below hb5 LF4.out.lt)
    have PO5 := Lib.hid (PO4.out.below hb5)
    have PW5 := Lib.hid (PW4.out.below hb5)
    clear hb5
    clear f0 f1
    obtain ⟨f0, f1⟩ := ask2 LF5.out
    have hgn := gotN_neg_iff xs ⟨ap, ab⟩
    rw [HV.out, HO.out] at hgn
    by_cases hv0 : ov < 0
    · go_wp2_with fail
      refine (sameA_any A3 c3 A4 c4 os w5 (own_asks PO5.out) (own_asks PW5.out) HM.out).mono ?_
      rintro e w6 ⟨rfl, hb6⟩
      have PF6 := Lib.hid (PF5.out.below hb6)
      have HB6 : Hid (Below w.heap.size w w6) := HB5.out.trans (hb6.mono HB5.out.size)
      have LF6 := Lib.hid (LF5.out.below hb6 LF5.out.lt)
      have PO6 := Lib.hid (PO5.out.below hb6)
      have PW6 := Lib.hid (PW5.out.below hb6)
      clear hb6
      go_wp2
      go_ret
      exact ⟨rfl, HB6.out⟩
    · obtain ⟨hwin, hok, hch, hvv, hos, hv1⟩ := hgn.resolve_left (by omega)
      have HOS := Lib.hid hos
      have HWN : Hid (winB os = true) := by show _ = _; rw [hos]; exact win_filter hwin _
      have hv0b : decide (ov < 0) = false := by simp; omega
      obtain ⟨i0, z0, hi0, hz0, hz1, hz2, hz3⟩ := ask_app_info
      have HI0 := Lib.hid (And.intro hi0 (And.intro hz0 (And.intro hz1 (And.intro hz2 hz3))))
      clear hi0 hz0 hz1 hz2 hz3 hgn hwin hok hch hvv hos hv1
      obtain ⟨W6, HW6⟩ : ∃ Q0, Hid (w5.alloc (.cells #[] 25) = Q0) := ⟨_, rfl⟩
      have HB6 : Hid (Below w5.heap.size w5 W6) := by rw [← HW6.out]; exact (Below.refl _ _).alloc (Nat.le_refl _) _
      have HO6 : Hid (OwnRow AK W6 w5.heap.size (some ⟨w5.heap.size, 0, none⟩) 0 ((xs.take 0).filter (fun x => !isB ab x))) := by rw [← HW6.out]; exact OwnRow.new AK w5
      clear f0 f1
      go_wp2_with fail
      rw [HW6.out]
      go_wp2
      go_loopw [9, 10] (fun s i wr => ∃ (k m x : Nat) (R : Option Addr), k ≤ nb ∧ m ≤ k ∧ s = .slice R m x ∧ i = .int .i64 (k : Int) ∧ Hid (Below w5.heap.size w5 wr) ∧ Hid (OwnRow AK wr w5.heap.size R x ((xs.take k).filter (fun x => !isB ab x))) ∧ Hid (((xs.take k).filter (fun x => !isB ab x)).length = m)) (fun _ i _ => nb - (intOf i).toNat)
      case atStart => exact ⟨0, 0, 0, _, Nat.zero_le _, Nat.le_refl _, rfl, rfl, HB6, HO6, rfl⟩
      case round =>
        obtain ⟨k, m, x, R, hk, hmk, rfl, rfl, HBr, HOr, HMr⟩ := hrel
        obtain ⟨k0, k1⟩ := ask2 (LF5.out.below HBr.out LF5.out.lt)
        have hbz : w5.heap.size ≤ wr.heap.size := HBr.out.size
        by_cases hlt : k < nb
        · have hkz : k < xs.length := by rw [HN.out]; exact hlt
          have hj := own_asks (PF5.out.below HBr.out)
          obtain ⟨b, o, rfl⟩ := hj.row.some_ (by omega)
          obtain ⟨c0, c1⟩ := ask_cells hj.row k hkz
          obtain ⟨xp, HRI⟩ : ∃ x, Hid ((ath xs k).p = x) := ⟨_, rfl⟩
          obtain ⟨xb, HRT⟩ : ∃ x, Hid ((ath xs k).b = x) := ⟨_, rfl⟩
          have HONE : Hid (ath xs k = ⟨xp, xb⟩) := by
            show _ = _
            rw [← HRI.out, ← HRT.out]
          have HIS : Hid (isB ab (ath xs k) = (xb == ab)) := by show _ = _; rw [← HRT.out]; rfl
          have HFS := Lib.hid (filter_step (fun x => !isB ab x) xs k hkz)
          rw [HRI.out] at c0
          rw [HRT.out] at c1
          have hk0 : (0 : Int) ≤ (k : Int) := by omega
          have hki : (k : Int) < (nb : Int) := by omega
          clear hkz hj
          by_cases he : xb = ab
          · have HS2 : Hid ((xs.take (k + 1)).filter (fun x => !isB ab x) = (xs.take k).filter (fun x => !isB ab x)) := by
              show _ = _
              rw [HFS.out, HIS.out, he, beq_self_eq_true]
              exact List.append_nil _
            rw [he] at c1
            clear he
            go_wp2_with fail
            go_quiet (fail)
            go_wp2
            go_roundw
            case rel => exact ⟨k + 1, m, x, R, by omega, by omega, rfl, by go_num, below_drewN HBr.out _, by show OwnRow _ _ _ _ _ _; rw [HS2.out]; exact HOr.out.drewN _, by show _ = _; rw [HS2.out]; exact HMr.out⟩
            case measure => simp [intOf]; omega
          · have HS2 : Hid ((xs.take (k + 1)).filter (fun x => !isB ab x) = (xs.take k).filter (fun x => !isB ab x) ++ [(⟨xp, xb⟩ : AD)]) := by
              show _ = _
              rw [HFS.out, HIS.out, beq_eq_false_iff_ne.2 he, HONE.out]; rfl
            go_wp2_with fail
            go_quiet (fail)
            go_wp2_with (at_builtin; refine wpList_app_row (K := AK) Try.underlying23 HI0.out.1 HI0.out.2.1 HI0.out.2.2.1 HI0.out.2.2.2.1 HI0.out.2.2.2.2 (by decide) rfl (.tmp 67) (.tmp 72) rfl _ w5.heap.size R x ((xs.take k).filter (fun x => !isB ab x)) (by rw [HMr.out]; rfl) _ _ [(⟨xp, xb⟩ : AD)] rfl ((HOr.out.drewN _).alloc _) (one_newR AK _ ⟨xp, xb⟩ _) (by rw [HMr.out]; show m + 1 ≤ 1000000; omega) (by simp; omega) (fun e => by cases e) ?_; intro v w7 hA; obtain ⟨Y, y, rfl, ho7⟩ := hA.own; have HB7 : Hid (Below w5.heap.size w5 w7) := (((below_drewN HBr.out _).alloc hbz _).trans hA.below); have HO7 : Hid (OwnRow AK w7 w5.heap.size Y y ((xs.take (k + 1)).filter (fun x => !isB ab x))) := (by rw [HS2.out]; exact ho7); have HL7 : Hid (((xs.take k).filter (fun x => !isB ab x) ++ [(⟨xp, xb⟩ : AD)]).length = m + 1) := (by show _ = _; rw [List.length_append, HMr.out]; rfl); have HL8 : Hid (((xs.take (k + 1)).filter (fun x => !isB ab x)).length = m + 1) := (by rw [HS2.out]; exact HL7.out); rw [HL7.out]; clear hA ho7)
            go_roundw
            case rel => exact ⟨k + 1, m + 1, y, Y, by omega, by omega, rfl, by go_num, HB7, HO7, HL8⟩
            case measure => simp [intOf]; omega
        · have hkn : k = nb := by omega
          subst hkn
          have HTK : Hid ((xs.take k).filter (fun x => !isB ab x) = os) := by
            show _ = _
            rw [← HN.out, List.take_length, HOS.out]
          rw [HTK.out] at HOr HMr
          have hmm : m = mb := by rw [← HMr.out]; exact HM.out
          subst hmm
          have PO7 := Lib.hid (PO5.out.below HBr.out)
          go_wp2_with fail
          refine (sameA_any A3 c3 R x os wr (own_asks PO7.out) (own_asks HOr.out) HM.out).mono ?_
          rintro e w7 ⟨rfl, hb7⟩
          have PO8 := Lib.hid (PO7.out.below hb7)
          have HB8 : Hid (Below w.heap.size w w7) := HB5.out.trans ((HBr.out.trans (hb7.mono hbz)).mono HB5.out.size)
          clear hb7
          have CV := Lib.hid (winValid_any A3 c3 os w7 (own_asks PO8.out))
          rw [HM.out, HWN.out] at CV
          go_wp2_with fail
          refine CV.out.mono ?_
          rintro e w8 ⟨rfl, hb8⟩
          have HB9 : Hid (Below w.heap.size w w8) := HB8.out.trans (hb8.mono HB8.out.size)
          clear hb8
          go_wp2
          go_ret
          exact ⟨rfl, HB9.out⟩
  · have h9 : 1048576 < len := by omega
    clear hlen
    go_enter Try.func4, Try.ntmps4
    go_wp2
    go_ret
    exact ⟨rfl, Below.refl _ _⟩

end Go.Proofs.Ytccadanhadakkaa
