/- The walk of FnAskRefused: it returns true and changes nothing that was there. Condition: the code's bytes lie in memory. -/
import Derived.Test.YtoleimejikinmaaDrawWin2
import Derived.Test.YtoleimejikinmaaSWinGot
namespace Go.Proofs.Ytoleimejikinmaa
open Go.RowKit
set_option linter.unusedVariables false

set_option maxHeartbeats 8000000 in
set_option maxRecDepth 100000 in
theorem walkAskRefused (A : Option Addr) (len cap : Nat) (w : World) (hI : In w A len cap) :
    Calls Try.prog 4 #[.slice A len cap] w fun e w' => e = .returned (.bool true) ∧ Below w.heap.size w w' := by
  have hm := hI.len_le
  unfold maxLen at hm
  have HI := Lib.hid hI
  clear hI
  by_cases hlen : len ≤ 1048576
  · go_enter Try.func4, Try.ntmps4
    go_wp2_with fail
    refine (drawWAsk_any A len cap _ HI.out).mono ?_
    rintro e w1 ⟨X, c, xs, a, en, rfl, ho, hl, hb1⟩
    obtain ⟨ap, ab⟩ := a
    have PF1 := Lib.hid ho
    have HB1 := Lib.hid hb1
    clear ho hb1
    obtain ⟨nb, HN⟩ : ∃ v, Hid (xs.length = v) := ⟨_, rfl⟩
    obtain ⟨os, HO⟩ : ∃ v, Hid (askR xs ⟨ap, ab⟩ en = v) := ⟨_, rfl⟩
    obtain ⟨ov, HV⟩ : ∃ v, Hid (askO xs ⟨ap, ab⟩ en = v) := ⟨_, rfl⟩
    obtain ⟨mb, HM⟩ : ∃ v, Hid (os.length = v) := ⟨_, rfl⟩
    rw [HN.out] at hl ⊢
    obtain ⟨w2, HW2⟩ : ∃ Q0, Hid (w1.alloc (.cells #[.int .i64 ap, .int .i64 ab] 25) = Q0) := ⟨_, rfl⟩
    have hb2 : Below w1.heap.size w1 w2 := by rw [← HW2.out]; exact (Below.refl _ _).alloc (Nat.le_refl _) _
    have PF2 := Lib.hid (PF1.out.below hb2)
    have HB2 : Hid (Below w.heap.size w w2) := HB1.out.trans (hb2.mono HB1.out.size)
    clear hb2
    have LF2 : Hid (Blk w2 w1.heap.size 25 #[.int .i64 ap, .int .i64 ab]) := by rw [← HW2.out]; exact Blk.new w1 _ _
    go_wp2_with fail
    rw [HW2.out]
    have CI := Lib.hid (winAsk_any X c xs ⟨ap, ab⟩ en w2 (own_asks PF2.out))
    rw [HN.out, HO.out, HV.out] at CI
    refine CI.out.mono ?_
    rintro e w3 ⟨A3, c3, rfl, ho3, hb3⟩
    rw [HM.out]
    have PO3 := Lib.hid ho3
    clear ho3 CI
    have PF3 := Lib.hid (PF2.out.below hb3)
    have HB3 : Hid (Below w.heap.size w w3) := HB2.out.trans (hb3.mono HB2.out.size)
    have LF3 := Lib.hid (LF2.out.below hb3 LF2.out.lt)
    clear hb3
    obtain ⟨f0, f1⟩ := ask2 LF3.out
    go_wp2_with fail
    have CI := Lib.hid (swinAsk_any X c xs ⟨ap, ab⟩ en w3 (own_asks PF3.out))
    rw [HN.out, HO.out, HV.out] at CI
    refine CI.out.mono ?_
    rintro e w4 ⟨A4, c4, rfl, ho4, hb4⟩
    rw [HM.out]
    have PW4 := Lib.hid ho4
    clear ho4 CI
    have PF4 := Lib.hid (PF3.out.below hb4)
    have HB4 : Hid (Below w.heap.size w w4) := HB3.out.trans (hb4.mono HB3.out.size)
    have LF4 := Lib.hid (LF3.out.below hb4 LF3.out.lt)
    have PO4 := Lib.hid (PO3.out.below hb4)
    clear hb4
    clear f0 f1
    obtain ⟨f0, f1⟩ := ask2 LF4.out
    have hne : (ov != ov) = false := by simp
    have heq : (ov == ov) = true := by simp
    go_wp2_with fail
    refine (sameA_any A3 c3 A4 c4 os w4 (own_asks PO4.out) (own_asks PW4.out) HM.out).mono ?_
    rintro e w5 ⟨rfl, hb5⟩
    have PF5 := Lib.hid (PF4.out.below hb5)
    have HB5 : Hid (Below w.heap.size w w5) := HB4.out.trans (hb5.mono HB4.out.size)
    have LF5 := Lib.hid (LF4.out.below hb5 LF4.out.lt)
    have PO5 := Lib.hid (PO4.out.below hb5)
    have PW5 := Lib.hid (PW4.out.below hb5)
    clear hb5
    clear f0 f1
    obtain ⟨f0, f1⟩ := ask2 LF5.out
    go_wp2_with fail
    have CV := Lib.hid (swinValid_any X c xs w5 (own_asks PF5.out))
    rw [HN.out] at CV
    refine CV.out.mono ?_
    rintro e w6 ⟨rfl, hb6⟩
    clear CV
    have PF6 := Lib.hid (PF5.out.below hb6)
    have HB6 : Hid (Below w.heap.size w w6) := HB5.out.trans (hb6.mono HB5.out.size)
    have LF6 := Lib.hid (LF5.out.below hb6 LF5.out.lt)
    have PO6 := Lib.hid (PO5.out.below hb6)
    have PW6 := Lib.hid (PW5.out.below hb6)
    clear hb6
    clear f0 f1
    obtain ⟨f0, f1⟩ := ask2 LF6.out
    cases hv : winB xs with
    | false =>
      clear hv
      go_wp2_with fail
      refine (sameA_any A3 c3 A4 c4 os w6 (own_asks PO6.out) (own_asks PW6.out) HM.out).mono ?_
      rintro e w7 ⟨rfl, hb7⟩
      have PF7 := Lib.hid (PF6.out.below hb7)
      have HB7 : Hid (Below w.heap.size w w7) := HB6.out.trans (hb7.mono HB6.out.size)
      have LF7 := Lib.hid (LF6.out.below hb7 LF6.out.lt)
      have PO7 := Lib.hid (PO6.out.below hb7)
      have PW7 := Lib.hid (PW6.out.below hb7)
      clear hb7
      go_wp2
      go_ret
      exact ⟨rfl, HB7.out⟩
    | true =>
      by_cases g1 : 0 ≤ ap
      · have g1i : ¬ ap < 0 := by omega
        by_cases g2 : ap < 6
        · have g2i : ¬ 6 ≤ ap := by omega
          by_cases g3 : 0 ≤ ab
          · have g3i : ¬ ab < 0 := by omega
            by_cases g4 : ab < 16
            · have g4i : ¬ 16 ≤ ab := by omega
              have hok : aOk ⟨ap, ab⟩ = true := (aOk_iff _).2 ⟨(pOk_iff _).2 ⟨g1, g2⟩, g3, g4⟩
              have HREF : Hid (ov = !(decide (0 < cH xs ⟨ap, ab⟩) || (decide (roomN xs ap = 0) || decide (mostN en ≤ cB xs ab)))) := by
                show _ = _
                rw [← HV.out]; exact ask_refused hv hok
              have HNO : Hid (ov = false → os = xs) := fun h => by
                rw [← HO.out]
                refine askR_can hv hok ?_
                have h2 := HV.out
                rw [h] at h2
                unfold askO at h2
                rw [hv, hok] at h2
                exact h2
              obtain ⟨rm, HRM⟩ : ∃ v, Hid (roomN xs ap = v) := ⟨_, rfl⟩
              obtain ⟨nf, HNF⟩ : ∃ v, Hid (cB xs ab = v) := ⟨_, rfl⟩
              have CH := Lib.hid (lhas_any X c xs ⟨ap, ab⟩ w6 (own_asks PF6.out))
              rw [HN.out] at CH
              rw [HRM.out, HNF.out] at HREF
              have CR : Hid (∀ U, OwnRow AK U w.heap.size X c xs → Calls Try.prog 19 #[.slice X nb c, .int .i64 ap] U fun e w' => e = .returned (.int .i64 rm) ∧ Below U.heap.size U w') := fun U hU => by
                have h := winRoom_any X c xs ap U (own_asks hU)
                rw [HN.out, HRM.out] at h
                exact h
              have CF : Hid (∀ U, OwnRow AK U w.heap.size X c xs → Calls Try.prog 20 #[.slice X nb c, .int .i64 ab] U fun e w' => e = .returned (.int .i64 (nf : Int)) ∧ Below U.heap.size U w') := fun U hU => by
                have h := lfor_any X c xs ab U (own_asks hU)
                rw [HN.out, show xs.countP (isB ab) = nf from HNF.out] at h
                exact h
              have H4 : Hid (aOk ⟨ap, ab⟩ = true) := hok
              clear hok hv g1 g2 g3 g4
              cases en with
              | false =>
                cases hh : decide (0 < cH xs ⟨ap, ab⟩) with
                | true =>
                  rw [hh] at CH HREF
                  clear hh
                  go_wp2_with fail
                  refine CH.out.mono ?_
                  rintro e w7 ⟨rfl, hb7⟩
                  have PF7 := Lib.hid (PF6.out.below hb7)
                  have HB7 : Hid (Below w.heap.size w w7) := HB6.out.trans (hb7.mono HB6.out.size)
                  have LF7 := Lib.hid (LF6.out.below hb7 LF6.out.lt)
                  have PO7 := Lib.hid (PO6.out.below hb7)
                  have PW7 := Lib.hid (PW6.out.below hb7)
                  clear hb7
                  have hov : ov = false := by rw [HREF.out, Bool.true_or]; rfl
                  subst hov
                  have HE : Hid (os = xs) := HNO.out rfl
                  have HM2 := HM.out
                  have PO7x : Hid (OwnRow AK w7 w2.heap.size A3 c3 xs) := by rw [← HE.out]; exact PO7.out
                  have hmn : mb = nb := by rw [← HM2, HE.out, HN.out]
                  subst hmn
                  go_wp2_with fail
                  refine (sameA_any A3 c3 X c xs w7 (own_asks PO7x.out) (own_asks PF7.out) HN.out).mono ?_
                  rintro e w8 ⟨rfl, hb8⟩
                  have PF8 := Lib.hid (PF7.out.below hb8)
                  have HB8 : Hid (Below w.heap.size w w8) := HB7.out.trans (hb8.mono HB7.out.size)
                  have LF8 := Lib.hid (LF7.out.below hb8 LF7.out.lt)
                  have PO8 := Lib.hid (PO7.out.below hb8)
                  have PW8 := Lib.hid (PW7.out.below hb8)
                  clear hb8
                  go_wp2
                  go_ret
                  exact ⟨rfl, HB8.out⟩
                | false =>
                  rw [hh] at CH HREF
                  clear hh
                  go_wp2_with fail
                  refine CH.out.mono ?_
                  rintro e w7 ⟨rfl, hb7⟩
                  have PF7 := Lib.hid (PF6.out.below hb7)
                  have HB7 : Hid (Below w.heap.size w w7) := HB6.out.trans (hb7.mono HB6.out.size)
                  have LF7 := Lib.hid (LF6.out.below hb7 LF6.out.lt)
                  have PO7 := Lib.hid (PO6.out.below hb7)
                  have PW7 := Lib.hid (PW6.out.below hb7)
                  clear hb7
                  clear f0 f1
                  obtain ⟨f0, f1⟩ := ask2 LF7.out
                  by_cases hr : rm = 0
                  · subst hr
                    go_wp2_with fail
                    refine (CR.out _ PF7.out).mono ?_
                    rintro e w8 ⟨rfl, hb8⟩
                    have PF8 := Lib.hid (PF7.out.below hb8)
                    have HB8 : Hid (Below w.heap.size w w8) := HB7.out.trans (hb8.mono HB7.out.size)
                    have LF8 := Lib.hid (LF7.out.below hb8 LF7.out.lt)
                    have PO8 := Lib.hid (PO7.out.below hb8)
                    have PW8 := Lib.hid (PW7.out.below hb8)
                    clear hb8
                    have hov : ov = false := by rw [HREF.out, Bool.false_or]; simp
                    subst hov
                    have HE : Hid (os = xs) := HNO.out rfl
                    have HM2 := HM.out
                    have PO8x : Hid (OwnRow AK w8 w2.heap.size A3 c3 xs) := by rw [← HE.out]; exact PO8.out
                    have hmn : mb = nb := by rw [← HM2, HE.out, HN.out]
                    subst hmn
                    go_wp2_with fail
                    refine (sameA_any A3 c3 X c xs w8 (own_asks PO8x.out) (own_asks PF8.out) HN.out).mono ?_
                    rintro e w9 ⟨rfl, hb9⟩
                    have PF9 := Lib.hid (PF8.out.below hb9)
                    have HB9 : Hid (Below w.heap.size w w9) := HB8.out.trans (hb9.mono HB8.out.size)
                    have LF9 := Lib.hid (LF8.out.below hb9 LF8.out.lt)
                    have PO9 := Lib.hid (PO8.out.below hb9)
                    have PW9 := Lib.hid (PW8.out.below hb9)
                    clear hb9
                    go_wp2
                    go_ret
                    exact ⟨rfl, HB9.out⟩
                  · have hre : (rm == 0) = false := beq_eq_false_iff_ne.2 hr
                    go_wp2_with fail
                    refine (CR.out _ PF7.out).mono ?_
                    rintro e w8 ⟨rfl, hb8⟩
                    have PF8 := Lib.hid (PF7.out.below hb8)
                    have HB8 : Hid (Below w.heap.size w w8) := HB7.out.trans (hb8.mono HB7.out.size)
                    have LF8 := Lib.hid (LF7.out.below hb8 LF7.out.lt)
                    have PO8 := Lib.hid (PO7.out.below hb8)
                    have PW8 := Lib.hid (PW7.out.below hb8)
                    clear hb8
                    clear f0 f1
                    obtain ⟨f0, f1⟩ := ask2 LF8.out
                    by_cases hf : 1 ≤ nf
                    · have hfi : (1 : Int) ≤ (nf : Int) := by omega
                      go_wp2_with fail
                      refine (CF.out _ PF8.out).mono ?_
                      rintro e w9 ⟨rfl, hb9⟩
                      have PF9 := Lib.hid (PF8.out.below hb9)
                      have HB9 : Hid (Below w.heap.size w w9) := HB8.out.trans (hb9.mono HB8.out.size)
                      have LF9 := Lib.hid (LF8.out.below hb9 LF8.out.lt)
                      have PO9 := Lib.hid (PO8.out.below hb9)
                      have PW9 := Lib.hid (PW8.out.below hb9)
                      clear hb9
                      have hov : ov = false := by rw [HREF.out, decide_eq_false hr, show decide (mostN false ≤ nf) = true from decide_eq_true hf]; rfl
                      subst hov
                      have HE : Hid (os = xs) := HNO.out rfl
                      have HM2 := HM.out
                      have PO9x : Hid (OwnRow AK w9 w2.heap.size A3 c3 xs) := by rw [← HE.out]; exact PO9.out
                      have hmn : mb = nb := by rw [← HM2, HE.out, HN.out]
                      subst hmn
                      go_wp2_with fail
                      refine (sameA_any A3 c3 X c xs w9 (own_asks PO9x.out) (own_asks PF9.out) HN.out).mono ?_
                      rintro e w10 ⟨rfl, hb10⟩
                      have PF10 := Lib.hid (PF9.out.below hb10)
                      have HB10 : Hid (Below w.heap.size w w10) := HB9.out.trans (hb10.mono HB9.out.size)
                      have LF10 := Lib.hid (LF9.out.below hb10 LF9.out.lt)
                      have PO10 := Lib.hid (PO9.out.below hb10)
                      have PW10 := Lib.hid (PW9.out.below hb10)
                      clear hb10
                      go_wp2
                      go_ret
                      exact ⟨rfl, HB10.out⟩
                    · have hfi : decide ((1 : Int) ≤ (nf : Int)) = false := by simp; omega
                      go_wp2_with fail
                      refine (CF.out _ PF8.out).mono ?_
                      rintro e w9 ⟨rfl, hb9⟩
                      have PF9 := Lib.hid (PF8.out.below hb9)
                      have HB9 : Hid (Below w.heap.size w w9) := HB8.out.trans (hb9.mono HB8.out.size)
                      have LF9 := Lib.hid (LF8.out.below hb9 LF8.out.lt)
                      have PO9 := Lib.hid (PO8.out.below hb9)
                      have PW9 := Lib.hid (PW8.out.below hb9)
                      clear hb9
                      have hov : ov = true := by rw [HREF.out, decide_eq_false hr, show decide (mostN false ≤ nf) = false from decide_eq_false hf]; rfl
                      subst hov
                      go_wp2
                      go_ret
                      exact ⟨rfl, HB9.out⟩
              | true =>
                cases hh : decide (0 < cH xs ⟨ap, ab⟩) with
                | true =>
                  rw [hh] at CH HREF
                  clear hh
                  go_wp2_with fail
                  refine CH.out.mono ?_
                  rintro e w7 ⟨rfl, hb7⟩
                  have PF7 := Lib.hid (PF6.out.below hb7)
                  have HB7 : Hid (Below w.heap.size w w7) := HB6.out.trans (hb7.mono HB6.out.size)
                  have LF7 := Lib.hid (LF6.out.below hb7 LF6.out.lt)
                  have PO7 := Lib.hid (PO6.out.below hb7)
                  have PW7 := Lib.hid (PW6.out.below hb7)
                  clear hb7
                  have hov : ov = false := by rw [HREF.out, Bool.true_or]; rfl
                  subst hov
                  have HE : Hid (os = xs) := HNO.out rfl
                  have HM2 := HM.out
                  have PO7x : Hid (OwnRow AK w7 w2.heap.size A3 c3 xs) := by rw [← HE.out]; exact PO7.out
                  have hmn : mb = nb := by rw [← HM2, HE.out, HN.out]
                  subst hmn
                  go_wp2_with fail
                  refine (sameA_any A3 c3 X c xs w7 (own_asks PO7x.out) (own_asks PF7.out) HN.out).mono ?_
                  rintro e w8 ⟨rfl, hb8⟩
                  have PF8 := Lib.hid (PF7.out.below hb8)
                  have HB8 : Hid (Below w.heap.size w w8) := HB7.out.trans (hb8.mono HB7.out.size)
                  have LF8 := Lib.hid (LF7.out.below hb8 LF7.out.lt)
                  have PO8 := Lib.hid (PO7.out.below hb8)
                  have PW8 := Lib.hid (PW7.out.below hb8)
                  clear hb8
                  go_wp2
                  go_ret
                  exact ⟨rfl, HB8.out⟩
                | false =>
                  rw [hh] at CH HREF
                  clear hh
                  go_wp2_with fail
                  refine CH.out.mono ?_
                  rintro e w7 ⟨rfl, hb7⟩
                  have PF7 := Lib.hid (PF6.out.below hb7)
                  have HB7 : Hid (Below w.heap.size w w7) := HB6.out.trans (hb7.mono HB6.out.size)
                  have LF7 := Lib.hid (LF6.out.below hb7 LF6.out.lt)
                  have PO7 := Lib.hid (PO6.out.below hb7)
                  have PW7 := Lib.hid (PW6.out.below hb7)
                  clear hb7
                  clear f0 f1
                  obtain ⟨f0, f1⟩ := ask2 LF7.out
                  by_cases hr : rm = 0
                  · subst hr
                    go_wp2_with fail
                    refine (CR.out _ PF7.out).mono ?_
                    rintro e w8 ⟨rfl, hb8⟩
                    have PF8 := Lib.hid (PF7.out.below hb8)
                    have HB8 : Hid (Below w.heap.size w w8) := HB7.out.trans (hb8.mono HB7.out.size)
                    have LF8 := Lib.hid (LF7.out.below hb8 LF7.out.lt)
                    have PO8 := Lib.hid (PO7.out.below hb8)
                    have PW8 := Lib.hid (PW7.out.below hb8)
                    clear hb8
                    have hov : ov = false := by rw [HREF.out, Bool.false_or]; simp
                    subst hov
                    have HE : Hid (os = xs) := HNO.out rfl
                    have HM2 := HM.out
                    have PO8x : Hid (OwnRow AK w8 w2.heap.size A3 c3 xs) := by rw [← HE.out]; exact PO8.out
                    have hmn : mb = nb := by rw [← HM2, HE.out, HN.out]
                    subst hmn
                    go_wp2_with fail
                    refine (sameA_any A3 c3 X c xs w8 (own_asks PO8x.out) (own_asks PF8.out) HN.out).mono ?_
                    rintro e w9 ⟨rfl, hb9⟩
                    have PF9 := Lib.hid (PF8.out.below hb9)
                    have HB9 : Hid (Below w.heap.size w w9) := HB8.out.trans (hb9.mono HB8.out.size)
                    have LF9 := Lib.hid (LF8.out.below hb9 LF8.out.lt)
                    have PO9 := Lib.hid (PO8.out.below hb9)
                    have PW9 := Lib.hid (PW8.out.below hb9)
                    clear hb9
                    go_wp2
                    go_ret
                    exact ⟨rfl, HB9.out⟩
                  · have hre : (rm == 0) = false := beq_eq_false_iff_ne.2 hr
                    go_wp2_with fail
                    refine (CR.out _ PF7.out).mono ?_
                    rintro e w8 ⟨rfl, hb8⟩
                    have PF8 := Lib.hid (PF7.out.below hb8)
                    have HB8 : Hid (Below w.heap.size w w8) := HB7.out.trans (hb8.mono HB7.out.size)
                    have LF8 := Lib.hid (LF7.out.below hb8 LF7.out.lt)
                    have PO8 := Lib.hid (PO7.out.below hb8)
                    have PW8 := Lib.hid (PW7.out.below hb8)
                    clear hb8
                    clear f0 f1
                    obtain ⟨f0, f1⟩ := ask2 LF8.out
                    by_cases hf : 2 ≤ nf
                    · have hfi : (2 : Int) ≤ (nf : Int) := by omega
                      go_wp2_with fail
                      refine (CF.out _ PF8.out).mono ?_
                      rintro e w9 ⟨rfl, hb9⟩
                      have PF9 := Lib.hid (PF8.out.below hb9)
                      have HB9 : Hid (Below w.heap.size w w9) := HB8.out.trans (hb9.mono HB8.out.size)
                      have LF9 := Lib.hid (LF8.out.below hb9 LF8.out.lt)
                      have PO9 := Lib.hid (PO8.out.below hb9)
                      have PW9 := Lib.hid (PW8.out.below hb9)
                      clear hb9
                      have hov : ov = false := by rw [HREF.out, decide_eq_false hr, show decide (mostN true ≤ nf) = true from decide_eq_true hf]; rfl
                      subst hov
                      have HE : Hid (os = xs) := HNO.out rfl
                      have HM2 := HM.out
                      have PO9x : Hid (OwnRow AK w9 w2.heap.size A3 c3 xs) := by rw [← HE.out]; exact PO9.out
                      have hmn : mb = nb := by rw [← HM2, HE.out, HN.out]
                      subst hmn
                      go_wp2_with fail
                      refine (sameA_any A3 c3 X c xs w9 (own_asks PO9x.out) (own_asks PF9.out) HN.out).mono ?_
                      rintro e w10 ⟨rfl, hb10⟩
                      have PF10 := Lib.hid (PF9.out.below hb10)
                      have HB10 : Hid (Below w.heap.size w w10) := HB9.out.trans (hb10.mono HB9.out.size)
                      have LF10 := Lib.hid (LF9.out.below hb10 LF9.out.lt)
                      have PO10 := Lib.hid (PO9.out.below hb10)
                      have PW10 := Lib.hid (PW9.out.below hb10)
                      clear hb10
                      go_wp2
                      go_ret
                      exact ⟨rfl, HB10.out⟩
                    · have hfi : decide ((2 : Int) ≤ (nf : Int)) = false := by simp; omega
                      go_wp2_with fail
                      refine (CF.out _ PF8.out).mono ?_
                      rintro e w9 ⟨rfl, hb9⟩
                      have PF9 := Lib.hid (PF8.out.below hb9)
                      have HB9 : Hid (Below w.heap.size w w9) := HB8.out.trans (hb9.mono HB8.out.size)
                      have LF9 := Lib.hid (LF8.out.below hb9 LF8.out.lt)
                      have PO9 := Lib.hid (PO8.out.below hb9)
                      have PW9 := Lib.hid (PW8.out.below hb9)
                      clear hb9
                      have hov : ov = true := by rw [HREF.out, decide_eq_false hr, show decide (mostN true ≤ nf) = false from decide_eq_false hf]; rfl
                      subst hov
                      go_wp2
                      go_ret
                      exact ⟨rfl, HB9.out⟩
            · have g4i : 16 ≤ ab := by omega
              go_wp2_with fail
              refine (sameA_any A3 c3 A4 c4 os w6 (own_asks PO6.out) (own_asks PW6.out) HM.out).mono ?_
              rintro e w7 ⟨rfl, hb7⟩
              have PF7 := Lib.hid (PF6.out.below hb7)
              have HB7 : Hid (Below w.heap.size w w7) := HB6.out.trans (hb7.mono HB6.out.size)
              have LF7 := Lib.hid (LF6.out.below hb7 LF6.out.lt)
              have PO7 := Lib.hid (PO6.out.below hb7)
              have PW7 := Lib.hid (PW6.out.below hb7)
              clear hb7
              go_wp2
              go_ret
              exact ⟨rfl, HB7.out⟩
          · have g3i : ab < 0 := by omega
            go_wp2_with fail
            refine (sameA_any A3 c3 A4 c4 os w6 (own_asks PO6.out) (own_asks PW6.out) HM.out).mono ?_
            rintro e w7 ⟨rfl, hb7⟩
            have PF7 := Lib.hid (PF6.out.below hb7)
            have HB7 : Hid (Below w.heap.size w w7) := HB6.out.trans (hb7.mono HB6.out.size)
            have LF7 := Lib.hid (LF6.out.below hb7 LF6.out.lt)
            have PO7 := Lib.hid (PO6.out.below hb7)
            have PW7 := Lib.hid (PW6.out.below hb7)
            clear hb7
            go_wp2
            go_ret
            exact ⟨rfl, HB7.out⟩
        · have g2i : 6 ≤ ap := by omega
          go_wp2_with fail
          refine (sameA_any A3 c3 A4 c4 os w6 (own_asks PO6.out) (own_asks PW6.out) HM.out).mono ?_
          rintro e w7 ⟨rfl, hb7⟩
          have PF7 := Lib.hid (PF6.out.below hb7)
          have HB7 : Hid (Below w.heap.size w w7) := HB6.out.trans (hb7.mono HB6.out.size)
          have LF7 := Lib.hid (LF6.out.below hb7 LF6.out.lt)
          have PO7 := Lib.hid (PO6.out.below hb7)
          have PW7 := Lib.hid (PW6.out.below hb7)
          clear hb7
          go_wp2
          go_ret
          exact ⟨rfl, HB7.out⟩
      · have g1i : ap < 0 := by omega
        go_wp2_with fail
        refine (sameA_any A3 c3 A4 c4 os w6 (own_asks PO6.out) (own_asks PW6.out) HM.out).mono ?_
        rintro e w7 ⟨rfl, hb7⟩
        have PF7 := Lib.hid (PF6.out.below hb7)
        have HB7 : Hid (Below w.heap.size w w7) := HB6.out.trans (hb7.mono HB6.out.size)
        have LF7 := Lib.hid (LF6.out.below hb7 LF6.out.lt)
        have PO7 := Lib.hid (PO6.out.below hb7)
        have PW7 := Lib.hid (PW6.out.below hb7)
        clear hb7
        go_wp2
        go_ret
        exact ⟨rfl, HB7.out⟩
  · have h9 : 1048576 < len := by omega
    clear hlen
    go_enter Try.func4, Try.ntmps4
    go_wp2
    go_ret
    exact ⟨rfl, Below.refl _ _⟩

end Go.Proofs.Ytoleimejikinmaa
