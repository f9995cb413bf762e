/- The walk of FnAskEnd: it returns true and changes nothing that was there. Condition: the code's bytes lie in memory. -/
import Derived.Test.YtoleimejikinmaaDrawWin2
import Derived.Test.YtoleimejikinmaaSWinGot
namespace Go.Proofs.Ytoleimejikinmaa
open Go.RowKit
set_option linter.unusedVariables false

set_option maxHeartbeats 8000000 in
set_option maxRecDepth 100000 in
theorem walkAskEnd (A : Option Addr) (len cap : Nat) (w : World) (hI : In w A len cap) :
    Calls Try.prog 12 #[.slice A len cap] w fun e w' => e = .returned (.bool true) ∧ Below w.heap.size w w' := by
  have hm := hI.len_le
  unfold maxLen at hm
  have HI := Lib.hid hI
  clear hI
  by_cases hlen : len ≤ 1048576
  · go_enter Try.func12, Try.ntmps12
    go_wp2_with fail
    refine (drawWAsk_any A len cap _ HI.out).mono ?_
    rintro e w1 ⟨X, c, xs, a, en, rfl, ho, hl, hb1⟩
    obtain ⟨ap, ab⟩ := a
    have PF1 := Lib.hid ho
    have HB1 := Lib.hid hb1
    clear ho hb1
    obtain ⟨nb, HN⟩ : ∃ v, Hid (xs.length = v) := ⟨_, rfl⟩
    obtain ⟨os, HO⟩ : ∃ v, Hid (askR xs ⟨ap, ab⟩ en = v) := ⟨_, rfl⟩
    obtain ⟨ov, HV⟩ : ∃ v, Hid (askO xs ⟨ap, ab⟩ en = v) := ⟨_, rfl⟩
    obtain ⟨mb, HM⟩ : ∃ v, Hid (os.length = v) := ⟨_, rfl⟩
    rw [HN.out] at hl ⊢
    obtain ⟨w2, HW2⟩ : ∃ Q0, Hid (w1.alloc (.cells #[.int .i64 ap, .int .i64 ab] 25) = Q0) := ⟨_, rfl⟩
    have hb2 : Below w1.heap.size w1 w2 := by rw [← HW2.out]; exact (Below.refl _ _).alloc (Nat.le_refl _) _
    have PF2 := Lib.hid (PF1.out.below hb2)
    have HB2 : Hid (Below w.heap.size w w2) := HB1.out.trans (hb2.mono HB1.out.size)
    clear hb2
    have LF2 : Hid (Blk w2 w1.heap.size 25 #[.int .i64 ap, .int .i64 ab]) := by rw [← HW2.out]; exact Blk.new w1 _ _
    go_wp2_with fail
    rw [HW2.out]
    have CI := Lib.hid (winAsk_any X c xs ⟨ap, ab⟩ en w2 (own_asks PF2.out))
    rw [HN.out, HO.out, HV.out] at CI
    refine CI.out.mono ?_
    rintro e w3 ⟨A3, c3, rfl, ho3, hb3⟩
    rw [HM.out]
    have PO3 := Lib.hid ho3
    clear ho3 CI
    have PF3 := Lib.hid (PF2.out.below hb3)
    have HB3 : Hid (Below w.heap.size w w3) := HB2.out.trans (hb3.mono HB2.out.size)
    have LF3 := Lib.hid (LF2.out.below hb3 LF2.out.lt)
    clear hb3
    obtain ⟨f0, f1⟩ := ask2 LF3.out
    go_wp2_with fail
    have CI := Lib.hid (swinAsk_any X c xs ⟨ap, ab⟩ en w3 (own_asks PF3.out))
    rw [HN.out, HO.out, HV.out] at CI
    refine CI.out.mono ?_
    rintro e w4 ⟨A4, c4, rfl, ho4, hb4⟩
    rw [HM.out]
    have PW4 := Lib.hid ho4
    clear ho4 CI
    have PF4 := Lib.hid (PF3.out.below hb4)
    have HB4 : Hid (Below w.heap.size w w4) := HB3.out.trans (hb4.mono HB3.out.size)
    have LF4 := Lib.hid (LF3.out.below hb4 LF3.out.lt)
    have PO4 := Lib.hid (PO3.out.below hb4)
    clear hb4
    clear f0 f1
    obtain ⟨f0, f1⟩ := ask2 LF4.out
    have hne : (ov != ov) = false := by simp
    have heq : (ov == ov) = true := by simp
    go_wp2_with fail
    refine (sameA_any A3 c3 A4 c4 os w4 (own_asks PO4.out) (own_asks PW4.out) HM.out).mono ?_
    rintro e w5 ⟨rfl, hb5⟩
    have PF5 := Lib.hid (PF4.out.below hb5)
    have HB5 : Hid (Below w.heap.size w w5) := HB4.out.trans (hb5.mono HB4.out.size)
    have LF5 := Lib.hid (LF4.out.below hb5 LF4.out.lt)
    have PO5 := Lib.hid (PO4.out.below hb5)
    have PW5 := Lib.hid (PW4.out.below hb5)
    clear hb5
    clear f0 f1
    obtain ⟨f0, f1⟩ := ask2 LF5.out
    cases ov with
    | false =>
      go_wp2_with fail
      refine (sameA_any A3 c3 A4 c4 os w5 (own_asks PO5.out) (own_asks PW5.out) HM.out).mono ?_
      rintro e w6 ⟨rfl, hb6⟩
      have PF6 := Lib.hid (PF5.out.below hb6)
      have HB6 : Hid (Below w.heap.size w w6) := HB5.out.trans (hb6.mono HB5.out.size)
      have LF6 := Lib.hid (LF5.out.below hb6 LF5.out.lt)
      have PO6 := Lib.hid (PO5.out.below hb6)
      have PW6 := Lib.hid (PW5.out.below hb6)
      clear hb6
      go_wp2
      go_ret
      exact ⟨rfl, HB6.out⟩
    | true =>
      have HR : Hid (os = xs ++ [⟨ap, ab⟩]) := by show _ = _; rw [← HO.out]; exact askR_yes HV.out
      have hov := HV.out
      have HT : Hid (askO xs ⟨ap, ab⟩ true = true ∧ askR xs ⟨ap, ab⟩ true = os) := by show _ ∧ _; rw [HR.out]; exact ask_end hov
      clear hov
      go_wp2_with fail
      have CI := Lib.hid (winAsk_any X c xs ⟨ap, ab⟩ true w5 (own_asks PF5.out))
      rw [HN.out, HT.out.1, HT.out.2] at CI
      refine CI.out.mono ?_
      rintro e w6 ⟨A6, c6, rfl, ho6, hb6⟩
      rw [HM.out]
      have PX6 := Lib.hid ho6
      clear ho6
      clear CI
      have PF6 := Lib.hid (PF5.out.below hb6)
      have HB6 : Hid (Below w.heap.size w w6) := HB5.out.trans (hb6.mono HB5.out.size)
      have LF6 := Lib.hid (LF5.out.below hb6 LF5.out.lt)
      have PO6 := Lib.hid (PO5.out.below hb6)
      have PW6 := Lib.hid (PW5.out.below hb6)
      clear hb6
      go_wp2_with fail
      refine (sameA_any A6 c6 A3 c3 os w6 (own_asks PX6.out) (own_asks PO6.out) HM.out).mono ?_
      rintro e w7 ⟨rfl, hb7⟩
      have PF7 := Lib.hid (PF6.out.below hb7)
      have HB7 : Hid (Below w.heap.size w w7) := HB6.out.trans (hb7.mono HB6.out.size)
      have LF7 := Lib.hid (LF6.out.below hb7 LF6.out.lt)
      have PO7 := Lib.hid (PO6.out.below hb7)
      have PW7 := Lib.hid (PW6.out.below hb7)
      have PX7 := Lib.hid (PX6.out.below hb7)
      clear hb7
      go_wp2
      go_ret
      exact ⟨rfl, HB7.out⟩
  · have h9 : 1048576 < len := by omega
    clear hlen
    go_enter Try.func12, Try.ntmps12
    go_wp2
    go_ret
    exact ⟨rfl, Below.refl _ _⟩

end Go.Proofs.Ytoleimejikinmaa
