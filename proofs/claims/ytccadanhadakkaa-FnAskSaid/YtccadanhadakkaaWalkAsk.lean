/- The walk of FnAsk: it returns true and changes nothing that was there. Condition: the code's bytes lie in memory. -/
import Derived.Test.YtccadanhadakkaaDrawWin2
import Derived.Test.YtccadanhadakkaaSWinGot
namespace Go.Proofs.Ytccadanhadakkaa
open Go.RowKit
set_option linter.unusedVariables false

set_option maxHeartbeats 3000000 in
set_option maxRecDepth 100000 in
theorem walkAsk (A : Option Addr) (len cap : Nat) (w : World) (hI : In w A len cap) :
    Calls Try.prog 3 #[.slice A len cap] w fun e w' => e = .returned (.bool true) ∧ Below w.heap.size w w' := by
  have hm := hI.len_le
  unfold maxLen at hm
  have HI := Lib.hid hI
  clear hI
  by_cases hlen : len ≤ 1048576
  · go_enter Try.func3, Try.ntmps3
    go_wp2_with fail
    refine (drawWAsk_any A len cap _ HI.out).mono ?_
    rintro e w1 ⟨X, c, xs, a, en, rfl, ho, hl, hb1⟩
    obtain ⟨ap, ab⟩ := a
    have PF1 := Lib.hid ho
    have HB1 := Lib.hid hb1
    clear ho hb1
    obtain ⟨nb, HN⟩ : ∃ v, Hid (xs.length = v) := ⟨_, rfl⟩
    obtain ⟨os, HO⟩ : ∃ v, Hid (askR xs ⟨ap, ab⟩ en = v) := ⟨_, rfl⟩
    obtain ⟨ov, HV⟩ : ∃ v, Hid (askO xs ⟨ap, ab⟩ en = v) := ⟨_, rfl⟩
    obtain ⟨mb, HM⟩ : ∃ v, Hid (os.length = v) := ⟨_, rfl⟩
    rw [HN.out] at hl ⊢
    obtain ⟨w2, HW2⟩ : ∃ Q0, Hid (w1.alloc (.cells #[.int .i64 ap, .int .i64 ab] 25) = Q0) := ⟨_, rfl⟩
    have hb2 : Below w1.heap.size w1 w2 := by rw [← HW2.out]; exact (Below.refl _ _).alloc (Nat.le_refl _) _
    have PF2 := Lib.hid (PF1.out.below hb2)
    have HB2 : Hid (Below w.heap.size w w2) := HB1.out.trans (hb2.mono HB1.out.size)
    clear hb2
    have LF2 : Hid (Blk w2 w1.heap.size 25 #[.int .i64 ap, .int .i64 ab]) := by rw [← HW2.out]; exact Blk.new w1 _ _
    go_wp2_with fail
    rw [HW2.out]
    have CI := Lib.hid (winAsk_any X c xs ⟨ap, ab⟩ en w2 (own_asks PF2.out))
    rw [HN.out, HO.out, HV.out] at CI
    refine CI.out.mono ?_
    rintro e w3 ⟨A3, c3, rfl, ho3, hb3⟩
    rw [HM.out]
    have PO3 := Lib.hid ho3
    clear ho3 CI
    have PF3 := Lib.hid (PF2.out.below hb3)
    have HB3 : Hid (Below w.heap.size w w3) := HB2.out.trans (hb3.mono HB2.out.size)
    have LF3 := Lib.hid (LF2.out.below hb3 LF2.out.lt)
    clear hb3
    obtain ⟨f0, f1⟩ := ask2 LF3.out
    go_wp2_with fail
    have CI := Lib.hid (swinAsk_any X c xs ⟨ap, ab⟩ en w3 (own_asks PF3.out))
    rw [HN.out, HO.out, HV.out] at CI
    refine CI.out.mono ?_
    rintro e w4 ⟨A4, c4, rfl, ho4, hb4⟩
    rw [HM.out]
    have PW4 := Lib.hid ho4
    clear ho4 CI
    have PF4 := Lib.hid (PF3.out.below hb4)
    have HB4 : Hid (Below w.heap.size w w4) := HB3.out.trans (hb4.mono HB3.out.size)
    have LF4 := Lib.hid (LF3.out.below hb4 LF3.out.lt)
    have PO4 := Lib.hid (PO3.out.below hb4)
    clear hb4
    clear f0 f1
    obtain ⟨f0, f1⟩ := ask2 LF4.out
    have hne : (ov != ov) = false := by simp
    have heq : (ov == ov) = true := by simp
    go_wp2_with fail
    refine (sameA_any A3 c3 A4 c4 os w4 (own_asks PO4.out) (own_asks PW4.out) HM.out).mono ?_
    rintro e w5 ⟨rfl, hb5⟩
    have PF5 := Lib.hid (PF4.out.below hb5)
    have HB5 : Hid (Below w.heap.size w w5) := HB4.out.trans (hb5.mono HB4.out.size)
    have LF5 := Lib.hid (LF4.out.below hb5 LF4.out.lt)
    have PO5 := Lib.hid (PO4.out.below hb5)
    have PW5 := Lib.hid (PW4.out.below hb5)
    clear hb5
    clear f0 f1
    obtain ⟨f0, f1⟩ := ask2 LF5.out
    cases ov with
    | false =>
      go_wp2_with fail
      refine (sameA_any A3 c3 A4 c4 os w5 (own_asks PO5.out) (own_asks PW5.out) HM.out).mono ?_
      rintro e w6 ⟨rfl, hb6⟩
      have PF6 := Lib.hid (PF5.out.below hb6)
      have HB6 : Hid (Below w.heap.size w w6) := HB5.out.trans (hb6.mono HB5.out.size)
      have LF6 := Lib.hid (LF5.out.below hb6 LF5.out.lt)
      have PO6 := Lib.hid (PO5.out.below hb6)
      have PW6 := Lib.hid (PW5.out.below hb6)
      clear hb6
      go_wp2
      go_ret
      exact ⟨rfl, HB6.out⟩
    | true =>
      have HR : Hid (os = xs ++ [⟨ap, ab⟩]) := by show _ = _; rw [← HO.out]; exact askR_yes HV.out
      have hov := HV.out
      have hwin := win_ask hov
      have hmb : mb = nb + 1 := by rw [← HM.out, HR.out, List.length_append, HN.out]; rfl
      subst hmb
      have hrow := (own_asks PO5.out).row
      obtain ⟨b3, o3, hA3⟩ := hrow.some_ (by rw [HM.out]; omega)
      subst hA3
      obtain ⟨g0, g1⟩ := ask_cells hrow nb (by rw [HM.out]; omega)
      have hat : ath os nb = ⟨ap, ab⟩ := by rw [HR.out, ← HN.out]; exact ath_snoc xs _
      rw [hat] at g0 g1
      have hbl : b3 < w5.heap.size := (hrow.lt (by rw [HM.out]; omega)).1
      have hfl : w1.heap.size < w5.heap.size := LF5.out.lt
      have CS : Hid (∀ W, Below w5.heap.size w5 W → Calls Try.prog 9 #[.slice (some ⟨b3, o3, none⟩) nb c3, .slice X nb c] W fun e w' => e = .returned (.bool true) ∧ Below W.heap.size W w') := fun W hW => by
        have h1 := (own_asks (PO5.out.below hW)).first nb
        have e : os.take nb = xs := by rw [HR.out, ← HN.out]; exact List.take_left
        rw [e] at h1
        exact sameA_any _ c3 X c xs W h1 (own_asks (PF5.out.below hW)) HN.out
      have CV : Hid (∀ W, Below w5.heap.size w5 W → Calls Try.prog 10 #[.slice (some ⟨b3, o3, none⟩) (nb + 1) c3] W fun e w' => e = .returned (.bool true) ∧ Below W.heap.size W w') := fun W hW => by
        have h := winValid_any (some ⟨b3, o3, none⟩) c3 os W (own_asks (PO5.out.below hW))
        rw [HM.out, HR.out, hwin] at h
        exact h
      have hcap : nb + 1 ≤ c3 := by have := (own_asks PO5.out).le; rw [HM.out] at this; exact this
      have hc3 : nb ≤ c3 := by omega
      have hc3z : (nb : Int) ≤ (c3 : Int) := by omega
      have HBD : Hid (Below w5.heap.size w5 w5.drew) := below_drew (Below.refl _ _)
      have hn1 : (nb : Int) + 1 - 1 = (nb : Int) := by omega
      have hw1 : IntKind.i64.wrap ((nb : Int) + 1) = (nb : Int) + 1 := IntWalk.i64_in _ (by omega)
      have hw0 : IntKind.i64.wrap (nb : Int) = (nb : Int) := IntWalk.i64_in _ (by omega)
      have hnl : (nb : Int) < (nb : Int) + 1 := by omega
      have hn0 : (0 : Int) ≤ (nb : Int) := by omega
      have hee : ((nb : Int) + 1 == (nb : Int) + 1) = true := by simp
      have hep : (ap == ap) = true := by simp
      have heb : (ab == ab) = true := by simp
      clear hov hwin hat hrow
      go_wp2_with fail
      go_region_held3 (fun w' => w'.cell? ⟨b3, o3 + nb * 2, none⟩ = some (.int .i64 ap) ∧ w'.cell? ⟨b3, o3 + nb * 2 + 1, none⟩ = some (.int .i64 ab) ∧ w'.cell? ⟨w1.heap.size, 0, none⟩ = some (.int .i64 ap) ∧ w'.cell? ⟨w1.heap.size, 1, none⟩ = some (.int .i64 ab)) (go_keep)
        (first
          | (go_at_call 9; refine (CS.out _ HBD.out).mono ?_; rintro e w7 ⟨rfl, kb7⟩; have k1 : w7.cell? ⟨b3, o3 + nb * 2, none⟩ = some (.int .i64 ap) := (kb7.cell (p := ⟨b3, o3 + nb * 2, none⟩) hbl).trans g0; have k2 : w7.cell? ⟨b3, o3 + nb * 2 + 1, none⟩ = some (.int .i64 ab) := (kb7.cell (p := ⟨b3, o3 + nb * 2 + 1, none⟩) hbl).trans g1; have k3 : w7.cell? ⟨w1.heap.size, 0, none⟩ = some (.int .i64 ap) := (kb7.cell (p := ⟨w1.heap.size, 0, none⟩) hfl).trans f0; have k4 : w7.cell? ⟨w1.heap.size, 1, none⟩ = some (.int .i64 ab) := (kb7.cell (p := ⟨w1.heap.size, 1, none⟩) hfl).trans f1)
          | (go_at_call 10; refine (CV.out _ (HBD.out.trans kb7)).mono ?_; rintro e w8 ⟨rfl, kb8⟩; have hs7 : w5.heap.size ≤ w7.heap.size := kb7.size; have k5 : w8.cell? ⟨b3, o3 + nb * 2, none⟩ = some (.int .i64 ap) := (kb8.cell (p := ⟨b3, o3 + nb * 2, none⟩) (Nat.lt_of_lt_of_le hbl hs7)).trans k1; have k6 : w8.cell? ⟨b3, o3 + nb * 2 + 1, none⟩ = some (.int .i64 ab) := (kb8.cell (p := ⟨b3, o3 + nb * 2 + 1, none⟩) (Nat.lt_of_lt_of_le hbl hs7)).trans k2; have k7 : w8.cell? ⟨w1.heap.size, 0, none⟩ = some (.int .i64 ap) := (kb8.cell (p := ⟨w1.heap.size, 0, none⟩) (Nat.lt_of_lt_of_le hfl hs7)).trans k3; have k8 : w8.cell? ⟨w1.heap.size, 1, none⟩ = some (.int .i64 ab) := (kb8.cell (p := ⟨w1.heap.size, 1, none⟩) (Nat.lt_of_lt_of_le hfl hs7)).trans k4))
      all_goals go_wp2
      all_goals go_ret
      exact ⟨rfl, HB5.out.trans ((HBD.out.trans (kb7.trans (kb8.mono kb7.size))).mono HB5.out.size)⟩
  · have h9 : 1048576 < len := by omega
    clear hlen
    go_enter Try.func3, Try.ntmps3
    go_wp2
    go_ret
    exact ⟨rfl, Below.refl _ _⟩

end Go.Proofs.Ytccadanhadakkaa
