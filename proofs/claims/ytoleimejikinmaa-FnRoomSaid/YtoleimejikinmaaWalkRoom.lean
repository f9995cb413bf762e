/- The walk of FnRoom: it returns true and changes nothing that was there. Condition: the code's bytes lie in memory. -/
import Derived.Test.YtoleimejikinmaaDrawWin2
import Derived.Test.YtoleimejikinmaaSWinGot
namespace Go.Proofs.Ytoleimejikinmaa
open Go.RowKit
set_option linter.unusedVariables false

set_option maxHeartbeats 8000000 in
set_option maxRecDepth 100000 in
theorem walkRoom (A : Option Addr) (len cap : Nat) (w : World) (hI : In w A len cap) :
    Calls Try.prog 9 #[.slice A len cap] w fun e w' => e = .returned (.bool true) ∧ Below w.heap.size w w' := by
  have hm := hI.len_le
  unfold maxLen at hm
  have HI := Lib.hid hI
  clear hI
  by_cases hlen : len ≤ 1048576
  · go_enter Try.func9, Try.ntmps9
    go_wp2_with fail
    refine (drawWAsk_any A len cap _ HI.out).mono ?_
    rintro e w1 ⟨X, c, xs, a, en, rfl, ho, hl, hb1⟩
    obtain ⟨ap, ab⟩ := a
    have PF1 := Lib.hid ho
    have HB1 := Lib.hid hb1
    clear ho hb1
    obtain ⟨nb, HN⟩ : ∃ v, Hid (xs.length = v) := ⟨_, rfl⟩
    obtain ⟨os, HO⟩ : ∃ v, Hid (askR xs ⟨ap, ab⟩ en = v) := ⟨_, rfl⟩
    obtain ⟨ov, HV⟩ : ∃ v, Hid (askO xs ⟨ap, ab⟩ en = v) := ⟨_, rfl⟩
    obtain ⟨mb, HM⟩ : ∃ v, Hid (os.length = v) := ⟨_, rfl⟩
    rw [HN.out] at hl ⊢
    obtain ⟨w2, HW2⟩ : ∃ Q0, Hid (w1.alloc (.cells #[.int .i64 ap, .int .i64 ab] 25) = Q0) := ⟨_, rfl⟩
    have hb2 : Below w1.heap.size w1 w2 := by rw [← HW2.out]; exact (Below.refl _ _).alloc (Nat.le_refl _) _
    have PF2 := Lib.hid (PF1.out.below hb2)
    have HB2 : Hid (Below w.heap.size w w2) := HB1.out.trans (hb2.mono HB1.out.size)
    clear hb2
    have LF2 : Hid (Blk w2 w1.heap.size 25 #[.int .i64 ap, .int .i64 ab]) := by rw [← HW2.out]; exact Blk.new w1 _ _
    go_wp2_with fail
    rw [HW2.out]
    have CI := Lib.hid (winAsk_any X c xs ⟨ap, ab⟩ en w2 (own_asks PF2.out))
    rw [HN.out, HO.out, HV.out] at CI
    refine CI.out.mono ?_
    rintro e w3 ⟨A3, c3, rfl, ho3, hb3⟩
    rw [HM.out]
    have PO3 := Lib.hid ho3
    clear ho3 CI
    have PF3 := Lib.hid (PF2.out.below hb3)
    have HB3 : Hid (Below w.heap.size w w3) := HB2.out.trans (hb3.mono HB2.out.size)
    have LF3 := Lib.hid (LF2.out.below hb3 LF2.out.lt)
    clear hb3
    obtain ⟨f0, f1⟩ := ask2 LF3.out
    go_wp2_with fail
    have CI := Lib.hid (swinAsk_any X c xs ⟨ap, ab⟩ en w3 (own_asks PF3.out))
    rw [HN.out, HO.out, HV.out] at CI
    refine CI.out.mono ?_
    rintro e w4 ⟨A4, c4, rfl, ho4, hb4⟩
    rw [HM.out]
    have PW4 := Lib.hid ho4
    clear ho4 CI
    have PF4 := Lib.hid (PF3.out.below hb4)
    have HB4 : Hid (Below w.heap.size w w4) := HB3.out.trans (hb4.mono HB3.out.size)
    have LF4 := Lib.hid (LF3.out.below hb4 LF3.out.lt)
    have PO4 := Lib.hid (PO3.out.below hb4)
    clear hb4
    clear f0 f1
    obtain ⟨f0, f1⟩ := ask2 LF4.out
    have hne : (ov != ov) = false := by simp
    have heq : (ov == ov) = true := by simp
    go_wp2_with fail
    refine (sameA_any A3 c3 A4 c4 os w4 (own_asks PO4.out) (own_asks PW4.out) HM.out).mono ?_
    rintro e w5 ⟨rfl, hb5⟩
    have PF5 := Lib.hid (PF4.out.below hb5)
    have HB5 : Hid (Below w.heap.size w w5) := HB4.out.trans (hb5.mono HB4.out.size)
    have LF5 := Lib.hid (LF4.out.below hb5 LF4.out.lt)
    have PO5 := Lib.hid (PO4.out.below hb5)
    have PW5 := Lib.hid (PW4.out.below hb5)
    clear hb5
    clear f0 f1
    obtain ⟨f0, f1⟩ := ask2 LF5.out
    cases ov with
    | false =>
      go_wp2_with fail
      refine (sameA_any A3 c3 A4 c4 os w5 (own_asks PO5.out) (own_asks PW5.out) HM.out).mono ?_
      rintro e w6 ⟨rfl, hb6⟩
      have PF6 := Lib.hid (PF5.out.below hb6)
      have HB6 : Hid (Below w.heap.size w w6) := HB5.out.trans (hb6.mono HB5.out.size)
      have LF6 := Lib.hid (LF5.out.below hb6 LF5.out.lt)
      have PO6 := Lib.hid (PO5.out.below hb6)
      have PW6 := Lib.hid (PW5.out.below hb6)
      clear hb6
      go_wp2
      go_ret
      exact ⟨rfl, HB6.out⟩
    | true =>
      have HR : Hid (os = xs ++ [⟨ap, ab⟩]) := by show _ = _; rw [← HO.out]; exact askR_yes HV.out
      have hov := HV.out
      obtain ⟨rm, HRM⟩ : ∃ v, Hid (roomN xs ap = v) := ⟨_, rfl⟩
      have HT : Hid (roomN os ap = rm - 1 ∧ 0 < rm) := by show _ ∧ _; rw [HR.out, ← HRM.out]; exact ask_room hov
      have hrm0 : 0 < rm := HT.out.2
      have hrm3 : rm ≤ 3 := by
        rw [← HRM.out]
        unfold roomN
        split <;> omega
      have hrw : IntKind.i64.wrap (rm - 1) = rm - 1 := IntWalk.i64_in _ (by omega)
      have hre : (rm - 1 == rm - 1) = true := by simp
      have CA : Hid (∀ U, OwnRow AK U w2.heap.size A3 c3 os → Calls Try.prog 19 #[.slice A3 mb c3, .int .i64 ap] U fun e w' => e = .returned (.int .i64 (rm - 1)) ∧ Below U.heap.size U w') := fun U hU => by
        have h := winRoom_any A3 c3 os ap U (own_asks hU)
        rw [HM.out, HT.out.1] at h
        exact h
      have CB : Hid (∀ U, OwnRow AK U w.heap.size X c xs → Calls Try.prog 19 #[.slice X nb c, .int .i64 ap] U fun e w' => e = .returned (.int .i64 rm) ∧ Below U.heap.size U w') := fun U hU => by
        have h := winRoom_any X c xs ap U (own_asks hU)
        rw [HN.out, HRM.out] at h
        exact h
      clear hov
      go_upto_region 8 with fail
      (try go_wp2_with fail)
      refine wp_region_held_drew (S := (fun w' => w'.cell? ⟨w1.heap.size, 0, none⟩ = some (.int .i64 ap) ∧ w'.cell? ⟨w1.heap.size, 1, none⟩ = some (.int .i64 ab))) (by kernel_rfl) (ask2 LF5.out) (fun hHeld => ?_)
      refine wpAnyH_take (i := 0) (v := ?zv41001) rfl (by kernel_rfl) (by kernel_rfl) (by kernel_rfl) (fun _ _ _ h => h) (Or.inl ⟨by kernel_rfl, ?zy41001⟩) (by assumption) ?zr41001
      case zy41001 => (intro w hSw; (try dsimp only at hSw); go_simp; try with_reducible rfl)
      change wpAnyH _ _ _ _ _ _ _ (Act.put _ (some 54) _) _
      simp only [Act.put, List.setIfInBounds_toArray, List.set_cons_zero, List.set_cons_succ]
      refine wpAnyH_take (i := 1) (v := ?zv41002) rfl (by kernel_rfl) (by kernel_rfl) (by kernel_rfl) (fun _ _ _ h => h) (Or.inl ⟨by kernel_rfl, ?zy41002⟩) (by assumption) ?zr41002
      case zy41002 => (intro w hSw; (try dsimp only at hSw); go_simp; try with_reducible rfl)
      change wpAnyH _ _ _ _ _ _ _ (Act.put _ (some 55) _) _
      simp only [Act.put, List.setIfInBounds_toArray, List.set_cons_zero, List.set_cons_succ]
      refine wpAnyH_take (i := 2) (v := ?zv41003) rfl (by kernel_rfl) (by kernel_rfl) (by kernel_rfl) (fun _ _ _ h => h) (Or.inl ⟨by kernel_rfl, ?zy41003⟩) (by assumption) ?zr41003
      case zy41003 => (intro w hSw; (try dsimp only at hSw); go_simp; try with_reducible rfl)
      change wpAnyH _ _ _ _ _ _ _ (Act.put _ (some 56) _) _
      simp only [Act.put, List.setIfInBounds_toArray, List.set_cons_zero, List.set_cons_succ]
      refine wpAnyH_take (i := 4) (v := ?zv41004) rfl (by kernel_rfl) (by kernel_rfl) (by kernel_rfl) (fun _ _ _ h => h) (Or.inl ⟨by kernel_rfl, ?zy41004⟩) (by assumption) ?zr41004
      case zy41004 => (intro w hSw; (try dsimp only at hSw); go_simp; try with_reducible rfl)
      change wpAnyH _ _ _ _ _ _ _ (Act.put _ (some 58) _) _
      simp only [Act.put, List.setIfInBounds_toArray, List.set_cons_zero, List.set_cons_succ]
      refine wpAnyH_take (i := 5) (v := ?zv41005) rfl (by kernel_rfl) (by kernel_rfl) (by kernel_rfl) (fun _ _ _ h => h) (Or.inl ⟨by kernel_rfl, ?zy41005⟩) (by assumption) ?zr41005
      case zy41005 => (intro w hSw; (try dsimp only at hSw); go_simp; try with_reducible rfl)
      change wpAnyH _ _ _ _ _ _ _ (Act.put _ (some 59) _) _
      simp only [Act.put, List.setIfInBounds_toArray, List.set_cons_zero, List.set_cons_succ]
      refine wpAnyH_take (i := 6) (v := ?zv41006) rfl (by kernel_rfl) (by kernel_rfl) (by kernel_rfl) (fun _ _ _ h => h) (Or.inl ⟨by kernel_rfl, ?zy41006⟩) (by assumption) ?zr41006
      case zy41006 => (intro w hSw; (try dsimp only at hSw); go_simp; try with_reducible rfl)
      change wpAnyH _ _ _ _ _ _ _ (Act.put _ (some 60) _) _
      simp only [Act.put, List.setIfInBounds_toArray, List.set_cons_zero, List.set_cons_succ]
      refine wpAnyH_ready (rs := [3]) (by kernel_rfl) (by simp) (AllReadyH.cons rfl (fun K hK => ?_) AllReadyH.nil)
      go_simp
      go_at_call 19
      refine (CA.out _ (PO5.out.drewN 1)).mono ?_
      rintro e w6 ⟨rfl, hb6d⟩
      have hb6 : Below w5.heap.size w5 w6 := below_drew_l hb6d
      clear hb6d
      have LF6 := Lib.hid (LF5.out.below hb6 LF5.out.lt)
      have PF6 := Lib.hid (PF5.out.below hb6)
      have PO6 := Lib.hid (PO5.out.below hb6)
      have HB6 : Hid (Below w.heap.size w w6) := HB5.out.trans (hb6.mono HB5.out.size)
      clear hb6
      refine hK.out _ _ (ask2 LF6.out) (fun hHeld => ?_)
      clear hK K
      (try simp only [Act.put, List.setIfInBounds_toArray, List.set_cons_zero, List.set_cons_succ])
      refine wpAnyH_ready (rs := [7]) (by kernel_rfl) (by simp) (AllReadyH.cons rfl (fun K hK => ?_) AllReadyH.nil)
      go_simp
      go_at_call 19
      refine (CB.out _ PF6.out).mono ?_
      rintro e w7 ⟨rfl, hb7⟩
      have LF7 := Lib.hid (LF6.out.below hb7 LF6.out.lt)
      have PF7 := Lib.hid (PF6.out.below hb7)
      have PO7 := Lib.hid (PO6.out.below hb7)
      have HB7 : Hid (Below w.heap.size w w7) := HB6.out.trans (hb7.mono HB6.out.size)
      clear hb7
      refine hK.out _ _ (ask2 LF7.out) (fun hHeld => ?_)
      clear hK K
      (try simp only [Act.put, List.setIfInBounds_toArray, List.set_cons_zero, List.set_cons_succ])
      refine wpAnyH_take (i := 8) (v := ?zv41007) rfl (by kernel_rfl) (by kernel_rfl) (by kernel_rfl) (fun _ _ _ h => h) (Or.inl ⟨by kernel_rfl, ?zy41007⟩) (by assumption) ?zr41007
      case zy41007 => (intro w hSw; (try dsimp only at hSw); go_simp; try with_reducible rfl)
      change wpAnyH _ _ _ _ _ _ _ (Act.put _ (some 62) _) _
      simp only [Act.put, List.setIfInBounds_toArray, List.set_cons_zero, List.set_cons_succ]
      refine wpAnyH_take (i := 9) (v := ?zv41008) rfl (by kernel_rfl) (by kernel_rfl) (by kernel_rfl) (fun _ _ _ h => h) (Or.inl ⟨by kernel_rfl, ?zy41008⟩) (by assumption) ?zr41008
      case zy41008 => (intro w hSw; (try dsimp only at hSw); go_simp; try with_reducible rfl)
      change wpAnyH _ _ _ _ _ _ _ (Act.put _ (some 63) _) _
      simp only [Act.put, List.setIfInBounds_toArray, List.set_cons_zero, List.set_cons_succ]
      refine wpAnyH_take (i := 10) (v := ?zv41009) rfl (by kernel_rfl) (by kernel_rfl) (by kernel_rfl) (fun _ _ _ h => h) (Or.inl ⟨by kernel_rfl, ?zy41009⟩) (by assumption) ?zr41009
      case zy41009 => (intro w hSw; (try dsimp only at hSw); go_simp; try with_reducible rfl)
      change wpAnyH _ _ _ _ _ _ _ (Act.put _ (some 64) _) _
      simp only [Act.put, List.setIfInBounds_toArray, List.set_cons_zero, List.set_cons_succ]
      refine wpAnyH_take (i := 11) (v := ?zv41010) rfl (by kernel_rfl) (by kernel_rfl) (by kernel_rfl) (fun _ _ _ h => h) (Or.inl ⟨by kernel_rfl, ?zy41010⟩) (by assumption) ?zr41010
      case zy41010 => (intro w hSw; (try dsimp only at hSw); go_simp; try with_reducible rfl)
      change wpAnyH _ _ _ _ _ _ _ (Act.put _ (some 65) _) _
      simp only [Act.put, List.setIfInBounds_toArray, List.set_cons_zero, List.set_cons_succ]
      refine wpAnyH_take (i := 12) (v := ?zv41011) rfl (by kernel_rfl) (by kernel_rfl) (by kernel_rfl) (fun _ _ _ h => h) (Or.inl ⟨by kernel_rfl, ?zy41011⟩) (by assumption) ?zr41011
      case zy41011 => (intro w hSw; (try dsimp only at hSw); go_simp; try with_reducible rfl)
      change wpAnyH _ _ _ _ _ _ _ (Act.put _ (some 66) _) _
      simp only [Act.put, List.setIfInBounds_toArray, List.set_cons_zero, List.set_cons_succ]
      refine wpAnyH_take (i := 13) (v := ?zv41012) rfl (by kernel_rfl) (by kernel_rfl) (by kernel_rfl) (fun _ _ _ h => h) (Or.inl ⟨by kernel_rfl, ?zy41012⟩) (by assumption) ?zr41012
      case zy41012 => (intro w hSw; (try dsimp only at hSw); go_simp; try with_reducible rfl)
      change wpAnyH _ _ _ _ _ _ _ (Act.put _ (some 67) _) _
      simp only [Act.put, List.setIfInBounds_toArray, List.set_cons_zero, List.set_cons_succ]
      refine wpAnyH_ready (rs := [14]) (by kernel_rfl) (by simp) (AllReadyH.cons rfl (fun K hK => ?_) AllReadyH.nil)
      go_simp
      go_at_call 19
      refine (CB.out _ PF7.out).mono ?_
      rintro e w8 ⟨rfl, hb8⟩
      have LF8 := Lib.hid (LF7.out.below hb8 LF7.out.lt)
      have PF8 := Lib.hid (PF7.out.below hb8)
      have PO8 := Lib.hid (PO7.out.below hb8)
      have HB8 : Hid (Below w.heap.size w w8) := HB7.out.trans (hb8.mono HB7.out.size)
      clear hb8
      refine hK.out _ _ (ask2 LF8.out) (fun hHeld => ?_)
      clear hK K
      (try simp only [Act.put, List.setIfInBounds_toArray, List.set_cons_zero, List.set_cons_succ])
      refine wpAnyH_take (i := 15) (v := ?zv41013) rfl (by kernel_rfl) (by kernel_rfl) (by kernel_rfl) (fun _ _ _ h => h) (Or.inl ⟨by kernel_rfl, ?zy41013⟩) (by assumption) ?zr41013
      case zy41013 => (intro w hSw; (try dsimp only at hSw); go_simp; try with_reducible rfl)
      change wpAnyH _ _ _ _ _ _ _ (Act.put _ (some 69) _) _
      simp only [Act.put, List.setIfInBounds_toArray, List.set_cons_zero, List.set_cons_succ]
      refine wpAnyH_take (i := 16) (v := ?zv41014) rfl (by kernel_rfl) (by kernel_rfl) (by kernel_rfl) (fun _ _ _ h => h) (Or.inl ⟨by kernel_rfl, ?zy41014⟩) (by assumption) ?zr41014
      case zy41014 => (intro w hSw; (try dsimp only at hSw); go_simp; try with_reducible rfl)
      change wpAnyH _ _ _ _ _ _ _ (Act.put _ (some 70) _) _
      simp only [Act.put, List.setIfInBounds_toArray, List.set_cons_zero, List.set_cons_succ]
      refine wpAnyH_take (i := 17) (v := ?zv41015) rfl (by kernel_rfl) (by kernel_rfl) (by kernel_rfl) (fun _ _ _ h => h) (Or.inl ⟨by kernel_rfl, ?zy41015⟩) (by assumption) ?zr41015
      case zy41015 => (intro w hSw; (try dsimp only at hSw); go_simp; try with_reducible rfl)
      change wpAnyH _ _ _ _ _ _ _ (Act.put _ (some 2) _) _
      simp only [Act.put, List.setIfInBounds_toArray, List.set_cons_zero, List.set_cons_succ]
      refine wpAnyH_done (by kernel_rfl) ?_ _
      go_wp2
      go_ret
      exact ⟨rfl, HB8.out⟩
  · have h9 : 1048576 < len := by omega
    clear hlen
    go_enter Try.func9, Try.ntmps9
    go_wp2
    go_ret
    exact ⟨rfl, Below.refl _ _⟩

end Go.Proofs.Ytoleimejikinmaa
