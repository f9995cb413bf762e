/- The walks of FnWantsNone, FnWantsCount and FnWants: each returns true and changes nothing that was there. Condition: the code's bytes lie in memory. -/
import Derived.Test.YtmgdngmcgokeeaaBitsLaws
import Derived.Test.YtmgdngmcgokeeaaDrawWants
import Derived.Test.YtmgdngmcgokeeaaSame
import Derived.Test.YtmgdngmcgokeeaaIn
namespace Go.Proofs.Ytmgdngmcgokeeaa
open Go.RowKit
set_option linter.unusedVariables false

set_option maxHeartbeats 4000000 in
set_option maxRecDepth 100000 in
theorem walkWantsNone (A : Option Addr) (len cap : Nat) (w : World) (hI : In w A len cap) :
    Calls Try.prog 5 #[.slice A len cap] w fun e w' => e = .returned (.bool true) ∧ Below w.heap.size w w' := by
  have hm := hI.len_le
  unfold maxLen at hm
  have HI := Lib.hid hI
  clear hI
  by_cases hlen : len ≤ 1048576
  · go_enter Try.func5, Try.ntmps5
    go_wp2_with fail
    refine (drawcount_any A len cap _ HI.out).mono ?_
    rintro e w1 ⟨b, c, zs, rfl, hz18, hown1, hb1⟩
    have HO1 := Lib.hid hown1
    have HB1 := Lib.hid hb1
    have HLM : Hid (zs.length ≤ maxLen) := by show _ ≤ _; unfold maxLen; omega
    clear hown1 hb1
    go_wp2_with fail
    refine (bitsCount_any _ c zs _ HO1.out.ints).mono ?_
    rintro e w2 ⟨rfl, hb2⟩
    have HO2 := Lib.hid (HO1.out.below hb2)
    have HB2 : Hid (Below w.heap.size w w2) := HB1.out.trans (hb2.mono HB1.out.size)
    clear hb2
    go_wp2_with fail
    refine (sbitsCount_any _ c zs _ HO2.out.ints HLM.out).mono ?_
    rintro e w' ⟨rfl, rfl⟩
    by_cases h16 : zs.length ≤ 16
    · obtain ⟨R, HR⟩ : ∃ R : Nat, Hid (cntB zs = R) := ⟨_, rfl⟩
      rw [countOr_yes h16, HR.out]
      have hne : ((R : Int) != (R : Int)) = false := by simp
      have hlt : decide ((R : Int) < 0) = false := by simp
      go_wp2_with fail
      refine (bitsWants_any _ c zs _ c zs _ HO2.out.ints HO2.out.ints).mono ?_
      rintro e w3 ⟨A3, c3, rfl, hown3, hb3⟩
      rw [wantsOr_self]
      have HO3 := Lib.hid (HO2.out.below hb3)
      have HB3 : Hid (Below w.heap.size w w3) := HB2.out.trans (hb3.mono HB2.out.size)
      clear hown3 hb3
      go_wp2_with fail
      have hcall := bitsWants_any (some ⟨b, 0, none⟩) c zs (some ⟨w3.heap.size, 0, none⟩) 0 [] _ (HO3.out.ints.allocS (.cells #[] 4)) BoolsAt.nil
      refine hcall.mono ?_
      clear hcall
      rintro e w4 ⟨A4, c4, rfl, hown4, hb4⟩
      rw [wants_none h16, HR.out]
      have HB4 : Hid (Below w.heap.size w w4) := HB3.out.trans (((Below.refl _ w3).alloc (Nat.le_refl _) _ |>.trans (hb4.mono (by simp))).mono HB3.out.size)
      have hee : ((R : Int) == (R : Int)) = true := by simp
      clear hown4 hb4
      go_wp2
      go_ret
      exact ⟨rfl, HB4.out⟩
    · rw [countOr_no (by omega)]
      go_wp2
      go_ret
      exact ⟨rfl, HB2.out⟩
  · have h9 : 1048576 < len := by omega
    clear hlen
    go_enter Try.func5, Try.ntmps5
    go_wp2
    go_ret
    exact ⟨rfl, Below.refl _ _⟩

/-- What FnWants and FnWantsCount begin with. -/
theorem deci_self (l : List Int) : decide (l = l) = true := by simp

set_option maxHeartbeats 4000000 in
set_option maxRecDepth 100000 in
theorem walkWantsCount (A : Option Addr) (len cap : Nat) (w : World) (hI : In w A len cap) :
    Calls Try.prog 7 #[.slice A len cap] w fun e w' => e = .returned (.bool true) ∧ Below w.heap.size w w' := by
  have hm := hI.len_le
  unfold maxLen at hm
  have HI := Lib.hid hI
  clear hI
  by_cases hlen : len ≤ 1048576
  · go_enter Try.func7, Try.ntmps7
    go_wp2_with fail
    refine (drawwants_any A len cap _ HI.out).mono ?_
    rintro e w1 ⟨b, c, xs, b1, c1, ys, rfl, hx18, hy18, hownx, howny, hb1⟩
    have HX1 := Lib.hid hownx
    have HY1 := Lib.hid howny
    have HB1 := Lib.hid hb1
    have HLX : Hid (xs.length ≤ maxLen) := by show _ ≤ _; unfold maxLen; omega
    have HLY : Hid (ys.length ≤ maxLen) := by show _ ≤ _; unfold maxLen; omega
    clear hownx howny hb1
    go_wp2_with fail
    refine (bitsWants_any _ c xs _ c1 ys _ HX1.out.ints HY1.out.ints).mono ?_
    rintro e w2 ⟨A2, c2, rfl, hown2, hb2⟩
    have HO2 := Lib.hid hown2
    have HX2 := Lib.hid (HX1.out.below hb2)
    have HY2 := Lib.hid (HY1.out.below hb2)
    have HB2 : Hid (Below w.heap.size w w2) := HB1.out.trans (hb2.mono HB1.out.size)
    clear hown2 hb2
    go_wp2_with fail
    refine (sbitsWants_any _ c xs _ c1 ys _ HX2.out.ints HY2.out.ints HLX.out HLY.out).mono ?_
    rintro e w3 ⟨A3, c3, rfl, hown3, hb3⟩
    have HO3 := Lib.hid hown3
    have HO23 := Lib.hid (HO2.out.below hb3)
    have HX3 := Lib.hid (HX2.out.below hb3)
    have HY3 := Lib.hid (HY2.out.below hb3)
    have HB3 : Hid (Below w.heap.size w w3) := HB2.out.trans (hb3.mono HB2.out.size)
    clear hown3 hb3
    have HWM : Hid ((wantsOr xs ys).length ≤ maxLen) := by show _ ≤ _; have := wantsOr_short xs ys; unfold maxLen; omega
    go_wp2_with fail
    refine (same_any A2 c2 _ A3 c3 _ _ HO23.out.ints HO3.out.ints HWM.out HWM.out).mono ?_
    rintro e w' ⟨rfl, q, rfl⟩
    rw [deci_self]
    by_cases h16 : xs.length ≤ 16 ∧ ys.length ≤ 16
    · obtain ⟨hx16, hy16⟩ := h16
      have hdx : decide (16 < xs.length) = false := by simp; omega
      have hdy : decide (16 < ys.length) = false := by simp; omega
      obtain ⟨L, HL⟩ : ∃ L, Hid ((wantsOr xs ys).length = L) := ⟨_, rfl⟩
      have hL : L ≤ 16 := by rw [← HL.out]; exact wantsOr_short xs ys
      have HE : Hid (cntB xs = L + bothK xs ys xs.length) := by
        show _ = _
        have := cnt_wants xs ys xs.length (Nat.le_refl _)
        rw [List.take_length] at this
        rw [this, ← HL.out, wantsOr_yes hx16 hy16]
      have HC : Hid (countOr xs = (cntB xs : Int)) := countOr_yes hx16
      rw [HL.out]
      obtain ⟨m, HM⟩ : ∃ m, Hid (xs.length = m) := ⟨_, rfl⟩
      obtain ⟨m1, HM1⟩ : ∃ m1, Hid (ys.length = m1) := ⟨_, rfl⟩
      rw [HM.out] at hx16 hx18 hdx ⊢
      rw [HM1.out] at hy16 hy18 hdy ⊢
      go_wp2
      go_loop [6, 7] (fun x i => ∃ k t : Nat, k ≤ m ∧ k ≤ m1 ∧ t ≤ k ∧ x = .int .i64 t ∧ i = .int .i64 k ∧ Hid (bothK xs ys k = t)) (fun _ i => m - (intOf i).toNat)
      case atStart => exact ⟨0, 0, by omega, by omega, by omega, rfl, rfl, rfl⟩
      case round =>
        obtain ⟨k, t, hk, hk1, ht, rfl, rfl, HT⟩ := hrel
        by_cases hlt : k < m ∧ k < m1
        · obtain ⟨hlx, hly⟩ := hlt
          have hzx : k < xs.length := by rw [HM.out]; exact hlx
          have hzy : k < ys.length := by rw [HM1.out]; exact hly
          have hcx := (HX3.out.ints.lt (by omega)).2 k hzx
          have hcy := (HY3.out.ints.lt (by omega)).2 k hzy
          rw [Nat.zero_add] at hcx hcy
          have hkx : (k : Int) < (m : Int) := by omega
          have hky : (k : Int) < (m1 : Int) := by omega
          have hnx : bothK xs ys (k + 1) = t + (if bth xs k && bth ys k then 1 else 0) := by rw [bothK, HT.out]
          have hdk : decide (k < m) = true := by simp [hlx]
          have hdk1 : decide (k < m1) = true := by simp [hly]
          cases hv : bth xs k with
          | false =>
            rw [hv] at hcx hnx
            have HN : Hid (bothK xs ys (k + 1) = t) := by show _ = _; rw [hnx]; simp
            clear hnx hv hzx hzy
            go_wp2
            go_round
            case rel => exact ⟨k + 1, t, by omega, by omega, by omega, rfl, by go_num, HN⟩
            case measure => simp [intOf]; omega
          | true =>
            cases hu : bth ys k with
            | false =>
              rw [hv] at hcx
              rw [hu] at hcy
              have HN : Hid (bothK xs ys (k + 1) = t) := by show _ = _; rw [hnx, hu]; simp
              clear hnx hv hu hzx hzy
              go_wp2
              go_round
              case rel => exact ⟨k + 1, t, by omega, by omega, by omega, rfl, by go_num, HN⟩
              case measure => simp [intOf]; omega
            | true =>
              rw [hv] at hcx
              rw [hu] at hcy
              have HN : Hid (bothK xs ys (k + 1) = t + 1) := by show _ = _; rw [hnx, hv, hu]; simp
              clear hnx hv hu hzx hzy
              go_wp2
              go_round
              case rel => exact ⟨k + 1, t + 1, by omega, by omega, by omega, by go_num, by go_num, HN⟩
              case measure => simp [intOf]; omega
        · have HF : Hid (cntB xs = L + t) := by
            show _ = _
            rw [HE.out, ← HT.out, HM.out]
            by_cases e : k = m
            · rw [e]
            · have e1 : k = m1 := by omega
              have := bothK_beyond xs ys k (by rw [HM1.out]; omega) (m - k)
              rw [show k + (m - k) = m by omega] at this
              rw [this]
          have hcall := bitsCount_any (some ⟨b, 0, none⟩) c xs _ (HX3.out.drewN q).ints
          rw [HM.out, HC.out, HF.out] at hcall
          have hcast : ((L + t : Nat) : Int) = (L : Int) + (t : Int) := by omega
          rw [hcast] at hcall
          have HCALL := Lib.hid hcall
          have hee : ((L : Int) + (t : Int) == (L : Int) + (t : Int)) = true := by simp
          clear hcall hcast
          by_cases e : k < m
          · have hdk : decide (k < m) = true := by simp [e]
            have hdk1 : decide (k < m1) = false := by simp; omega
            go_wp2_with (go_at_call 11; refine HCALL.out.mono ?_; rintro e w6 ⟨rfl, hb6⟩)
            go_ret
            exact ⟨rfl, HB3.out.trans ((below_drewN_l hb6).mono HB3.out.size)⟩
          · have hdk : decide (k < m) = false := by simp; omega
            go_wp2_with (go_at_call 11; refine HCALL.out.mono ?_; rintro e w6 ⟨rfl, hb6⟩)
            go_ret
            exact ⟨rfl, HB3.out.trans ((below_drewN_l hb6).mono HB3.out.size)⟩
    · have hcases : (16 < xs.length) ∨ (xs.length ≤ 16 ∧ 16 < ys.length) := by omega
      clear h16
      rcases hcases with h | ⟨h, h'⟩
      · have hdx : decide (16 < xs.length) = true := by simp [h]
        go_wp2_with fail
        refine (sbitsWants_any _ c xs _ c1 ys _ (HX3.out.drewN q).ints (HY3.out.drewN q).ints HLX.out HLY.out).mono ?_
        rintro e w4 ⟨A4, c4, rfl, hown4, hb4⟩
        have HO4 := Lib.hid hown4
        have HO24 := Lib.hid ((HO23.out.drewN q).below hb4)
        have HB4 : Hid (Below w.heap.size w w4) := HB3.out.trans ((below_drewN_l hb4).mono HB3.out.size)
        clear hown4 hb4
        go_wp2_with fail
        refine (same_any A2 c2 _ A4 c4 _ _ HO24.out.ints HO4.out.ints HWM.out HWM.out).mono ?_
        rintro e w' ⟨rfl, q1, rfl⟩
        rw [deci_self]
        go_wp2
        go_ret
        exact ⟨rfl, below_drewN HB4.out _⟩
      · have hdx : decide (16 < xs.length) = false := by simp; omega
        have hdy : decide (16 < ys.length) = true := by simp [h']
        go_wp2_with fail
        refine (sbitsWants_any _ c xs _ c1 ys _ (HX3.out.drewN q).ints (HY3.out.drewN q).ints HLX.out HLY.out).mono ?_
        rintro e w4 ⟨A4, c4, rfl, hown4, hb4⟩
        have HO4 := Lib.hid hown4
        have HO24 := Lib.hid ((HO23.out.drewN q).below hb4)
        have HB4 : Hid (Below w.heap.size w w4) := HB3.out.trans ((below_drewN_l hb4).mono HB3.out.size)
        clear hown4 hb4
        go_wp2_with fail
        refine (same_any A2 c2 _ A4 c4 _ _ HO24.out.ints HO4.out.ints HWM.out HWM.out).mono ?_
        rintro e w' ⟨rfl, q1, rfl⟩
        rw [deci_self]
        go_wp2
        go_ret
        exact ⟨rfl, below_drewN HB4.out _⟩
  · have h9 : 1048576 < len := by omega
    clear hlen
    go_enter Try.func7, Try.ntmps7
    go_wp2
    go_ret
    exact ⟨rfl, Below.refl _ _⟩

end Go.Proofs.Ytmgdngmcgokeeaa
