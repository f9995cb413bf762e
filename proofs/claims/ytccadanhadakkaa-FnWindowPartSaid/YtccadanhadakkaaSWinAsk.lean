/- Contract of the model's WindowAsk: it answers as the data say, in memory of the call's own. Condition: the requests lie in memory. -/
import Derived.Test.YtccadanhadakkaaSWinValid
namespace Go.Proofs.Ytccadanhadakkaa
open Go.RowKit
set_option linter.unusedVariables false

set_option maxHeartbeats 4000000 in
set_option maxRecDepth 100000 in
theorem swinAsk_any (A : Option Addr) (cap : Nat) (xs : List AD) (a : AD) (en : Bool) (w : World) (hA : AsksAt w w.heap.size A cap xs) :
    Calls Try.prog 8 #[.slice A xs.length cap, askV a, .bool en] w (RetAsksB w (askR xs a en) (askO xs a en)) := by
  obtain ⟨i0, zz, hi0, hz0, hz1, hz2, hz3⟩ := ask_app_info
  have HI0 := Lib.hid (And.intro hi0 (And.intro hz0 (And.intro hz1 (And.intro hz2 hz3))))
  clear hi0 hz0 hz1 hz2 hz3
  obtain ⟨ap, ab⟩ := a
  obtain ⟨W, HW⟩ : ∃ W, Hid (w.alloc (.cells #[.int .i64 ap, .int .i64 ab] 25) = W) := ⟨_, rfl⟩
  have KA : Hid (Blk W w.heap.size 25 #[.int .i64 ap, .int .i64 ab]) := by rw [← HW.out]; exact Blk.new w _ _
  have HBw : Hid (Below w.heap.size w W) := by rw [← HW.out]; exact (Below.refl _ w).alloc (Nat.le_refl _) _
  have HA := Lib.hid (hA.belowS HBw.out)
  obtain ⟨k0, k1⟩ := ask2 KA.out
  have HB0 : Hid (Below W.heap.size W W) := Below.refl _ _
  have hnil := hA.nil0
  have hcap := hA.most
  unfold maxLen at hcap
  clear hA
  have CV : Hid (∀ U, Below W.heap.size W U → Calls Try.prog 15 #[.slice A xs.length cap] U fun e w' => e = .returned (.bool (winB xs)) ∧ Below U.heap.size U w') := fun U hU => swinValid_any A cap xs U (HA.out.belowS hU)
  obtain ⟨n, HN⟩ : ∃ n, Hid (xs.length = n) := ⟨_, rfl⟩
  rw [HN.out] at CV ⊢
  go_enter Try.func8, Try.ntmps8
  go_upto_region 1 with fail
  rw [HW.out]
  cases hw : winB xs with
  | false =>
    rw [hw] at CV
    have HR : Hid (askR xs ⟨ap, ab⟩ en = []) := askR_no (by rw [hw, Bool.false_and])
    have HV : Hid (askO xs ⟨ap, ab⟩ en = false) := by show _ = _; unfold askO; rw [hw, Bool.false_and, Bool.false_and]
    clear hw
    go_wp2_with fail
    refine (CV.out _ HB0.out).mono ?_
    rintro e w1 ⟨rfl, hb1⟩
    have HB1 : Hid (Below W.heap.size W w1) := HB0.out.trans (hb1.mono HB0.out.size)
    clear hb1 k0 k1
    obtain ⟨k0, k1⟩ := ask2 (KA.out.below HB1.out KA.out.lt)
    have HX1 : Hid (Below w.heap.size w w1) := HBw.out.trans (HB1.out.mono HBw.out.size)
    have HBF : Hid (Below w.heap.size w (w1.alloc (.cells #[] 25))) := HX1.out.alloc HX1.out.size _
    have HOF := Lib.hid (own_new_at HX1.out)
    go_wp2
    go_ret2
    exact ⟨_, _, by rw [HR.out, HV.out]; rfl, by rw [HR.out]; exact HOF.out, HBF.out⟩
  | true =>
    rw [hw] at CV
    have HWN := Lib.hid hw
    have HSH : Hid (n ≤ 18) := (by rw [← HN.out]; exact winB_short hw)
    clear hw
    go_wp2_with fail
    refine (CV.out _ HB0.out).mono ?_
    rintro e w1 ⟨rfl, hb1⟩
    have HB1 : Hid (Below W.heap.size W w1) := HB0.out.trans (hb1.mono HB0.out.size)
    clear hb1 k0 k1
    obtain ⟨k0, k1⟩ := ask2 (KA.out.below HB1.out KA.out.lt)
    have C2 : Hid (∀ U, Below W.heap.size W U → Calls Try.prog 25 #[.agg #[.int .i64 ap, .int .i64 ab]] U fun e w' => e = .returned (.bool (aOk ⟨ap, ab⟩)) ∧ Below U.heap.size U w') := fun U _ => sask_any ⟨ap, ab⟩ U
    cases ho : aOk ⟨ap, ab⟩ with
    | false =>
      rw [ho] at C2
      have HR : Hid (askR xs ⟨ap, ab⟩ en = []) := askR_no (by rw [ho, Bool.and_false])
      have HV : Hid (askO xs ⟨ap, ab⟩ en = false) := by show _ = _; unfold askO; rw [ho, Bool.and_false, Bool.false_and]
      clear ho
      go_wp2_with fail
      refine (C2.out _ HB1.out).mono ?_
      rintro e w2 ⟨rfl, hb2⟩
      have HB2 : Hid (Below W.heap.size W w2) := HB1.out.trans (hb2.mono HB1.out.size)
      clear hb2 k0 k1
      obtain ⟨k0, k1⟩ := ask2 (KA.out.below HB2.out KA.out.lt)
      have HX2 : Hid (Below w.heap.size w w2) := HBw.out.trans (HB2.out.mono HBw.out.size)
      have HBF : Hid (Below w.heap.size w (w2.alloc (.cells #[] 25))) := HX2.out.alloc HX2.out.size _
      have HOF := Lib.hid (own_new_at HX2.out)
      go_wp2
      go_ret2
      exact ⟨_, _, by rw [HR.out, HV.out]; rfl, by rw [HR.out]; exact HOF.out, HBF.out⟩
    | true =>
      rw [ho] at C2
      have HOK := Lib.hid ho
      clear ho
      go_wp2_with fail
      refine (C2.out _ HB1.out).mono ?_
      rintro e w2 ⟨rfl, hb2⟩
      have HB2 : Hid (Below W.heap.size W w2) := HB1.out.trans (hb2.mono HB1.out.size)
      clear hb2 k0 k1
      obtain ⟨k0, k1⟩ := ask2 (KA.out.below HB2.out KA.out.lt)
      have HROW : Hid (RowAt AK (w2.alloc (.cells #[] 25)) (w2.alloc (.cells #[] 25)).heap.size A xs) := ((HA.out.belowS HB2.out).allocS _).row
      have HNEW : Hid (OwnRow AK (w2.alloc (.cells #[] 25)) w2.heap.size (some ⟨w2.heap.size, 0, none⟩) 0 []) := OwnRow.new AK w2
      go_upto_region 4 with (at_builtin; refine wpList_app_row (K := AK) Try.underlying23 HI0.out.1 HI0.out.2.1 HI0.out.2.2.1 HI0.out.2.2.2.1 HI0.out.2.2.2.2 (by decide) rfl (.tmp 19) (.tmp 20) rfl _ w2.heap.size (some ⟨w2.heap.size, 0, none⟩) 0 [] rfl A cap xs (by rw [HN.out]; rfl) HNEW.out HROW.out (by rw [HN.out]; have := HSH.out; simp; omega) (by simp) hnil ?_; intro v w3 hA; obtain ⟨X, x, rfl, ho2⟩ := hA.own; have hbel := hA.below; rw [List.nil_append, HN.out]; rw [List.nil_append] at ho2; have HB3 : Hid (Below W.heap.size W w3) := HB2.out.trans ((((Below.refl _ w2).alloc (Nat.le_refl _) _).trans hbel).mono HB2.out.size); have HO3 : Hid (OwnRow AK w3 w.heap.size X x xs) := ho2.base_le (Nat.le_trans HBw.out.size HB2.out.size); clear hA ho2 hbel k0 k1)
      obtain ⟨k0, k1⟩ := ask2 (KA.out.below HB3.out KA.out.lt)
      obtain ⟨nh, HNH⟩ : ∃ m, Hid (cH xs ⟨ap, ab⟩ = m) := ⟨_, rfl⟩
      obtain ⟨np, HNP⟩ : ∃ m, Hid (cP xs ap = m) := ⟨_, rfl⟩
      obtain ⟨nb, HNB⟩ : ∃ m, Hid (cB xs ab = m) := ⟨_, rfl⟩
      have C4 : Hid (∀ U : World, Below W.heap.size W U → Calls Try.prog 26 #[.slice A n cap, .agg #[.int .i64 ap, .int .i64 ab]] U fun e w' => e = .returned (.bool (decide (0 < nh))) ∧ Below U.heap.size U w') := fun U hU => by
        have h := shas_any A cap xs ⟨ap, ab⟩ U (HA.out.belowS hU)
        rw [HN.out, HNH.out] at h
        exact h
      have C5 : Hid (∀ U : World, Below W.heap.size W U → Calls Try.prog 27 #[.slice A n cap, .int .i64 ap] U fun e w' => e = .returned (.int .i64 (np : Int)) ∧ Below U.heap.size U w') := fun U hU => by
        have h := speer_any A cap xs ap U (HA.out.belowS hU)
        rw [HN.out, show xs.countP (isP ap) = np from HNP.out] at h
        exact h
      have C6 : Hid (∀ U : World, Below W.heap.size W U → Calls Try.prog 28 #[.slice A n cap, .int .i64 ab] U fun e w' => e = .returned (.int .i64 (nb : Int)) ∧ Below U.heap.size U w') := fun U hU => by
        have h := sblock_any A cap xs ab U (HA.out.belowS hU)
        rw [HN.out, show xs.countP (isB ab) = nb from HNB.out] at h
        exact h
      cases en with
      | false =>
        have HCAN : Hid (canB xs ⟨ap, ab⟩ (mostN false) = (decide (nh = 0) && (decide (np < 3) && decide (nb < 1)))) := by
          show _ = _
          rw [← HNH.out, ← HNP.out, ← HNB.out]; rfl
        by_cases h1 : nh = 0
        · rw [decide_eq_false (show ¬ 0 < nh by omega)] at C4
          by_cases h2 : np < 3
          · have h2i : ¬ 3 ≤ (np : Int) := by omega
            by_cases h3 : nb < 1
            · have h3i : ¬ 1 ≤ (nb : Int) := by omega
              have hc : canB xs ⟨ap, ab⟩ (mostN false) = true := by rw [HCAN.out, decide_eq_true h1, decide_eq_true h2, decide_eq_true h3]; rfl
              clear h1 h2 h3
              have HR : Hid (askR xs ⟨ap, ab⟩ false = xs ++ [⟨ap, ab⟩]) := askR_yes ((askO_iff _ _ _).2 ⟨HWN.out, HOK.out, hc⟩)
              have HV : Hid (askO xs ⟨ap, ab⟩ false = true) := (askO_iff _ _ _).2 ⟨HWN.out, HOK.out, hc⟩
              clear hc
              go_wp2_with fail
              refine (C4.out _ HB3.out).mono ?_
              rintro e w4 ⟨rfl, hb4⟩
              have HB4 : Hid (Below W.heap.size W w4) := HB3.out.trans (hb4.mono HB3.out.size)
              have HO4 := Lib.hid (HO3.out.below hb4)
              clear hb4 k0 k1
              obtain ⟨k0, k1⟩ := ask2 (KA.out.below HB4.out KA.out.lt)
              go_wp2_with fail
              refine (C5.out _ HB4.out).mono ?_
              rintro e w5 ⟨rfl, hb5⟩
              have HB5 : Hid (Below W.heap.size W w5) := HB4.out.trans (hb5.mono HB4.out.size)
              have HO5 := Lib.hid (HO4.out.below hb5)
              clear hb5 k0 k1
              obtain ⟨k0, k1⟩ := ask2 (KA.out.below HB5.out KA.out.lt)
              go_wp2_with fail
              refine (C6.out _ HB5.out).mono ?_
              rintro e w6 ⟨rfl, hb6⟩
              have HB6 : Hid (Below W.heap.size W w6) := HB5.out.trans (hb6.mono HB5.out.size)
              have HO6 := Lib.hid (HO5.out.below hb6)
              clear hb6 k0 k1
              obtain ⟨k0, k1⟩ := ask2 (KA.out.below HB6.out KA.out.lt)
              have HX6 : Hid (Below w.heap.size w w6) := HBw.out.trans (HB6.out.mono HBw.out.size)
              go_wp2_with (at_builtin; refine wpList_app_row (K := AK) Try.underlying23 HI0.out.1 HI0.out.2.1 HI0.out.2.2.1 HI0.out.2.2.2.1 HI0.out.2.2.2.2 (by decide) rfl (.tmp 42) (.tmp 44) rfl _ w.heap.size X x xs (by rw [HN.out]; rfl) _ _ [(⟨ap, ab⟩ : AD)] rfl (HO6.out.alloc _) (one_newR AK w6 ⟨ap, ab⟩ _) (by rw [HN.out]; have := HSH.out; show n + 1 ≤ 1000000; omega) (by rw [World.size_alloc]; have := HX6.out.size; omega) (fun e => by cases e) ?_; intro v w7 hA; obtain ⟨Y, y, rfl, ho7⟩ := hA.own; have HX7 : Hid (Below w.heap.size w w7) := (HX6.out.alloc HX6.out.size _).trans hA.below; have HO7 := Lib.hid ho7; clear hA ho7; obtain ⟨m7, HM7⟩ : ∃ m, Hid ((xs ++ [(⟨ap, ab⟩ : AD)]).length = m) := ⟨_, rfl⟩; rw [HM7.out])
              go_ret2
              exact ⟨Y, y, by rw [HR.out, HV.out, HM7.out]; rfl, by rw [HR.out]; exact HO7.out, HX7.out⟩
            · have h3i : 1 ≤ (nb : Int) := by omega
              have hc : canB xs ⟨ap, ab⟩ (mostN false) = false := by rw [HCAN.out, decide_eq_false h3, Bool.and_false, Bool.and_false]
              clear h1 h2 h3
              have HR : Hid (askR xs ⟨ap, ab⟩ false = xs) := askR_can HWN.out HOK.out hc
              have HV : Hid (askO xs ⟨ap, ab⟩ false = false) := by show (winB xs && aOk _ && canB xs _ (mostN false)) = false; rw [hc, Bool.and_false]
              clear hc
              go_wp2_with fail
              refine (C4.out _ HB3.out).mono ?_
              rintro e w4 ⟨rfl, hb4⟩
              have HB4 : Hid (Below W.heap.size W w4) := HB3.out.trans (hb4.mono HB3.out.size)
              have HO4 := Lib.hid (HO3.out.below hb4)
              clear hb4 k0 k1
              obtain ⟨k0, k1⟩ := ask2 (KA.out.below HB4.out KA.out.lt)
              go_wp2_with fail
              refine (C5.out _ HB4.out).mono ?_
              rintro e w5 ⟨rfl, hb5⟩
              have HB5 : Hid (Below W.heap.size W w5) := HB4.out.trans (hb5.mono HB4.out.size)
              have HO5 := Lib.hid (HO4.out.below hb5)
              clear hb5 k0 k1
              obtain ⟨k0, k1⟩ := ask2 (KA.out.below HB5.out KA.out.lt)
              go_wp2_with fail
              refine (C6.out _ HB5.out).mono ?_
              rintro e w6 ⟨rfl, hb6⟩
              have HB6 : Hid (Below W.heap.size W w6) := HB5.out.trans (hb6.mono HB5.out.size)
              have HO6 := Lib.hid (HO5.out.below hb6)
              clear hb6 k0 k1
              obtain ⟨k0, k1⟩ := ask2 (KA.out.below HB6.out KA.out.lt)
              have HX6 : Hid (Below w.heap.size w w6) := HBw.out.trans (HB6.out.mono HBw.out.size)
              go_wp2
              go_ret2
              exact ⟨X, x, by rw [HR.out, HV.out, HN.out]; rfl, by rw [HR.out]; exact HO6.out, HX6.out⟩
          · have h2i : 3 ≤ (np : Int) := by omega
            have hc : canB xs ⟨ap, ab⟩ (mostN false) = false := by rw [HCAN.out, decide_eq_false h2, Bool.false_and, Bool.and_false]
            clear h1 h2
            have HR : Hid (askR xs ⟨ap, ab⟩ false = xs) := askR_can HWN.out HOK.out hc
            have HV : Hid (askO xs ⟨ap, ab⟩ false = false) := by show (winB xs && aOk _ && canB xs _ (mostN false)) = false; rw [hc, Bool.and_false]
            clear hc
            go_wp2_with fail
            refine (C4.out _ HB3.out).mono ?_
            rintro e w4 ⟨rfl, hb4⟩
            have HB4 : Hid (Below W.heap.size W w4) := HB3.out.trans (hb4.mono HB3.out.size)
            have HO4 := Lib.hid (HO3.out.below hb4)
            clear hb4 k0 k1
            obtain ⟨k0, k1⟩ := ask2 (KA.out.below HB4.out KA.out.lt)
            go_wp2_with fail
            refine (C5.out _ HB4.out).mono ?_
            rintro e w5 ⟨rfl, hb5⟩
            have HB5 : Hid (Below W.heap.size W w5) := HB4.out.trans (hb5.mono HB4.out.size)
            have HO5 := Lib.hid (HO4.out.below hb5)
            clear hb5 k0 k1
            obtain ⟨k0, k1⟩ := ask2 (KA.out.below HB5.out KA.out.lt)
            have HX5 : Hid (Below w.heap.size w w5) := HBw.out.trans (HB5.out.mono HBw.out.size)
            go_wp2
            go_ret2
            exact ⟨X, x, by rw [HR.out, HV.out, HN.out]; rfl, by rw [HR.out]; exact HO5.out, HX5.out⟩
        · rw [decide_eq_true (show 0 < nh by omega)] at C4
          have hc : canB xs ⟨ap, ab⟩ (mostN false) = false := by rw [HCAN.out, decide_eq_false h1, Bool.false_and]
          clear h1
          have HR : Hid (askR xs ⟨ap, ab⟩ false = xs) := askR_can HWN.out HOK.out hc
          have HV : Hid (askO xs ⟨ap, ab⟩ false = false) := by show (winB xs && aOk _ && canB xs _ (mostN false)) = false; rw [hc, Bool.and_false]
          clear hc
          go_wp2_with fail
          refine (C4.out _ HB3.out).mono ?_
          rintro e w4 ⟨rfl, hb4⟩
          have HB4 : Hid (Below W.heap.size W w4) := HB3.out.trans (hb4.mono HB3.out.size)
          have HO4 := Lib.hid (HO3.out.below hb4)
          clear hb4 k0 k1
          obtain ⟨k0, k1⟩ := ask2 (KA.out.below HB4.out KA.out.lt)
          have HX4 : Hid (Below w.heap.size w w4) := HBw.out.trans (HB4.out.mono HBw.out.size)
          go_wp2
          go_ret2
          exact ⟨X, x, by rw [HR.out, HV.out, HN.out]; rfl, by rw [HR.out]; exact HO4.out, HX4.out⟩
      | true =>
        have HCAN : Hid (canB xs ⟨ap, ab⟩ (mostN true) = (decide (nh = 0) && (decide (np < 3) && decide (nb < 2)))) := by
          show _ = _
          rw [← HNH.out, ← HNP.out, ← HNB.out]; rfl
        by_cases h1 : nh = 0
        · rw [decide_eq_false (show ¬ 0 < nh by omega)] at C4
          by_cases h2 : np < 3
          · have h2i : ¬ 3 ≤ (np : Int) := by omega
            by_cases h3 : nb < 2
            · have h3i : ¬ 2 ≤ (nb : Int) := by omega
              have hc : canB xs ⟨ap, ab⟩ (mostN true) = true := by rw [HCAN.out, decide_eq_true h1, decide_eq_true h2, decide_eq_true h3]; rfl
              clear h1 h2 h3
              have HR : Hid (askR xs ⟨ap, ab⟩ true = xs ++ [⟨ap, ab⟩]) := askR_yes ((askO_iff _ _ _).2 ⟨HWN.out, HOK.out, hc⟩)
              have HV : Hid (askO xs ⟨ap, ab⟩ true = true) := (askO_iff _ _ _).2 ⟨HWN.out, HOK.out, hc⟩
              clear hc
              go_wp2_with fail
              refine (C4.out _ HB3.out).mono ?_
              rintro e w4 ⟨rfl, hb4⟩
              have HB4 : Hid (Below W.heap.size W w4) := HB3.out.trans (hb4.mono HB3.out.size)
              have HO4 := Lib.hid (HO3.out.below hb4)
              clear hb4 k0 k1
              obtain ⟨k0, k1⟩ := ask2 (KA.out.below HB4.out KA.out.lt)
              go_wp2_with fail
              refine (C5.out _ HB4.out).mono ?_
              rintro e w5 ⟨rfl, hb5⟩
              have HB5 : Hid (Below W.heap.size W w5) := HB4.out.trans (hb5.mono HB4.out.size)
              have HO5 := Lib.hid (HO4.out.below hb5)
              clear hb5 k0 k1
              obtain ⟨k0, k1⟩ := ask2 (KA.out.below HB5.out KA.out.lt)
              go_wp2_with fail
              refine (C6.out _ HB5.out).mono ?_
              rintro e w6 ⟨rfl, hb6⟩
              have HB6 : Hid (Below W.heap.size W w6) := HB5.out.trans (hb6.mono HB5.out.size)
              have HO6 := Lib.hid (HO5.out.below hb6)
              clear hb6 k0 k1
              obtain ⟨k0, k1⟩ := ask2 (KA.out.below HB6.out KA.out.lt)
              have HX6 : Hid (Below w.heap.size w w6) := HBw.out.trans (HB6.out.mono HBw.out.size)
              go_wp2_with (at_builtin; refine wpList_app_row (K := AK) Try.underlying23 HI0.out.1 HI0.out.2.1 HI0.out.2.2.1 HI0.out.2.2.2.1 HI0.out.2.2.2.2 (by decide) rfl (.tmp 42) (.tmp 44) rfl _ w.heap.size X x xs (by rw [HN.out]; rfl) _ _ [(⟨ap, ab⟩ : AD)] rfl (HO6.out.alloc _) (one_newR AK w6 ⟨ap, ab⟩ _) (by rw [HN.out]; have := HSH.out; show n + 1 ≤ 1000000; omega) (by rw [World.size_alloc]; have := HX6.out.size; omega) (fun e => by cases e) ?_; intro v w7 hA; obtain ⟨Y, y, rfl, ho7⟩ := hA.own; have HX7 : Hid (Below w.heap.size w w7) := (HX6.out.alloc HX6.out.size _).trans hA.below; have HO7 := Lib.hid ho7; clear hA ho7; obtain ⟨m7, HM7⟩ : ∃ m, Hid ((xs ++ [(⟨ap, ab⟩ : AD)]).length = m) := ⟨_, rfl⟩; rw [HM7.out])
              go_ret2
              exact ⟨Y, y, by rw [HR.out, HV.out, HM7.out]; rfl, by rw [HR.out]; exact HO7.out, HX7.out⟩
            · have h3i : 2 ≤ (nb : Int) := by omega
              have hc : canB xs ⟨ap, ab⟩ (mostN true) = false := by rw [HCAN.out, decide_eq_false h3, Bool.and_false, Bool.and_false]
              clear h1 h2 h3
              have HR : Hid (askR xs ⟨ap, ab⟩ true = xs) := askR_can HWN.out HOK.out hc
              have HV : Hid (askO xs ⟨ap, ab⟩ true = false) := by show (winB xs && aOk _ && canB xs _ (mostN true)) = false; rw [hc, Bool.and_false]
              clear hc
              go_wp2_with fail
              refine (C4.out _ HB3.out).mono ?_
              rintro e w4 ⟨rfl, hb4⟩
              have HB4 : Hid (Below W.heap.size W w4) := HB3.out.trans (hb4.mono HB3.out.size)
              have HO4 := Lib.hid (HO3.out.below hb4)
              clear hb4 k0 k1
              obtain ⟨k0, k1⟩ := ask2 (KA.out.below HB4.out KA.out.lt)
              go_wp2_with fail
              refine (C5.out _ HB4.out).mono ?_
              rintro e w5 ⟨rfl, hb5⟩
              have HB5 : Hid (Below W.heap.size W w5) := HB4.out.trans (hb5.mono HB4.out.size)
              have HO5 := Lib.hid (HO4.out.below hb5)
              clear hb5 k0 k1
              obtain ⟨k0, k1⟩ := ask2 (KA.out.below HB5.out KA.out.lt)
              go_wp2_with fail
              refine (C6.out _ HB5.out).mono ?_
              rintro e w6 ⟨rfl, hb6⟩
              have HB6 : Hid (Below W.heap.size W w6) := HB5.out.trans (hb6.mono HB5.out.size)
              have HO6 := Lib.hid (HO5.out.below hb6)
              clear hb6 k0 k1
              obtain ⟨k0, k1⟩ := ask2 (KA.out.below HB6.out KA.out.lt)
              have HX6 : Hid (Below w.heap.size w w6) := HBw.out.trans (HB6.out.mono HBw.out.size)
              go_wp2
              go_ret2
              exact ⟨X, x, by rw [HR.out, HV.out, HN.out]; rfl, by rw [HR.out]; exact HO6.out, HX6.out⟩
          · have h2i : 3 ≤ (np : Int) := by omega
            have hc : canB xs ⟨ap, ab⟩ (mostN true) = false := by rw [HCAN.out, decide_eq_false h2, Bool.false_and, Bool.and_false]
            clear h1 h2
            have HR : Hid (askR xs ⟨ap, ab⟩ true = xs) := askR_can HWN.out HOK.out hc
            have HV : Hid (askO xs ⟨ap, ab⟩ true = false) := by show (winB xs && aOk _ && canB xs _ (mostN true)) = false; rw [hc, Bool.and_false]
            clear hc
            go_wp2_with fail
            refine (C4.out _ HB3.out).mono ?_
            rintro e w4 ⟨rfl, hb4⟩
            have HB4 : Hid (Below W.heap.size W w4) := HB3.out.trans (hb4.mono HB3.out.size)
            have HO4 := Lib.hid (HO3.out.below hb4)
            clear hb4 k0 k1
            obtain ⟨k0, k1⟩ := ask2 (KA.out.below HB4.out KA.out.lt)
            go_wp2_with fail
            refine (C5.out _ HB4.out).mono ?_
            rintro e w5 ⟨rfl, hb5⟩
            have HB5 : Hid (Below W.heap.size W w5) := HB4.out.trans (hb5.mono HB4.out.size)
            have HO5 := Lib.hid (HO4.out.below hb5)
            clear hb5 k0 k1
            obtain ⟨k0, k1⟩ := ask2 (KA.out.below HB5.out KA.out.lt)
            have HX5 : Hid (Below w.heap.size w w5) := HBw.out.trans (HB5.out.mono HBw.out.size)
            go_wp2
            go_ret2
            exact ⟨X, x, by rw [HR.out, HV.out, HN.out]; rfl, by rw [HR.out]; exact HO5.out, HX5.out⟩
        · rw [decide_eq_true (show 0 < nh by omega)] at C4
          have hc : canB xs ⟨ap, ab⟩ (mostN true) = false := by rw [HCAN.out, decide_eq_false h1, Bool.false_and]
          clear h1
          have HR : Hid (askR xs ⟨ap, ab⟩ true = xs) := askR_can HWN.out HOK.out hc
          have HV : Hid (askO xs ⟨ap, ab⟩ true = false) := by show (winB xs && aOk _ && canB xs _ (mostN true)) = false; rw [hc, Bool.and_false]
          clear hc
          go_wp2_with fail
          refine (C4.out _ HB3.out).mono ?_
          rintro e w4 ⟨rfl, hb4⟩
          have HB4 : Hid (Below W.heap.size W w4) := HB3.out.trans (hb4.mono HB3.out.size)
          have HO4 := Lib.hid (HO3.out.below hb4)
          clear hb4 k0 k1
          obtain ⟨k0, k1⟩ := ask2 (KA.out.below HB4.out KA.out.lt)
          have HX4 : Hid (Below w.heap.size w w4) := HBw.out.trans (HB4.out.mono HBw.out.size)
          go_wp2
          go_ret2
          exact ⟨X, x, by rw [HR.out, HV.out, HN.out]; rfl, by rw [HR.out]; exact HO4.out, HX4.out⟩

end Go.Proofs.Ytccadanhadakkaa
