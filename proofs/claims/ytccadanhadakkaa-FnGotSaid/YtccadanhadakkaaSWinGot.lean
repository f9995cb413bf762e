/- Contracts of the model's WindowGot, WindowDrop, WindowRoom: they answer as the data say, in memory of the call's own. Condition: the requests lie in memory. -/
import Derived.Test.YtccadanhadakkaaSWinValid
namespace Go.Proofs.Ytccadanhadakkaa
open Go.RowKit
set_option linter.unusedVariables false

theorem filter_step (f : AD → Bool) (xs : List AD) (k : Nat) (h : k < xs.length) : (xs.take (k + 1)).filter f = (xs.take k).filter f ++ (if f (ath xs k) = true then [ath xs k] else []) := by
  rw [take_ath xs k h, List.filter_append, List.filter_cons, List.filter_nil]
theorem filter_len (f : AD → Bool) (xs : List AD) (k : Nat) : ((xs.take k).filter f).length ≤ k := by
  have h1 := List.length_filter_le f (xs.take k)
  rw [List.length_take] at h1
  omega

set_option maxHeartbeats 4000000 in
set_option maxRecDepth 100000 in
theorem swinGot_any (A : Option Addr) (cap : Nat) (xs : List AD) (a : AD) (w : World) (hA : AsksAt w w.heap.size A cap xs) :
    Calls Try.prog 13 #[.slice A xs.length cap, askV a] w (RetAsksN w (gotR xs a) (gotN xs a)) := by
  obtain ⟨i0, zz, hi0, hz0, hz1, hz2, hz3⟩ := ask_app_info
  have HI0 := Lib.hid (And.intro hi0 (And.intro hz0 (And.intro hz1 (And.intro hz2 hz3))))
  clear hi0 hz0 hz1 hz2 hz3
  obtain ⟨ap, ab⟩ := a
  obtain ⟨W, HW⟩ : ∃ W, Hid (w.alloc (.cells #[.int .i64 ap, .int .i64 ab] 25) = W) := ⟨_, rfl⟩
  have KA : Hid (Blk W w.heap.size 25 #[.int .i64 ap, .int .i64 ab]) := by rw [← HW.out]; exact Blk.new w _ _
  have HBw : Hid (Below w.heap.size w W) := by rw [← HW.out]; exact (Below.refl _ w).alloc (Nat.le_refl _) _
  have HA := Lib.hid (hA.belowS HBw.out)
  obtain ⟨k0, k1⟩ := ask2 KA.out
  have HB0 : Hid (Below W.heap.size W W) := Below.refl _ _
  have hnil := hA.nil0
  have hcap := hA.most
  unfold maxLen at hcap
  clear hA
  have CV : Hid (∀ U, Below W.heap.size W U → Calls Try.prog 15 #[.slice A xs.length cap] U fun e w' => e = .returned (.bool (winB xs)) ∧ Below U.heap.size U w') := fun U hU => swinValid_any A cap xs U (HA.out.belowS hU)
  obtain ⟨n, HN⟩ : ∃ n, Hid (xs.length = n) := ⟨_, rfl⟩
  rw [HN.out] at CV ⊢
  go_enter Try.func13, Try.ntmps13
  go_upto_region 1 with fail
  rw [HW.out]
  cases hw : winB xs with
  | false =>
    rw [hw] at CV
    have HR : Hid (gotR xs ⟨ap, ab⟩ = []) := by show _ = _; unfold gotR; rw [hw, Bool.false_and]; rfl
    have HV : Hid (gotN xs ⟨ap, ab⟩ = -1) := by show _ = _; unfold gotN; rw [hw, Bool.false_and, Bool.false_and]; rfl
    clear hw
    go_wp2_with fail
    refine (CV.out _ HB0.out).mono ?_
    rintro e w1 ⟨rfl, hb1⟩
    have HB1 : Hid (Below W.heap.size W w1) := HB0.out.trans (hb1.mono HB0.out.size)
    clear hb1 k0 k1
    obtain ⟨k0, k1⟩ := ask2 (KA.out.below HB1.out KA.out.lt)
    have HX1 : Hid (Below w.heap.size w w1) := HBw.out.trans (HB1.out.mono HBw.out.size)
    have HBF : Hid (Below w.heap.size w (w1.alloc (.cells #[] 25))) := HX1.out.alloc HX1.out.size _
    have HOF := Lib.hid (own_new_at HX1.out)
    go_wp2
    go_ret2
    exact ⟨_, _, by rw [HR.out, HV.out]; rfl, by rw [HR.out]; exact HOF.out, HBF.out⟩
  | true =>
    rw [hw] at CV
    have HWN := Lib.hid hw
    have HSH : Hid (n ≤ 18) := (by rw [← HN.out]; exact winB_short hw)
    clear hw
    go_wp2_with fail
    refine (CV.out _ HB0.out).mono ?_
    rintro e w1 ⟨rfl, hb1⟩
    have HB1 : Hid (Below W.heap.size W w1) := HB0.out.trans (hb1.mono HB0.out.size)
    clear hb1 k0 k1
    obtain ⟨k0, k1⟩ := ask2 (KA.out.below HB1.out KA.out.lt)
    have C2 : Hid (∀ U, Below W.heap.size W U → Calls Try.prog 25 #[.agg #[.int .i64 ap, .int .i64 ab]] U fun e w' => e = .returned (.bool (aOk ⟨ap, ab⟩)) ∧ Below U.heap.size U w') := fun U _ => sask_any ⟨ap, ab⟩ U
    cases ho : aOk ⟨ap, ab⟩ with
    | false =>
      rw [ho] at C2
      have HR : Hid (gotR xs ⟨ap, ab⟩ = []) := by show _ = _; unfold gotR; rw [ho, Bool.and_false]; rfl
      have HV : Hid (gotN xs ⟨ap, ab⟩ = -1) := by show _ = _; unfold gotN; rw [ho, Bool.and_false, Bool.false_and]; rfl
      clear ho
      go_wp2_with fail
      refine (C2.out _ HB1.out).mono ?_
      rintro e w2 ⟨rfl, hb2⟩
      have HB2 : Hid (Below W.heap.size W w2) := HB1.out.trans (hb2.mono HB1.out.size)
      clear hb2 k0 k1
      obtain ⟨k0, k1⟩ := ask2 (KA.out.below HB2.out KA.out.lt)
      have HX2 : Hid (Below w.heap.size w w2) := HBw.out.trans (HB2.out.mono HBw.out.size)
      have HBF : Hid (Below w.heap.size w (w2.alloc (.cells #[] 25))) := HX2.out.alloc HX2.out.size _
      have HOF := Lib.hid (own_new_at HX2.out)
      go_wp2
      go_ret2
      exact ⟨_, _, by rw [HR.out, HV.out]; rfl, by rw [HR.out]; exact HOF.out, HBF.out⟩
    | true =>
      rw [ho] at C2
      have HOK := Lib.hid ho
      clear ho
      go_wp2_with fail
      refine (C2.out _ HB1.out).mono ?_
      rintro e w2 ⟨rfl, hb2⟩
      have HB2 : Hid (Below W.heap.size W w2) := HB1.out.trans (hb2.mono HB1.out.size)
      clear hb2 k0 k1
      obtain ⟨k0, k1⟩ := ask2 (KA.out.below HB2.out KA.out.lt)
      obtain ⟨nb, HNB⟩ : ∃ m, Hid (xs.countP (isB ab) = m) := ⟨_, rfl⟩
      have C4 : Hid (∀ U : World, Below W.heap.size W U → Calls Try.prog 26 #[.slice A n cap, .agg #[.int .i64 ap, .int .i64 ab]] U fun e w' => e = .returned (.bool (decide (0 < cH xs ⟨ap, ab⟩))) ∧ Below U.heap.size U w') := fun U hU => by
        have h := shas_any A cap xs ⟨ap, ab⟩ U (HA.out.belowS hU)
        rw [HN.out] at h
        exact h
      cases hh : decide (0 < cH xs ⟨ap, ab⟩) with
      | false =>
        rw [hh] at C4
        have HR : Hid (gotR xs ⟨ap, ab⟩ = xs) := by show _ = _; unfold gotR; rw [HWN.out, HOK.out, hh]; rfl
        have HV : Hid (gotN xs ⟨ap, ab⟩ = -1) := by show _ = _; unfold gotN; rw [HWN.out, HOK.out, hh]; rfl
        clear hh
        go_wp2_with fail
        refine (C4.out _ HB2.out).mono ?_
        rintro e w3 ⟨rfl, hb3⟩
        have HB3 : Hid (Below W.heap.size W w3) := HB2.out.trans (hb3.mono HB2.out.size)
        clear hb3 k0 k1
        obtain ⟨k0, k1⟩ := ask2 (KA.out.below HB3.out KA.out.lt)
        have HROW : Hid (RowAt AK (w3.alloc (.cells #[] 25)) (w3.alloc (.cells #[] 25)).heap.size A xs) := ((HA.out.belowS HB3.out).allocS _).row
        have HNEW : Hid (OwnRow AK (w3.alloc (.cells #[] 25)) w3.heap.size (some ⟨w3.heap.size, 0, none⟩) 0 []) := OwnRow.new AK w3
        go_wp2_with (at_builtin; refine wpList_app_row (K := AK) Try.underlying23 HI0.out.1 HI0.out.2.1 HI0.out.2.2.1 HI0.out.2.2.2.1 HI0.out.2.2.2.2 (by decide) rfl (.tmp 21) (.tmp 22) rfl _ w3.heap.size (some ⟨w3.heap.size, 0, none⟩) 0 [] rfl A cap xs (by rw [HN.out]; rfl) HNEW.out HROW.out (by rw [HN.out]; have := HSH.out; simp; omega) (by simp) hnil ?_; intro v w4 hA; obtain ⟨X, x, rfl, ho2⟩ := hA.own; have hbel := hA.below; rw [List.nil_append, HN.out]; rw [List.nil_append] at ho2; have HB4 : Hid (Below W.heap.size W w4) := HB3.out.trans ((((Below.refl _ w3).alloc (Nat.le_refl _) _).trans hbel).mono HB3.out.size); have HO4 : Hid (OwnRow AK w4 w.heap.size X x xs) := ho2.base_le (Nat.le_trans HBw.out.size HB3.out.size); clear hA ho2 hbel k0 k1)
        obtain ⟨k0, k1⟩ := ask2 (KA.out.below HB4.out KA.out.lt)
        have HX4 : Hid (Below w.heap.size w w4) := HBw.out.trans (HB4.out.mono HBw.out.size)
        (try go_wp2)
        go_ret2
        exact ⟨X, x, by rw [HR.out, HV.out, HN.out]; rfl, by rw [HR.out]; exact HO4.out, HX4.out⟩
      | true =>
        rw [hh] at C4
        have HR : Hid (gotR xs ⟨ap, ab⟩ = xs.filter (fun x => !isB ab x)) := by show _ = _; unfold gotR; rw [HWN.out, HOK.out, hh]; rfl
        have HV : Hid (gotN xs ⟨ap, ab⟩ = (nb : Int) - 1) := by
          show _ = _
          unfold gotN; rw [HWN.out, HOK.out, hh]
          show ((xs.countP (isB ab) : Nat) : Int) - 1 = _
          rw [HNB.out]
        clear hh
        go_wp2_with fail
        refine (C4.out _ HB2.out).mono ?_
        rintro e w3 ⟨rfl, hb3⟩
        have HB3 : Hid (Below W.heap.size W w3) := HB2.out.trans (hb3.mono HB2.out.size)
        clear hb3 k0 k1
        obtain ⟨k0, k1⟩ := ask2 (KA.out.below HB3.out KA.out.lt)
        clear k0 k1
        obtain ⟨Wc, HWc⟩ : ∃ Q0, Hid (w3.alloc (.cells #[] 25) = Q0) := ⟨_, rfl⟩
        have HBc : Hid (Below W.heap.size W Wc) := by rw [← HWc.out]; exact HB3.out.alloc HB3.out.size _
        have HOc : Hid (OwnRow AK Wc W.heap.size (some ⟨w3.heap.size, 0, none⟩) 0 []) := by rw [← HWc.out]; exact (OwnRow.new AK w3).base_le HB3.out.size
        go_upto_region 6 with fail
        rw [HWc.out]
        go_wp2
        go_loopw [6, 7] (fun s i wr => ∃ (k m x : Nat) (X : Option Addr), k ≤ n ∧ m ≤ k ∧ s = .slice X m x ∧ i = .int .i64 (k : Int) ∧ Hid (Below W.heap.size W wr) ∧ Hid (OwnRow AK wr W.heap.size X x ((xs.take k).filter (fun x => !isB ab x))) ∧ Hid (((xs.take k).filter (fun x => !isB ab x)).length = m)) (fun _ i _ => n - (intOf i).toNat)
        case atStart => exact ⟨0, 0, 0, _, Nat.zero_le _, Nat.le_refl _, rfl, rfl, HBc, HOc, rfl⟩
        case round =>
          obtain ⟨k, m, x, X, hk, hm, rfl, rfl, HBr, HO, HM⟩ := hrel
          obtain ⟨k0, k1⟩ := ask2 (KA.out.below HBr.out KA.out.lt)
          by_cases hlt : k < n
          · have hkz : k < xs.length := by rw [HN.out]; exact hlt
            have hj := HA.out.belowS HBr.out
            obtain ⟨b, o, rfl⟩ := hj.row.some_ (by omega)
            obtain ⟨c0, c1⟩ := ask_cells hj.row k hkz
            obtain ⟨xp, HRI⟩ : ∃ x, Hid ((ath xs k).p = x) := ⟨_, rfl⟩
            obtain ⟨xb, HRT⟩ : ∃ x, Hid ((ath xs k).b = x) := ⟨_, rfl⟩
            have HONE : Hid (ath xs k = ⟨xp, xb⟩) := by
              show _ = _
              rw [← HRI.out, ← HRT.out]
            have HIS : Hid (isB ab (ath xs k) = (xb == ab)) := by show _ = _; rw [← HRT.out]; rfl
            have HFS := Lib.hid (filter_step (fun x => !isB ab x) xs k hkz)
            rw [HRI.out] at c0
            rw [HRT.out] at c1
            have hk0 : (0 : Int) ≤ (k : Int) := by omega
            have hki : (k : Int) < (n : Int) := by omega
            have hbz : W.heap.size ≤ wr.heap.size := HBr.out.size
            have hkc : k ≤ 18 := by have := HSH.out; omega
            clear hkz hj
            by_cases he : xb = ab
            · have HS2 : Hid ((xs.take (k + 1)).filter (fun x => !isB ab x) = (xs.take k).filter (fun x => !isB ab x)) := by
                show _ = _
                rw [HFS.out, HIS.out, he, beq_self_eq_true]
                exact List.append_nil _
              rw [he] at c1
              clear he
              go_wp2_with fail
              go_quiet (fail)
              go_wp2
              go_roundw
              case rel => exact ⟨k + 1, m, x, X, by omega, by omega, rfl, by go_num, below_drewN HBr.out _, by show OwnRow _ _ _ _ _ _; rw [HS2.out]; exact HO.out.drewN _, by show _ = _; rw [HS2.out]; exact HM.out⟩
              case measure => simp [intOf]; omega
            · have HS2 : Hid ((xs.take (k + 1)).filter (fun x => !isB ab x) = (xs.take k).filter (fun x => !isB ab x) ++ [(⟨xp, xb⟩ : AD)]) := by
                show _ = _
                rw [HFS.out, HIS.out, beq_eq_false_iff_ne.2 he, HONE.out]; rfl
              go_wp2_with fail
              go_quiet (fail)
              go_wp2_with (at_builtin; refine wpList_app_row (K := AK) Try.underlying23 HI0.out.1 HI0.out.2.1 HI0.out.2.2.1 HI0.out.2.2.2.1 HI0.out.2.2.2.2 (by decide) rfl (.tmp 39) (.tmp 44) rfl _ W.heap.size X x ((xs.take k).filter (fun x => !isB ab x)) (by rw [HM.out]; rfl) _ _ [(⟨xp, xb⟩ : AD)] rfl ((HO.out.drewN _).alloc _) (one_newR AK _ ⟨xp, xb⟩ _) (by rw [HM.out]; show m + 1 ≤ 1000000; omega) (by simp; omega) (fun e => by cases e) ?_; intro v w7 hA; obtain ⟨Y, y, rfl, ho7⟩ := hA.own; have HB7 : Hid (Below W.heap.size W w7) := (((below_drewN HBr.out _).alloc hbz _).trans hA.below); have HO7 : Hid (OwnRow AK w7 W.heap.size Y y ((xs.take (k + 1)).filter (fun x => !isB ab x))) := (by rw [HS2.out]; exact ho7); have HL7 : Hid (((xs.take k).filter (fun x => !isB ab x) ++ [(⟨xp, xb⟩ : AD)]).length = m + 1) := (by show _ = _; rw [List.length_append, HM.out]; rfl); have HL8 : Hid (((xs.take (k + 1)).filter (fun x => !isB ab x)).length = m + 1) := (by rw [HS2.out]; exact HL7.out); rw [HL7.out]; clear hA ho7)
              go_roundw
              case rel => exact ⟨k + 1, m + 1, y, Y, by omega, by omega, rfl, by go_num, HB7, HO7, HL8⟩
              case measure => simp [intOf]; omega
          · have hkn : k = n := by omega
            subst hkn
            have HTK : Hid ((xs.take k).filter (fun x => !isB ab x) = xs.filter (fun x => !isB ab x)) := by
              show _ = _
              rw [← HN.out, List.take_length]
            rw [HTK.out] at HO HM
            have C6 := Lib.hid (sblock_any A cap xs ab wr (HA.out.belowS HBr.out))
            rw [HN.out, HNB.out] at C6
            have hnb : nb ≤ 18 := by
              have h1 := count_le (isB ab) xs
              rw [HNB.out, HN.out] at h1
              have := HSH.out; omega
            have hw1 : IntKind.i64.wrap ((nb : Int) - 1) = (nb : Int) - 1 := IntWalk.i64_in _ (by omega)
            go_wp2_with fail
            refine C6.out.mono ?_
            rintro e w9 ⟨rfl, hb9⟩
            have HO9 := Lib.hid ((HO.out.below hb9).base_le HBw.out.size)
            have HX9 : Hid (Below w.heap.size w w9) := HBw.out.trans ((HBr.out.trans (hb9.mono HBr.out.size)).mono HBw.out.size)
            clear hb9
            go_wp2
            go_ret2
            exact ⟨X, x, by rw [HR.out, HV.out, HM.out]; rfl, by rw [HR.out]; exact HO9.out, HX9.out⟩





end Go.Proofs.Ytccadanhadakkaa
