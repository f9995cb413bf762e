/- The walk of FnForkNamedMore: it returns true and changes nothing that was there. Condition: the codes' bytes lie in memory. -/
import Derived.Test.YtheonknahkdfkaaDrawNamed
import Derived.Test.YtheonknahkdfkaaNamedMath
import Derived.Test.YtheonknahkdfkaaSame
namespace Go.Proofs.Ytheonknahkdfkaa
open Go.RowKit
set_option linter.unusedVariables false

theorem in_below {w w' : World} {A : Option Addr} {len cap : Nat} (h : In w A len cap) (hb : Below w.heap.size w w') : In w' A len cap := ⟨fun k hk => by
  obtain ⟨b, o, z, hA, hlt, hc, h0, h1⟩ := h.bytes k hk
  exact ⟨b, o, z, hA, Nat.lt_of_lt_of_le hlt hb.size, (hb.cell (p := ⟨b, o + k, none⟩) hlt).trans hc, h0, h1⟩, h.le, h.most⟩
theorem hasK_snoc (xs : List KD) (r : KD) (k : Int) : hasK (xs ++ [r]) k = (hasK xs k || (r.p == k && okK r)) := by
  unfold hasK; rw [List.any_append]; simp
theorem keys_more (xs : List KD) (r : KD) : ∀ m : Nat, (keysTo (xs ++ [r]) m).length ≤ (keysTo xs m).length + (if r.p ≤ (m : Int) then 1 else 0)
  | 0 => by unfold keysTo; simp
  | m + 1 => by
    have ih := keys_more xs r m
    unfold keysTo
    rw [List.length_append, List.length_append, hasK_snoc]
    cases h1 : hasK xs ((m : Int) + 1) with
    | true =>
      simp only [Bool.true_or, if_pos, List.length_singleton]
      split at ih <;> split <;> omega
    | false =>
      cases h2 : (r.p == (m : Int) + 1 && okK r) with
      | false =>
        simp only [Bool.false_or, Bool.false_eq_true, if_false, List.length_nil]
        split at ih <;> split <;> omega
      | true =>
        rw [Bool.and_eq_true, beq_iff_eq] at h2
        have h3 := h2.1
        simp only [Bool.false_or, if_pos, Bool.false_eq_true, if_false, List.length_singleton, List.length_nil]
        split at ih <;> split <;> omega
theorem nth_in (xs : List Int) (k : Nat) (h : k < xs.length) : nth xs k ∈ xs := by
  unfold nth
  rw [List.getD_eq_getElem?_getD, List.getElem?_eq_getElem h]
  exact List.getElem_mem h

set_option maxHeartbeats 4000000 in
set_option maxRecDepth 100000 in
theorem walkForkNamedMore (A : Option Addr) (len cap : Nat) (A_1 : Option Addr) (len1 cap1 : Nat) (w : World) (hI : In w A len cap) (hI1 : In w A_1 len1 cap1) :
    Calls Try.prog 5 #[.slice A len cap, .slice A_1 len1 cap1] w fun e w' => e = .returned (.bool true) ∧ Below w.heap.size w w' := by
  obtain ⟨i0, zz, hi0, hz0, hz1, hz2, hz3⟩ := fork_app_info
  have HI0 := Lib.hid (And.intro hi0 (And.intro hz0 (And.intro hz1 (And.intro hz2 hz3))))
  clear hi0 hz0 hz1 hz2 hz3
  have hm := hI.len_le
  have hm1 := hI1.len_le
  unfold maxLen at hm hm1
  have HI := Lib.hid hI
  have HI1 := Lib.hid hI1
  clear hI hI1
  by_cases hlen : len ≤ 1048576
  · by_cases hlen1 : len1 ≤ 1048576
    · have hd0 : decide (1048576 < len) = false := by simp; omega
      go_enter Try.func5, Try.ntmps5
      go_wp2_with fail
      refine (drawNamed_any A len cap _ HI.out).mono ?_
      rintro e w1 ⟨X, x, xs, rfl, ho1, hx5, hb1⟩
      have HB1 := Lib.hid hb1
      have HR1 := Lib.hid ho1.at_
      have HXN := Lib.hid ho1.nil_cap
      obtain ⟨Z, HZ⟩ : ∃ Z, Hid (keysTo xs 996 = Z) := ⟨_, rfl⟩
      have hz996 : Z.length ≤ 996 := by rw [← HZ.out]; exact keysTo_len xs 996
      have CI : Hid (∀ U, Below w1.heap.size w1 U → Calls Try.prog 8 #[.slice X xs.length x] U fun e w' => ∃ Y c, e = .returned (.slice Y Z.length c) ∧ IntsAt w' w'.heap.size Y Z ∧ Below U.heap.size U w') := fun U hU => by
        have h := named_list X x xs U (HR1.out.belowS hU) (by omega)
        rw [HZ.out] at h
        exact h
      have CS : Hid (∀ U, Below w1.heap.size w1 U → Calls Try.prog 9 #[.slice X xs.length x] U fun e w' => ∃ Y c, e = .returned (.slice Y Z.length c) ∧ IntsAt w' w'.heap.size Y Z ∧ Below U.heap.size U w') := fun U hU => by
        have h := snamed_any X x xs U (HR1.out.belowS hU) (by omega)
        rw [HZ.out] at h
        exact h.mono fun e w' ⟨Y, c, h1, h2, h3⟩ => ⟨Y, c, h1, h2.ints, h3⟩
      obtain ⟨n, HN⟩ : ∃ n, Hid (xs.length = n) := ⟨_, rfl⟩
      obtain ⟨zn, HZN⟩ : ∃ n, Hid (Z.length = n) := ⟨_, rfl⟩
      rw [HN.out, HZN.out] at CI CS
      rw [HN.out] at hx5 ⊢
      rw [HZN.out] at hz996
      clear ho1 hb1
      go_wp2_with fail
      refine (CI.out _ (Below.refl _ _)).mono ?_
      rintro e w2 ⟨Y, c, rfl, hy2, hb2⟩
      have HB2 := Lib.hid hb2
      have HY2 := Lib.hid hy2
      clear hb2 hy2
      go_wp2_with fail
      refine (CS.out _ HB2.out).mono ?_
      rintro e w3 ⟨V, d, rfl, hv3, hb3⟩
      have HB3 : Hid (Below w1.heap.size w1 w3) := HB2.out.trans (hb3.mono HB2.out.size)
      have HY3 := Lib.hid (HY2.out.belowS hb3)
      have HV3 := Lib.hid hv3
      have HBW3 : Hid (Below w.heap.size w w3) := HB1.out.trans (HB3.out.mono HB1.out.size)
      clear hb3 hv3
      have CE : Hid (Calls Try.prog 10 #[.slice Y zn c, .slice V zn d] w3 fun e w' => e = .returned (.bool true) ∧ ∃ q, w' = w3.drewN q) := by
        have h := same_any Y c Z V d Z w3 HY3.out HV3.out (by rw [HZN.out]; unfold maxLen; omega) (by rw [HZN.out]; unfold maxLen; omega)
        rw [decide_eq_true rfl, HZN.out] at h
        exact h
      go_wp2_with fail
      refine CE.out.mono ?_
      rintro e w' ⟨rfl, q, rfl⟩
      obtain ⟨U, HU⟩ : ∃ U, Hid (w3.drewN q = U) := ⟨_, rfl⟩
      have HBU : Hid (Below w1.heap.size w1 U) := by rw [← HU.out]; exact below_drewN HB3.out q
      have HYU : Hid (IntsAt U U.heap.size Y Z) := by rw [← HU.out]; exact HY3.out.drewN q
      have HBWU : Hid (Below w.heap.size w U) := by rw [← HU.out]; exact below_drewN HBW3.out q
      rw [HU.out]
      have HNEW : Hid (OwnRow KK (U.alloc (.cells #[] 32)) U.heap.size (some ⟨U.heap.size, 0, none⟩) 0 []) := OwnRow.new KK U
      have hrow : RowAt KK (U.alloc (.cells #[] 32)) (U.alloc (.cells #[] 32)).heap.size X xs := (HR1.out.belowS HBU.out).allocS _
      have HROW := Lib.hid hrow
      clear hrow
      go_wp2_with (at_builtin; refine wpList_app_row (K := KK) Try.underlying23 HI0.out.1 HI0.out.2.1 HI0.out.2.2.1 HI0.out.2.2.2.1 HI0.out.2.2.2.2 (by decide) rfl (.tmp 31) (.tmp 32) rfl _ U.heap.size (some ⟨U.heap.size, 0, none⟩) 0 [] rfl X x xs (by rw [HN.out]; rfl) HNEW.out HROW.out (by rw [HN.out]; simp; omega) (by simp) HXN.out ?_; intro v w5 hA; obtain ⟨X5, x5, rfl, ho5⟩ := hA.own; have hb5 := hA.below; rw [List.nil_append, HN.out])
      have hb5U : Below U.heap.size U w5 := ((Below.refl _ U).alloc (Nat.le_refl _) _).trans hb5
      rw [List.nil_append] at ho5
      have HO5 := Lib.hid ho5
      have HY5 := Lib.hid (HYU.out.belowS hb5U)
      have HB5 : Hid (Below w.heap.size w w5) := HBWU.out.trans (hb5U.mono HBWU.out.size)
      have HUS : Hid (U.heap.size ≤ w5.heap.size) := hb5U.size
      have HU5 : Hid (Below U.heap.size U w5) := hb5U
      clear hA ho5 hb5 hb5U
      go_wp2_with fail
      refine (drawForkCheck_any A_1 len1 cap1 _ (in_below HI1.out HB5.out)).mono ?_
      rintro e w6 ⟨fp, fa, fb, fc, fx, fy, fz, rfl, hb6⟩
      have HO6 := Lib.hid (HO5.out.below hb6)
      have HY6 := Lib.hid (HY5.out.belowS hb6)
      have HB6 : Hid (Below w.heap.size w w6) := HB5.out.trans (hb6.mono HB5.out.size)
      have hus6 : U.heap.size ≤ w6.heap.size := Nat.le_trans HUS.out hb6.size
      have HU6 : Hid (Below U.heap.size U w6) := HU5.out.trans (hb6.mono HU5.out.size)
      clear hb6
      obtain ⟨K, HK⟩ : ∃ K, Hid (U.heap.size = K) := ⟨_, rfl⟩
      rw [HK.out] at HO6 HU6 hus6
      go_wp2_with (at_builtin; refine wpList_app_row (K := KK) Try.underlying23 HI0.out.1 HI0.out.2.1 HI0.out.2.2.1 HI0.out.2.2.2.1 HI0.out.2.2.2.2 (by decide) rfl (.tmp 33) (.tmp 36) rfl _ K X5 x5 xs (by rw [HN.out]; rfl) _ _ [(⟨fp, fa, fb, fc, fx, fy, fz⟩ : KD)] rfl (HO6.out.alloc _) (one_newR KK w6 ⟨fp, fa, fb, fc, fx, fy, fz⟩ _) (by rw [HN.out]; show n + 1 ≤ 1000000; omega) (by rw [World.size_alloc]; omega) (fun e => by cases e) ?_; intro v w7 hA; obtain ⟨X7, x7, rfl, ho7⟩ := hA.own; have hb7 := hA.below; have HMM : Hid ((xs ++ [(⟨fp, fa, fb, fc, fx, fy, fz⟩ : KD)]).length = n + 1) := (by show _ = _; rw [List.length_append, HN.out]; rfl); rw [HMM.out])
      have hks := HB6.out.size
      have HO7 := Lib.hid ho7
      have hwk : w.heap.size ≤ K := by rw [← HK.out]; exact HBWU.out.size
      have HB7 : Hid (Below w.heap.size w w7) := (HB6.out.alloc HB6.out.size _).trans (hb7.mono hwk)
      have hb67 : Below U.heap.size U w7 := by
        rw [HK.out]
        refine (HU6.out.alloc (by omega) _).trans hb7
      have HY7 : Hid (IntsAt w7 w7.heap.size Y Z) := HYU.out.belowS (by exact hb67)
      clear hA ho7 hb7 hb67
      obtain ⟨r, HRR⟩ : ∃ r : KD, Hid ((⟨fp, fa, fb, fc, fx, fy, fz⟩ : KD) = r) := ⟨_, rfl⟩
      rw [HRR.out] at HO7 HMM
      obtain ⟨Q, HQ⟩ : ∃ Q, Hid (keysTo (xs ++ [r]) 996 = Q) := ⟨_, rfl⟩
      have hsub : ∀ v, v ∈ Z → v ∈ Q := fun v hv => by
        rw [← HZ.out] at hv
        rw [← HQ.out]
        obtain ⟨h1, h2, h3⟩ := (keysTo_mem xs 996 v).1 hv
        exact (keysTo_mem _ 996 v).2 ⟨h1, h2, by rw [hasK_snoc, h3, Bool.true_or]⟩
      have HSUB := Lib.hid hsub
      have hql : Q.length ≤ zn + 1 := by
        have h := keys_more xs r 996
        rw [HQ.out, HZ.out, HZN.out] at h
        split at h <;> omega
      have hq997 : Q.length ≤ 997 := by omega
      have CA : Hid (Calls Try.prog 8 #[.slice X7 (n + 1) x7] w7 fun e w' => ∃ Y c, e = .returned (.slice Y Q.length c) ∧ IntsAt w' w'.heap.size Y Q ∧ Below w7.heap.size w7 w') := by
        have h := named_list X7 x7 (xs ++ [r]) w7 HO7.out.at_ (by rw [HMM.out]; omega)
        rw [HQ.out, HMM.out] at h
        exact h
      obtain ⟨qn, HQN⟩ : ∃ n, Hid (Q.length = n) := ⟨_, rfl⟩
      rw [HQN.out] at CA hql hq997
      clear hsub
      go_wp2_with fail
      refine CA.out.mono ?_
      rintro e w8 ⟨P, pc, rfl, hp8, hb8⟩
      have HP8 := Lib.hid hp8
      have HY8 := Lib.hid (HY7.out.belowS hb8)
      have HB8 : Hid (Below w.heap.size w w8) := HB7.out.trans (hb8.mono HB7.out.size)
      clear hp8 hb8
      have CH : Hid (∀ v, v ∈ Z → Calls Try.prog 12 #[.slice P qn pc, .int .i64 v] w8 fun e w' => e = .returned (.bool true) ∧ w' = w8) := fun v hv => by
        have h := hasInt_any P pc Q v w8 HP8.out (by rw [HQN.out]; unfold maxLen; omega)
        rw [decide_eq_true (HSUB.out v hv), HQN.out] at h
        exact h
      go_wp2_with fail
      go_loopw [9] (fun i w' => ∃ k : Nat, k ≤ zn ∧ i = .int .i64 (k : Int) ∧ w' = w8) (fun i _ => zn - (intOf i).toNat)
      case atStart => exact ⟨0, Nat.zero_le _, rfl, rfl⟩
      case round =>
        obtain ⟨k, hk, rfl, rfl⟩ := hrel
        by_cases hkz : k < zn
        · have hkz1 : k < Z.length := by rw [HZN.out]; exact hkz
          obtain ⟨b, o, rfl, _, hc⟩ := HY8.out (by omega)
          have hck := hc k hkz1
          have hkz2 : (k : Int) < (zn : Int) := by omega
          have hk0 : (0 : Int) ≤ (k : Int) := by omega
          have CHk := Lib.hid (CH.out _ (nth_in Z k hkz1))
          obtain ⟨v, HVV⟩ : ∃ v, Hid (nth Z k = v) := ⟨_, rfl⟩
          rw [HVV.out] at hck CHk
          clear hc hkz1
          go_wp2_with fail
          refine CHk.out.mono ?_
          rintro e w' ⟨rfl, rfl⟩
          go_wp2_with fail
          go_roundw
          case rel => exact ⟨k + 1, by omega, by go_num, (by first | trivial | rfl)⟩
          case measure => simp [intOf]; omega
        · have hkz2 : k = zn := by omega
          subst hkz2
          have hwz : IntKind.i64.wrap ((k : Int) + 1) = (k : Int) + 1 := IntWalk.i64_in _ (by omega)
          have hle : decide ((qn : Int) ≤ (k : Int) + 1) = true := by simp; omega
          go_wp2
          go_ret
          exact ⟨ret_bool (by first | rfl | (simp; omega)), HB8.out⟩
    · have hd0 : decide (1048576 < len) = false := by simp; omega
      have hd1 : decide (1048576 < len1) = true := by simp; omega
      go_enter Try.func5, Try.ntmps5
      go_wp2
      go_ret
      exact ⟨rfl, Below.refl _ _⟩
  · have hd0 : decide (1048576 < len) = true := by simp; omega
    go_enter Try.func5, Try.ntmps5
    go_wp2
    go_ret
    exact ⟨rfl, Below.refl _ _⟩

end Go.Proofs.Ytheonknahkdfkaa
