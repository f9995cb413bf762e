/- The walk of FnForkNamed: it returns true and changes nothing that was there. Condition: the code's bytes lie in memory. -/
import Derived.Test.YtheonknahkdfkaaDrawNamed
import Derived.Test.YtheonknahkdfkaaNamedMath
import Derived.Test.YtheonknahkdfkaaSame
namespace Go.Proofs.Ytheonknahkdfkaa
open Go.RowKit
set_option linter.unusedVariables false

theorem nth_in (xs : List Int) (k : Nat) (h : k < xs.length) : nth xs k ∈ xs := by
  unfold nth
  rw [List.getD_eq_getElem?_getD, List.getElem?_eq_getElem h]
  exact List.getElem_mem h

set_option maxHeartbeats 16000000 in
set_option maxRecDepth 100000 in
theorem walkForkNamed (A : Option Addr) (len cap : Nat) (w : World) (hI : In w A len cap) :
    Calls Try.prog 3 #[.slice A len cap] w fun e w' => e = .returned (.bool true) ∧ Below w.heap.size w w' := by
  have hm := hI.len_le
  unfold maxLen at hm
  have HI := Lib.hid hI
  clear hI
  by_cases hlen : len ≤ 1048576
  · go_enter Try.func3, Try.ntmps3
    go_wp2_with fail
    refine (drawNamed_any A len cap _ HI.out).mono ?_
    rintro e w1 ⟨X, x, xs, rfl, ho1, hx5, hb1⟩
    have HB1 := Lib.hid hb1
    have HR1 := Lib.hid ho1.at_
    have HXN := Lib.hid ho1.nil_cap
    obtain ⟨Z, HZ⟩ : ∃ Z, Hid (keysTo xs 996 = Z) := ⟨_, rfl⟩
    have hz996 : Z.length ≤ 996 := by rw [← HZ.out]; exact keysTo_len xs 996
    have CI : Hid (∀ U, Below w1.heap.size w1 U → Calls Try.prog 8 #[.slice X xs.length x] U fun e w' => ∃ Y c, e = .returned (.slice Y Z.length c) ∧ IntsAt w' w'.heap.size Y Z ∧ Below U.heap.size U w') := fun U hU => by
      have h := named_list X x xs U (HR1.out.belowS hU) (by omega)
      rw [HZ.out] at h
      exact h
    have CS : Hid (∀ U, Below w1.heap.size w1 U → Calls Try.prog 9 #[.slice X xs.length x] U fun e w' => ∃ Y c, e = .returned (.slice Y Z.length c) ∧ IntsAt w' w'.heap.size Y Z ∧ Below U.heap.size U w') := fun U hU => by
      have h := snamed_any X x xs U (HR1.out.belowS hU) (by omega)
      rw [HZ.out] at h
      exact h.mono fun e w' ⟨Y, c, h1, h2, h3⟩ => ⟨Y, c, h1, h2.ints, h3⟩
    obtain ⟨n, HN⟩ : ∃ n, Hid (xs.length = n) := ⟨_, rfl⟩
    obtain ⟨zn, HZN⟩ : ∃ n, Hid (Z.length = n) := ⟨_, rfl⟩
    rw [HN.out, HZN.out] at CI CS
    rw [HN.out] at hx5 ⊢
    rw [HZN.out] at hz996
    clear ho1 hb1
    go_wp2_with fail
    refine (CI.out _ (Below.refl _ _)).mono ?_
    rintro e w2 ⟨Y, c, rfl, hy2, hb2⟩
    have HB2 := Lib.hid hb2
    have HY2 := Lib.hid hy2
    clear hb2 hy2
    go_wp2_with fail
    refine (CS.out _ HB2.out).mono ?_
    rintro e w3 ⟨V, d, rfl, hv3, hb3⟩
    have HB3 : Hid (Below w1.heap.size w1 w3) := HB2.out.trans (hb3.mono HB2.out.size)
    have HY3 := Lib.hid (HY2.out.belowS hb3)
    have HV3 := Lib.hid hv3
    have HBW3 : Hid (Below w.heap.size w w3) := HB1.out.trans (HB3.out.mono HB1.out.size)
    clear hb3 hv3
    have CE : Hid (Calls Try.prog 10 #[.slice Y zn c, .slice V zn d] w3 fun e w' => e = .returned (.bool true) ∧ ∃ q, w' = w3.drewN q) := by
      have h := same_any Y c Z V d Z w3 HY3.out HV3.out (by rw [HZN.out]; unfold maxLen; omega) (by rw [HZN.out]; unfold maxLen; omega)
      rw [decide_eq_true rfl, HZN.out] at h
      exact h
    go_wp2_with fail
    refine CE.out.mono ?_
    rintro e w' ⟨rfl, q, rfl⟩
    obtain ⟨U, HU⟩ : ∃ U, Hid (w3.drewN q = U) := ⟨_, rfl⟩
    have HBU : Hid (Below w1.heap.size w1 U) := by rw [← HU.out]; exact below_drewN HB3.out q
    have HYU : Hid (IntsAt U U.heap.size Y Z) := by rw [← HU.out]; exact HY3.out.drewN q
    have HBWU : Hid (Below w.heap.size w U) := by rw [← HU.out]; exact below_drewN HBW3.out q
    rw [HU.out]
    have HRU : Hid (RowAt KK U U.heap.size X xs) := HR1.out.belowS HBU.out
    have HMEM : Hid (∀ j, j < xs.length → okK (kth xs j) = true → (kth xs j).p ∈ Z) := fun j hj hok => by
      have hh : hasK xs (kth xs j).p = true := by
        unfold hasK
        rw [List.any_eq_true]
        refine ⟨kth xs j, ?_, by rw [hok]; simp⟩
        have e := kth_get xs j hj
        exact List.mem_of_getElem? e
      rw [← HZ.out]
      exact (keysTo_mem xs 996 _).2 ⟨(hasK_range hh).1, (hasK_range hh).2, hh⟩
    have HALL : Hid (∀ v, v ∈ Z → hasK xs v = true) := fun v hv => by
      rw [← HZ.out] at hv
      exact ((keysTo_mem xs 996 v).1 hv).2.2
    have HUP : Hid (∀ j, j + 1 < Z.length → nth Z j < nth Z (j + 1)) := fun j hj => by
      have h := keysTo_up xs 996
      rw [HZ.out] at h
      have h2 := (List.pairwise_iff_getElem.1 h) j (j + 1) (by omega) hj (by omega)
      unfold nth
      rw [List.getD_eq_getElem?_getD, List.getD_eq_getElem?_getD, List.getElem?_eq_getElem (by omega : j < Z.length), List.getElem?_eq_getElem hj]
      exact h2
    have CH : Hid (∀ W v, Below U.heap.size U W → v ∈ Z → Calls Try.prog 12 #[.slice Y zn c, .int .i64 v] W fun e w' => e = .returned (.bool true) ∧ w' = W) := fun W v hW hv => by
      have h := hasInt_any Y c Z v W (HYU.out.belowS hW) (by rw [HZN.out]; unfold maxLen; omega)
      rw [decide_eq_true hv, HZN.out] at h
      exact h
    go_wp2_with fail
    go_loopw [6] (fun i w' => ∃ j : Nat, j ≤ n ∧ i = .int .i64 (j : Int) ∧ Hid (Below U.heap.size U w')) (fun i _ => n - (intOf i).toNat)
    case atStart => exact ⟨0, Nat.zero_le _, rfl, Below.refl _ _⟩
    case round =>
      obtain ⟨j, hj, rfl, HBr⟩ := hrel
      by_cases hjn : j < n
      · have hjx : j < xs.length := by rw [HN.out]; exact hjn
        obtain ⟨b, o, rfl⟩ := HRU.out.some_ (by omega)
        have HJX := Lib.hid hjx
        have HQ : Hid (∀ W, Below U.heap.size U W → RowAt KK W W.heap.size (some ⟨b, o, none⟩) xs) := fun W hW => HRU.out.belowS hW
        have HMJ := Lib.hid (HMEM.out j hjx)
        obtain ⟨q0, q1, q2, q3, q4, q5, q6⟩ := fork_seven (HQ.out _ HBr.out) j HJX.out
        obtain ⟨r, HRK⟩ : ∃ r, Hid (kth xs j = r) := ⟨_, rfl⟩
        rw [HRK.out] at q0 q1 q2 q3 q4 q5 q6 HMJ
        have hjn2 : (j : Int) < (n : Int) := by omega
        have hj0 : (0 : Int) ≤ (j : Int) := by omega
        clear hjx
        go_wp2_with fail
        refine (forkCheck_any r.p r.a r.b r.c r.x r.y r.z _).mono ?_
        rintro e w5 ⟨rfl, hb5⟩
        have HB5 : Hid (Below U.heap.size U w5) := HBr.out.trans (hb5.mono HBr.out.size)
        clear hb5 q0 q1 q2 q3 q4 q5 q6
        obtain ⟨q0, q1, q2, q3, q4, q5, q6⟩ := fork_seven (HQ.out _ HB5.out) j HJX.out
        rw [HRK.out] at q0 q1 q2 q3 q4 q5 q6
        cases hok : forkB r.p r.a r.b r.c r.x r.y r.z with
        | false =>
          clear hok
          go_wp2_with fail
          go_roundw
          case rel => exact ⟨j + 1, by omega, by go_num, HB5⟩
          case measure => simp [intOf]; omega
        | true =>
          have CHk := Lib.hid (CH.out w5 r.p HB5.out (HMJ.out hok))
          clear hok
          go_wp2_with fail
          refine CHk.out.mono ?_
          rintro e w' ⟨rfl, rfl⟩
          go_wp2_with fail
          go_roundw
          case rel => exact ⟨j + 1, by omega, by go_num, HB5⟩
          case measure => simp [intOf]; omega
      · go_wp2_with fail
        go_loopw [7] (fun i w' => ∃ k : Nat, k ≤ zn ∧ i = .int .i64 (k : Int) ∧ Hid (Below U.heap.size U w')) (fun i _ => zn - (intOf i).toNat)
        case atStart => exact ⟨0, Nat.zero_le _, rfl, HBr⟩
        case round =>
          clear hjn hj HBr
          obtain ⟨k, hk, rfl, HBk⟩ := hrel
          by_cases hkz : k < zn
          · have hkz1 : k < Z.length := by rw [HZN.out]; exact hkz
            have HKZ := Lib.hid hkz1
            obtain ⟨b2, o2, rfl, _, _⟩ := HYU.out (by omega)
            have hzp : 0 < Z.length := by omega
            have HCK : Hid (∀ W, Below U.heap.size U W → ∀ i, i < Z.length → W.cell? ⟨b2, o2 + i, none⟩ = some (.int .i64 (nth Z i))) := fun W hW i hi => (IntsAt.lt (HYU.out.belowS hW) hzp).2 i hi
            clear hzp
            have HAV := Lib.hid (HALL.out _ (nth_in Z k hkz1))
            obtain ⟨v, HVV⟩ : ∃ v, Hid (nth Z k = v) := ⟨_, rfl⟩
            rw [HVV.out] at HAV
            have hkz2 : (k : Int) < (zn : Int) := by omega
            have hk0 : (0 : Int) ≤ (k : Int) := by omega
            clear hkz1
            go_wp2_with fail
            go_loopw [8, 9] (fun p i w' => ∃ j : Nat, j ≤ n ∧ p = .bool (hasK (xs.take j) v) ∧ i = .int .i64 (j : Int) ∧ Hid (Below U.heap.size U w')) (fun _ i _ => n - (intOf i).toNat)
            case atStart => exact ⟨0, Nat.zero_le _, by rw [List.take_zero]; rfl, rfl, HBk⟩
            case round =>
              obtain ⟨j, hj, rfl, rfl, HBr⟩ := hrel
              by_cases hjn : j < n
              · have hjx : j < xs.length := by rw [HN.out]; exact hjn
                obtain ⟨b, o, rfl⟩ := HRU.out.some_ (by omega)
                have HST := Lib.hid (hasK_step xs v j hjx)
                have HJX := Lib.hid hjx
                have HQ : Hid (∀ W, Below U.heap.size U W → RowAt KK W W.heap.size (some ⟨b, o, none⟩) xs) := fun W hW => HRU.out.belowS hW
                obtain ⟨q0, q1, q2, q3, q4, q5, q6⟩ := fork_seven (HQ.out _ HBr.out) j HJX.out
                obtain ⟨r, HRK⟩ : ∃ r, Hid (kth xs j = r) := ⟨_, rfl⟩
                rw [HRK.out] at q0 q1 q2 q3 q4 q5 q6 HST
                have hck := HCK.out _ HBr.out k HKZ.out
                rw [HVV.out] at hck
                have hjn2 : (j : Int) < (n : Int) := by omega
                have hj0 : (0 : Int) ≤ (j : Int) := by omega
                have F9 : Hid (∀ W, Below U.heap.size U W → W.cell? ⟨b, o + j * 7, none⟩ = some (.int .i64 r.p) ∧ W.cell? ⟨b, o + j * 7 + 1, none⟩ = some (.int .i64 r.a) ∧ W.cell? ⟨b, o + j * 7 + 2, none⟩ = some (.int .i64 r.b) ∧ W.cell? ⟨b, o + j * 7 + 3, none⟩ = some (.int .i64 r.c) ∧ W.cell? ⟨b, o + j * 7 + 4, none⟩ = some (.int .i64 r.x) ∧ W.cell? ⟨b, o + j * 7 + 5, none⟩ = some (.int .i64 r.y) ∧ W.cell? ⟨b, o + j * 7 + 6, none⟩ = some (.int .i64 r.z) ∧ W.cell? ⟨b2, o2 + k, none⟩ = some (.int .i64 v)) := fun W hW => by
                  obtain ⟨q0, q1, q2, q3, q4, q5, q6⟩ := fork_seven (HQ.out _ hW) j HJX.out
                  rw [HRK.out] at q0 q1 q2 q3 q4 q5 q6
                  have hck := HCK.out _ hW k HKZ.out
                  rw [HVV.out] at hck
                  exact ⟨q0, q1, q2, q3, q4, q5, q6, hck⟩
                clear hjx
                cases hf : hasK (xs.take j) v with
                | true =>
                  have HS : Hid (hasK (xs.take (j + 1)) v = true) := by show _ = _; rw [HST.out, hf]; rfl
                  clear hf
                  (try go_wp2_with fail)
                  refine wp_region_held_drew (S := (fun w' => w'.cell? ⟨b, o + j * 7, none⟩ = some (.int .i64 r.p) ∧ w'.cell? ⟨b, o + j * 7 + 1, none⟩ = some (.int .i64 r.a) ∧ w'.cell? ⟨b, o + j * 7 + 2, none⟩ = some (.int .i64 r.b) ∧ w'.cell? ⟨b, o + j * 7 + 3, none⟩ = some (.int .i64 r.c) ∧ w'.cell? ⟨b, o + j * 7 + 4, none⟩ = some (.int .i64 r.x) ∧ w'.cell? ⟨b, o + j * 7 + 5, none⟩ = some (.int .i64 r.y) ∧ w'.cell? ⟨b, o + j * 7 + 6, none⟩ = some (.int .i64 r.z) ∧ w'.cell? ⟨b2, o2 + k, none⟩ = some (.int .i64 v))) (by kernel_rfl) (⟨q0, q1, q2, q3, q4, q5, q6, hck⟩) (fun hHeld => ?_)
                  refine wpAnyH_take (i := 0) (v := ?zv190001) rfl (by kernel_rfl) (by kernel_rfl) (by kernel_rfl) (fun _ _ _ h => h) (Or.inl ⟨by kernel_rfl, ?zy190001⟩) (by assumption) ?zr190001
                  case zy190001 => (intro w hSw; (try dsimp only at hSw); go_simp; try with_reducible rfl)
                  change wpAnyH _ _ _ _ _ _ _ (Act.put _ (some 59) _) _
                  simp only [Act.put, List.setIfInBounds_toArray, List.set_cons_zero, List.set_cons_succ]
                  refine wpAnyH_take (i := 1) (v := ?zv190002) rfl (by kernel_rfl) (by kernel_rfl) (by kernel_rfl) (fun _ _ _ h => h) (Or.inl ⟨by kernel_rfl, ?zy190002⟩) (by assumption) ?zr190002
                  case zy190002 => (intro w hSw; (try dsimp only at hSw); go_simp; try with_reducible rfl)
                  change wpAnyH _ _ _ _ _ _ _ (Act.put _ (some 60) _) _
                  simp only [Act.put, List.setIfInBounds_toArray, List.set_cons_zero, List.set_cons_succ]
                  refine wpAnyH_take (i := 2) (v := undef) rfl (by kernel_rfl) (by kernel_rfl) (by kernel_rfl) (fun _ _ _ h => h) (Or.inr ⟨by kernel_rfl, rfl⟩) (by assumption) ?_
                  change wpAnyH _ _ _ _ _ _ _ (Act.put _ (some 61) _) _
                  simp only [Act.put, List.setIfInBounds_toArray, List.set_cons_zero, List.set_cons_succ]
                  refine wpAnyH_take (i := 3) (v := undef) rfl (by kernel_rfl) (by kernel_rfl) (by kernel_rfl) (fun _ _ _ h => h) (Or.inr ⟨by kernel_rfl, rfl⟩) (by assumption) ?_
                  change wpAnyH _ _ _ _ _ _ _ (Act.put _ (some 62) _) _
                  simp only [Act.put, List.setIfInBounds_toArray, List.set_cons_zero, List.set_cons_succ]
                  refine wpAnyH_take (i := 4) (v := undef) rfl (by kernel_rfl) (by kernel_rfl) (by kernel_rfl) (fun _ _ _ h => h) (Or.inr ⟨by kernel_rfl, rfl⟩) (by assumption) ?_
                  change wpAnyH _ _ _ _ _ _ _ (Act.put _ (some 63) _) _
                  simp only [Act.put, List.setIfInBounds_toArray, List.set_cons_zero, List.set_cons_succ]
                  refine wpAnyH_take (i := 5) (v := undef) rfl (by kernel_rfl) (by kernel_rfl) (by kernel_rfl) (fun _ _ _ h => h) (Or.inr ⟨by kernel_rfl, rfl⟩) (by assumption) ?_
                  change wpAnyH _ _ _ _ _ _ _ (Act.put _ (some 64) _) _
                  simp only [Act.put, List.setIfInBounds_toArray, List.set_cons_zero, List.set_cons_succ]
                  refine wpAnyH_take (i := 6) (v := undef) rfl (by kernel_rfl) (by kernel_rfl) (by kernel_rfl) (fun _ _ _ h => h) (Or.inr ⟨by kernel_rfl, rfl⟩) (by assumption) ?_
                  change wpAnyH _ _ _ _ _ _ _ (Act.put _ (some 65) _) _
                  simp only [Act.put, List.setIfInBounds_toArray, List.set_cons_zero, List.set_cons_succ]
                  refine wpAnyH_take (i := 7) (v := undef) rfl (by kernel_rfl) (by kernel_rfl) (by kernel_rfl) (fun _ _ _ h => h) (Or.inr ⟨by kernel_rfl, rfl⟩) (by assumption) ?_
                  change wpAnyH _ _ _ _ _ _ _ (Act.put _ (some 66) _) _
                  simp only [Act.put, List.setIfInBounds_toArray, List.set_cons_zero, List.set_cons_succ]
                  refine wpAnyH_take (i := 8) (v := undef) rfl (by kernel_rfl) (by kernel_rfl) (by kernel_rfl) (fun _ _ _ h => h) (Or.inr ⟨by kernel_rfl, rfl⟩) (by assumption) ?_
                  change wpAnyH _ _ _ _ _ _ _ (Act.put _ (some 67) _) _
                  simp only [Act.put, List.setIfInBounds_toArray, List.set_cons_zero, List.set_cons_succ]
                  refine wpAnyH_take (i := 9) (v := undef) rfl (by kernel_rfl) (by kernel_rfl) (by kernel_rfl) (fun _ _ _ h => h) (Or.inr ⟨by kernel_rfl, rfl⟩) (by assumption) ?_
                  change wpAnyH _ _ _ _ _ _ _ (Act.put _ (some 68) _) _
                  simp only [Act.put, List.setIfInBounds_toArray, List.set_cons_zero, List.set_cons_succ]
                  refine wpAnyH_take (i := 10) (v := undef) rfl (by kernel_rfl) (by kernel_rfl) (by kernel_rfl) (fun _ _ _ h => h) (Or.inr ⟨by kernel_rfl, rfl⟩) (by assumption) ?_
                  change wpAnyH _ _ _ _ _ _ _ (Act.put _ (some 69) _) _
                  simp only [Act.put, List.setIfInBounds_toArray, List.set_cons_zero, List.set_cons_succ]
                  refine wpAnyH_take (i := 11) (v := undef) rfl (by kernel_rfl) (by kernel_rfl) (by kernel_rfl) (fun _ _ _ h => h) (Or.inr ⟨by kernel_rfl, rfl⟩) (by assumption) ?_
                  change wpAnyH _ _ _ _ _ _ _ (Act.put _ (some 70) _) _
                  simp only [Act.put, List.setIfInBounds_toArray, List.set_cons_zero, List.set_cons_succ]
                  refine wpAnyH_take (i := 12) (v := undef) rfl (by kernel_rfl) (by kernel_rfl) (by kernel_rfl) (fun _ _ _ h => h) (Or.inr ⟨by kernel_rfl, rfl⟩) (by assumption) ?_
                  change wpAnyH _ _ _ _ _ _ _ (Act.put _ (some 71) _) _
                  simp only [Act.put, List.setIfInBounds_toArray, List.set_cons_zero, List.set_cons_succ]
                  refine wpAnyH_take (i := 13) (v := undef) rfl (by kernel_rfl) (by kernel_rfl) (by kernel_rfl) (fun _ _ _ h => h) (Or.inr ⟨by kernel_rfl, rfl⟩) (by assumption) ?_
                  change wpAnyH _ _ _ _ _ _ _ (Act.put _ (some 72) _) _
                  simp only [Act.put, List.setIfInBounds_toArray, List.set_cons_zero, List.set_cons_succ]
                  refine wpAnyH_take (i := 14) (v := undef) rfl (by kernel_rfl) (by kernel_rfl) (by kernel_rfl) (fun _ _ _ h => h) (Or.inr ⟨by kernel_rfl, rfl⟩) (by assumption) ?_
                  change wpAnyH _ _ _ _ _ _ _ (Act.put _ (some 73) _) _
                  simp only [Act.put, List.setIfInBounds_toArray, List.set_cons_zero, List.set_cons_succ]
                  refine wpAnyH_take (i := 15) (v := undef) rfl (by kernel_rfl) (by kernel_rfl) (by kernel_rfl) (fun _ _ _ h => h) (Or.inr ⟨by kernel_rfl, rfl⟩) (by assumption) ?_
                  change wpAnyH _ _ _ _ _ _ _ (Act.put _ (some 74) _) _
                  simp only [Act.put, List.setIfInBounds_toArray, List.set_cons_zero, List.set_cons_succ]
                  refine wpAnyH_take (i := 16) (v := undef) rfl (by kernel_rfl) (by kernel_rfl) (by kernel_rfl) (fun _ _ _ h => h) (Or.inr ⟨by kernel_rfl, rfl⟩) (by assumption) ?_
                  change wpAnyH _ _ _ _ _ _ _ (Act.put _ (some 75) _) _
                  simp only [Act.put, List.setIfInBounds_toArray, List.set_cons_zero, List.set_cons_succ]
                  refine wpAnyH_take (i := 17) (v := undef) rfl (by kernel_rfl) (by kernel_rfl) (by kernel_rfl) (fun _ _ _ h => h) (Or.inr ⟨by kernel_rfl, rfl⟩) (by assumption) ?_
                  change wpAnyH _ _ _ _ _ _ _ (Act.put _ (some 76) _) _
                  simp only [Act.put, List.setIfInBounds_toArray, List.set_cons_zero, List.set_cons_succ]
                  refine wpAnyH_take (i := 18) (v := undef) rfl (by kernel_rfl) (by kernel_rfl) (by kernel_rfl) (fun _ _ _ h => h) (Or.inr ⟨by kernel_rfl, rfl⟩) (by assumption) ?_
                  change wpAnyH _ _ _ _ _ _ _ (Act.put _ (some 77) _) _
                  simp only [Act.put, List.setIfInBounds_toArray, List.set_cons_zero, List.set_cons_succ]
                  refine wpAnyH_take (i := 19) (v := ?zv190003) rfl (by kernel_rfl) (by kernel_rfl) (by kernel_rfl) (fun _ _ _ h => h) (Or.inl ⟨by kernel_rfl, ?zy190003⟩) (by assumption) ?zr190003
                  case zy190003 => (intro w hSw; (try dsimp only at hSw); go_simp; try with_reducible rfl)
                  change wpAnyH _ _ _ _ _ _ _ (Act.put _ (some 78) _) _
                  simp only [Act.put, List.setIfInBounds_toArray, List.set_cons_zero, List.set_cons_succ]
                  refine wpAnyH_take (i := 20) (v := ?zv190004) rfl (by kernel_rfl) (by kernel_rfl) (by kernel_rfl) (fun _ _ _ h => h) (Or.inl ⟨by kernel_rfl, ?zy190004⟩) (by assumption) ?zr190004
                  case zy190004 => (intro w hSw; (try dsimp only at hSw); go_simp; try with_reducible rfl)
                  change wpAnyH _ _ _ _ _ _ _ (Act.put _ (some 8) _) _
                  simp only [Act.put, List.setIfInBounds_toArray, List.set_cons_zero, List.set_cons_succ]
                  refine wpAnyH_done (by kernel_rfl) ?_ _
                  go_wp2_with fail
                  go_roundw
                  case rel => exact ⟨j + 1, by omega, by rw [HS.out], by go_num, below_drew HBr.out⟩
                  case measure => simp [intOf]; omega
                | false =>
                  cases hp : (r.p == v) with
                  | false =>
                    have HS : Hid (hasK (xs.take (j + 1)) v = false) := by show _ = _; rw [HST.out, hf, hp]; rfl
                    clear hf
                    (try go_wp2_with fail)
                    refine wp_region_held_drew (S := (fun w' => w'.cell? ⟨b, o + j * 7, none⟩ = some (.int .i64 r.p) ∧ w'.cell? ⟨b, o + j * 7 + 1, none⟩ = some (.int .i64 r.a) ∧ w'.cell? ⟨b, o + j * 7 + 2, none⟩ = some (.int .i64 r.b) ∧ w'.cell? ⟨b, o + j * 7 + 3, none⟩ = some (.int .i64 r.c) ∧ w'.cell? ⟨b, o + j * 7 + 4, none⟩ = some (.int .i64 r.x) ∧ w'.cell? ⟨b, o + j * 7 + 5, none⟩ = some (.int .i64 r.y) ∧ w'.cell? ⟨b, o + j * 7 + 6, none⟩ = some (.int .i64 r.z) ∧ w'.cell? ⟨b2, o2 + k, none⟩ = some (.int .i64 v))) (by kernel_rfl) (⟨q0, q1, q2, q3, q4, q5, q6, hck⟩) (fun hHeld => ?_)
                    refine wpAnyH_take (i := 0) (v := ?zv190005) rfl (by kernel_rfl) (by kernel_rfl) (by kernel_rfl) (fun _ _ _ h => h) (Or.inl ⟨by kernel_rfl, ?zy190005⟩) (by assumption) ?zr190005
                    case zy190005 => (intro w hSw; (try dsimp only at hSw); go_simp; try with_reducible rfl)
                    change wpAnyH _ _ _ _ _ _ _ (Act.put _ (some 59) _) _
                    simp only [Act.put, List.setIfInBounds_toArray, List.set_cons_zero, List.set_cons_succ]
                    refine wpAnyH_take (i := 1) (v := ?zv190006) rfl (by kernel_rfl) (by kernel_rfl) (by kernel_rfl) (fun _ _ _ h => h) (Or.inl ⟨by kernel_rfl, ?zy190006⟩) (by assumption) ?zr190006
                    case zy190006 => (intro w hSw; (try dsimp only at hSw); go_simp; try with_reducible rfl)
                    change wpAnyH _ _ _ _ _ _ _ (Act.put _ (some 60) _) _
                    simp only [Act.put, List.setIfInBounds_toArray, List.set_cons_zero, List.set_cons_succ]
                    refine wpAnyH_take (i := 2) (v := ?zv190007) rfl (by kernel_rfl) (by kernel_rfl) (by kernel_rfl) (fun _ _ _ h => h) (Or.inl ⟨by kernel_rfl, ?zy190007⟩) (by assumption) ?zr190007
                    case zy190007 => (intro w hSw; (try dsimp only at hSw); go_simp; try with_reducible rfl)
                    change wpAnyH _ _ _ _ _ _ _ (Act.put _ (some 61) _) _
                    simp only [Act.put, List.setIfInBounds_toArray, List.set_cons_zero, List.set_cons_succ]
                    refine wpAnyH_take (i := 3) (v := ?zv190008) rfl (by kernel_rfl) (by kernel_rfl) (by kernel_rfl) (fun _ _ _ h => h) (Or.inl ⟨by kernel_rfl, ?zy190008⟩) (by assumption) ?zr190008
                    case zy190008 => (intro w hSw; (try dsimp only at hSw); go_simp; try with_reducible rfl)
                    change wpAnyH _ _ _ _ _ _ _ (Act.put _ (some 62) _) _
                    simp only [Act.put, List.setIfInBounds_toArray, List.set_cons_zero, List.set_cons_succ]
                    refine wpAnyH_take (i := 4) (v := ?zv190009) rfl (by kernel_rfl) (by kernel_rfl) (by kernel_rfl) (fun _ _ _ h => h) (Or.inl ⟨by kernel_rfl, ?zy190009⟩) (by assumption) ?zr190009
                    case zy190009 => (intro w hSw; (try dsimp only at hSw); go_simp; try with_reducible rfl)
                    change wpAnyH _ _ _ _ _ _ _ (Act.put _ (some 63) _) _
                    simp only [Act.put, List.setIfInBounds_toArray, List.set_cons_zero, List.set_cons_succ]
                    refine wpAnyH_take (i := 5) (v := ?zv190010) rfl (by kernel_rfl) (by kernel_rfl) (by kernel_rfl) (fun _ _ _ h => h) (Or.inl ⟨by kernel_rfl, ?zy190010⟩) (by assumption) ?zr190010
                    case zy190010 => (intro w hSw; (try dsimp only at hSw); go_simp; try with_reducible rfl)
                    change wpAnyH _ _ _ _ _ _ _ (Act.put _ (some 64) _) _
                    simp only [Act.put, List.setIfInBounds_toArray, List.set_cons_zero, List.set_cons_succ]
                    refine wpAnyH_take (i := 6) (v := ?zv190011) rfl (by kernel_rfl) (by kernel_rfl) (by kernel_rfl) (fun _ _ _ h => h) (Or.inl ⟨by kernel_rfl, ?zy190011⟩) (by assumption) ?zr190011
                    case zy190011 => (intro w hSw; (try dsimp only at hSw); go_simp; try with_reducible rfl)
                    change wpAnyH _ _ _ _ _ _ _ (Act.put _ (some 65) _) _
                    simp only [Act.put, List.setIfInBounds_toArray, List.set_cons_zero, List.set_cons_succ]
                    refine wpAnyH_take (i := 7) (v := ?zv190012) rfl (by kernel_rfl) (by kernel_rfl) (by kernel_rfl) (fun _ _ _ h => h) (Or.inl ⟨by kernel_rfl, ?zy190012⟩) (by assumption) ?zr190012
                    case zy190012 => (intro w hSw; (try dsimp only at hSw); go_simp; try with_reducible rfl)
                    change wpAnyH _ _ _ _ _ _ _ (Act.put _ (some 66) _) _
                    simp only [Act.put, List.setIfInBounds_toArray, List.set_cons_zero, List.set_cons_succ]
                    refine wpAnyH_take (i := 8) (v := ?zv190013) rfl (by kernel_rfl) (by kernel_rfl) (by kernel_rfl) (fun _ _ _ h => h) (Or.inl ⟨by kernel_rfl, ?zy190013⟩) (by assumption) ?zr190013
                    case zy190013 => (intro w hSw; (try dsimp only at hSw); go_simp; try with_reducible rfl)
                    change wpAnyH _ _ _ _ _ _ _ (Act.put _ (some 67) _) _
                    simp only [Act.put, List.setIfInBounds_toArray, List.set_cons_zero, List.set_cons_succ]
                    refine wpAnyH_take (i := 9) (v := ?zv190014) rfl (by kernel_rfl) (by kernel_rfl) (by kernel_rfl) (fun _ _ _ h => h) (Or.inl ⟨by kernel_rfl, ?zy190014⟩) (by assumption) ?zr190014
                    case zy190014 => (intro w hSw; (try dsimp only at hSw); go_simp; try with_reducible rfl)
                    change wpAnyH _ _ _ _ _ _ _ (Act.put _ (some 68) _) _
                    simp only [Act.put, List.setIfInBounds_toArray, List.set_cons_zero, List.set_cons_succ]
                    refine wpAnyH_take (i := 10) (v := ?zv190015) rfl (by kernel_rfl) (by kernel_rfl) (by kernel_rfl) (fun _ _ _ h => h) (Or.inl ⟨by kernel_rfl, ?zy190015⟩) (by assumption) ?zr190015
                    case zy190015 => (intro w hSw; (try dsimp only at hSw); go_simp; try with_reducible rfl)
                    change wpAnyH _ _ _ _ _ _ _ (Act.put _ (some 69) _) _
                    simp only [Act.put, List.setIfInBounds_toArray, List.set_cons_zero, List.set_cons_succ]
                    refine wpAnyH_take (i := 11) (v := ?zv190016) rfl (by kernel_rfl) (by kernel_rfl) (by kernel_rfl) (fun _ _ _ h => h) (Or.inl ⟨by kernel_rfl, ?zy190016⟩) (by assumption) ?zr190016
                    case zy190016 => (intro w hSw; (try dsimp only at hSw); go_simp; try with_reducible rfl)
                    change wpAnyH _ _ _ _ _ _ _ (Act.put _ (some 70) _) _
                    simp only [Act.put, List.setIfInBounds_toArray, List.set_cons_zero, List.set_cons_succ]
                    refine wpAnyH_take (i := 12) (v := ?zv190017) rfl (by kernel_rfl) (by kernel_rfl) (by kernel_rfl) (fun _ _ _ h => h) (Or.inl ⟨by kernel_rfl, ?zy190017⟩) (by assumption) ?zr190017
                    case zy190017 => (intro w hSw; (try dsimp only at hSw); go_simp; try with_reducible rfl)
                    change wpAnyH _ _ _ _ _ _ _ (Act.put _ (some 71) _) _
                    simp only [Act.put, List.setIfInBounds_toArray, List.set_cons_zero, List.set_cons_succ]
                    refine wpAnyH_take (i := 13) (v := undef) rfl (by kernel_rfl) (by kernel_rfl) (by kernel_rfl) (fun _ _ _ h => h) (Or.inr ⟨by kernel_rfl, rfl⟩) (by assumption) ?_
                    change wpAnyH _ _ _ _ _ _ _ (Act.put _ (some 72) _) _
                    simp only [Act.put, List.setIfInBounds_toArray, List.set_cons_zero, List.set_cons_succ]
                    refine wpAnyH_take (i := 14) (v := undef) rfl (by kernel_rfl) (by kernel_rfl) (by kernel_rfl) (fun _ _ _ h => h) (Or.inr ⟨by kernel_rfl, rfl⟩) (by assumption) ?_
                    change wpAnyH _ _ _ _ _ _ _ (Act.put _ (some 73) _) _
                    simp only [Act.put, List.setIfInBounds_toArray, List.set_cons_zero, List.set_cons_succ]
                    refine wpAnyH_take (i := 15) (v := undef) rfl (by kernel_rfl) (by kernel_rfl) (by kernel_rfl) (fun _ _ _ h => h) (Or.inr ⟨by kernel_rfl, rfl⟩) (by assumption) ?_
                    change wpAnyH _ _ _ _ _ _ _ (Act.put _ (some 74) _) _
                    simp only [Act.put, List.setIfInBounds_toArray, List.set_cons_zero, List.set_cons_succ]
                    refine wpAnyH_take (i := 16) (v := undef) rfl (by kernel_rfl) (by kernel_rfl) (by kernel_rfl) (fun _ _ _ h => h) (Or.inr ⟨by kernel_rfl, rfl⟩) (by assumption) ?_
                    change wpAnyH _ _ _ _ _ _ _ (Act.put _ (some 75) _) _
                    simp only [Act.put, List.setIfInBounds_toArray, List.set_cons_zero, List.set_cons_succ]
                    refine wpAnyH_take (i := 17) (v := undef) rfl (by kernel_rfl) (by kernel_rfl) (by kernel_rfl) (fun _ _ _ h => h) (Or.inr ⟨by kernel_rfl, rfl⟩) (by assumption) ?_
                    change wpAnyH _ _ _ _ _ _ _ (Act.put _ (some 76) _) _
                    simp only [Act.put, List.setIfInBounds_toArray, List.set_cons_zero, List.set_cons_succ]
                    refine wpAnyH_take (i := 18) (v := ?zv190018) rfl (by kernel_rfl) (by kernel_rfl) (by kernel_rfl) (fun _ _ _ h => h) (Or.inl ⟨by kernel_rfl, ?zy190018⟩) (by assumption) ?zr190018
                    case zy190018 => (intro w hSw; (try dsimp only at hSw); go_simp; try with_reducible rfl)
                    change wpAnyH _ _ _ _ _ _ _ (Act.put _ (some 77) _) _
                    simp only [Act.put, List.setIfInBounds_toArray, List.set_cons_zero, List.set_cons_succ]
                    refine wpAnyH_take (i := 19) (v := ?zv190019) rfl (by kernel_rfl) (by kernel_rfl) (by kernel_rfl) (fun _ _ _ h => h) (Or.inl ⟨by kernel_rfl, ?zy190019⟩) (by assumption) ?zr190019
                    case zy190019 => (intro w hSw; (try dsimp only at hSw); go_simp; try with_reducible rfl)
                    change wpAnyH _ _ _ _ _ _ _ (Act.put _ (some 78) _) _
                    simp only [Act.put, List.setIfInBounds_toArray, List.set_cons_zero, List.set_cons_succ]
                    refine wpAnyH_take (i := 20) (v := ?zv190020) rfl (by kernel_rfl) (by kernel_rfl) (by kernel_rfl) (fun _ _ _ h => h) (Or.inl ⟨by kernel_rfl, ?zy190020⟩) (by assumption) ?zr190020
                    case zy190020 => (intro w hSw; (try dsimp only at hSw); go_simp; try with_reducible rfl)
                    change wpAnyH _ _ _ _ _ _ _ (Act.put _ (some 8) _) _
                    simp only [Act.put, List.setIfInBounds_toArray, List.set_cons_zero, List.set_cons_succ]
                    refine wpAnyH_done (by kernel_rfl) ?_ _
                    go_wp2_with fail
                    go_roundw
                    case rel => exact ⟨j + 1, by omega, by rw [HS.out], by go_num, below_drew HBr.out⟩
                    case measure => simp [intOf]; omega
                  | true =>
                    obtain ⟨ok, HOK⟩ : ∃ x, Hid (forkB r.p r.a r.b r.c r.x r.y r.z = x) := ⟨_, rfl⟩
                    have HS : Hid (hasK (xs.take (j + 1)) v = ok) := by show _ = _; rw [HST.out, hf, hp]; show (false || (true && okK r)) = _; rw [Bool.false_or, Bool.true_and]; exact HOK.out
                    clear hf
                    (try go_wp2_with fail)
                    refine wp_region_held_drew (S := (fun w' => w'.cell? ⟨b, o + j * 7, none⟩ = some (.int .i64 r.p) ∧ w'.cell? ⟨b, o + j * 7 + 1, none⟩ = some (.int .i64 r.a) ∧ w'.cell? ⟨b, o + j * 7 + 2, none⟩ = some (.int .i64 r.b) ∧ w'.cell? ⟨b, o + j * 7 + 3, none⟩ = some (.int .i64 r.c) ∧ w'.cell? ⟨b, o + j * 7 + 4, none⟩ = some (.int .i64 r.x) ∧ w'.cell? ⟨b, o + j * 7 + 5, none⟩ = some (.int .i64 r.y) ∧ w'.cell? ⟨b, o + j * 7 + 6, none⟩ = some (.int .i64 r.z) ∧ w'.cell? ⟨b2, o2 + k, none⟩ = some (.int .i64 v))) (by kernel_rfl) (⟨q0, q1, q2, q3, q4, q5, q6, hck⟩) (fun hHeld => ?_)
                    refine wpAnyH_take (i := 0) (v := ?zv190021) rfl (by kernel_rfl) (by kernel_rfl) (by kernel_rfl) (fun _ _ _ h => h) (Or.inl ⟨by kernel_rfl, ?zy190021⟩) (by assumption) ?zr190021
                    case zy190021 => (intro w hSw; (try dsimp only at hSw); go_simp; try with_reducible rfl)
                    change wpAnyH _ _ _ _ _ _ _ (Act.put _ (some 59) _) _
                    simp only [Act.put, List.setIfInBounds_toArray, List.set_cons_zero, List.set_cons_succ]
                    refine wpAnyH_take (i := 1) (v := ?zv190022) rfl (by kernel_rfl) (by kernel_rfl) (by kernel_rfl) (fun _ _ _ h => h) (Or.inl ⟨by kernel_rfl, ?zy190022⟩) (by assumption) ?zr190022
                    case zy190022 => (intro w hSw; (try dsimp only at hSw); go_simp; try with_reducible rfl)
                    change wpAnyH _ _ _ _ _ _ _ (Act.put _ (some 60) _) _
                    simp only [Act.put, List.setIfInBounds_toArray, List.set_cons_zero, List.set_cons_succ]
                    refine wpAnyH_take (i := 2) (v := ?zv190023) rfl (by kernel_rfl) (by kernel_rfl) (by kernel_rfl) (fun _ _ _ h => h) (Or.inl ⟨by kernel_rfl, ?zy190023⟩) (by assumption) ?zr190023
                    case zy190023 => (intro w hSw; (try dsimp only at hSw); go_simp; try with_reducible rfl)
                    change wpAnyH _ _ _ _ _ _ _ (Act.put _ (some 61) _) _
                    simp only [Act.put, List.setIfInBounds_toArray, List.set_cons_zero, List.set_cons_succ]
                    refine wpAnyH_take (i := 3) (v := ?zv190024) rfl (by kernel_rfl) (by kernel_rfl) (by kernel_rfl) (fun _ _ _ h => h) (Or.inl ⟨by kernel_rfl, ?zy190024⟩) (by assumption) ?zr190024
                    case zy190024 => (intro w hSw; (try dsimp only at hSw); go_simp; try with_reducible rfl)
                    change wpAnyH _ _ _ _ _ _ _ (Act.put _ (some 62) _) _
                    simp only [Act.put, List.setIfInBounds_toArray, List.set_cons_zero, List.set_cons_succ]
                    refine wpAnyH_take (i := 4) (v := ?zv190025) rfl (by kernel_rfl) (by kernel_rfl) (by kernel_rfl) (fun _ _ _ h => h) (Or.inl ⟨by kernel_rfl, ?zy190025⟩) (by assumption) ?zr190025
                    case zy190025 => (intro w hSw; (try dsimp only at hSw); go_simp; try with_reducible rfl)
                    change wpAnyH _ _ _ _ _ _ _ (Act.put _ (some 63) _) _
                    simp only [Act.put, List.setIfInBounds_toArray, List.set_cons_zero, List.set_cons_succ]
                    refine wpAnyH_take (i := 5) (v := ?zv190026) rfl (by kernel_rfl) (by kernel_rfl) (by kernel_rfl) (fun _ _ _ h => h) (Or.inl ⟨by kernel_rfl, ?zy190026⟩) (by assumption) ?zr190026
                    case zy190026 => (intro w hSw; (try dsimp only at hSw); go_simp; try with_reducible rfl)
                    change wpAnyH _ _ _ _ _ _ _ (Act.put _ (some 64) _) _
                    simp only [Act.put, List.setIfInBounds_toArray, List.set_cons_zero, List.set_cons_succ]
                    refine wpAnyH_take (i := 6) (v := ?zv190027) rfl (by kernel_rfl) (by kernel_rfl) (by kernel_rfl) (fun _ _ _ h => h) (Or.inl ⟨by kernel_rfl, ?zy190027⟩) (by assumption) ?zr190027
                    case zy190027 => (intro w hSw; (try dsimp only at hSw); go_simp; try with_reducible rfl)
                    change wpAnyH _ _ _ _ _ _ _ (Act.put _ (some 65) _) _
                    simp only [Act.put, List.setIfInBounds_toArray, List.set_cons_zero, List.set_cons_succ]
                    refine wpAnyH_take (i := 7) (v := ?zv190028) rfl (by kernel_rfl) (by kernel_rfl) (by kernel_rfl) (fun _ _ _ h => h) (Or.inl ⟨by kernel_rfl, ?zy190028⟩) (by assumption) ?zr190028
                    case zy190028 => (intro w hSw; (try dsimp only at hSw); go_simp; try with_reducible rfl)
                    change wpAnyH _ _ _ _ _ _ _ (Act.put _ (some 66) _) _
                    simp only [Act.put, List.setIfInBounds_toArray, List.set_cons_zero, List.set_cons_succ]
                    refine wpAnyH_take (i := 8) (v := ?zv190029) rfl (by kernel_rfl) (by kernel_rfl) (by kernel_rfl) (fun _ _ _ h => h) (Or.inl ⟨by kernel_rfl, ?zy190029⟩) (by assumption) ?zr190029
                    case zy190029 => (intro w hSw; (try dsimp only at hSw); go_simp; try with_reducible rfl)
                    change wpAnyH _ _ _ _ _ _ _ (Act.put _ (some 67) _) _
                    simp only [Act.put, List.setIfInBounds_toArray, List.set_cons_zero, List.set_cons_succ]
                    refine wpAnyH_take (i := 9) (v := ?zv190030) rfl (by kernel_rfl) (by kernel_rfl) (by kernel_rfl) (fun _ _ _ h => h) (Or.inl ⟨by kernel_rfl, ?zy190030⟩) (by assumption) ?zr190030
                    case zy190030 => (intro w hSw; (try dsimp only at hSw); go_simp; try with_reducible rfl)
                    change wpAnyH _ _ _ _ _ _ _ (Act.put _ (some 68) _) _
                    simp only [Act.put, List.setIfInBounds_toArray, List.set_cons_zero, List.set_cons_succ]
                    refine wpAnyH_take (i := 10) (v := ?zv190031) rfl (by kernel_rfl) (by kernel_rfl) (by kernel_rfl) (fun _ _ _ h => h) (Or.inl ⟨by kernel_rfl, ?zy190031⟩) (by assumption) ?zr190031
                    case zy190031 => (intro w hSw; (try dsimp only at hSw); go_simp; try with_reducible rfl)
                    change wpAnyH _ _ _ _ _ _ _ (Act.put _ (some 69) _) _
                    simp only [Act.put, List.setIfInBounds_toArray, List.set_cons_zero, List.set_cons_succ]
                    refine wpAnyH_take (i := 11) (v := ?zv190032) rfl (by kernel_rfl) (by kernel_rfl) (by kernel_rfl) (fun _ _ _ h => h) (Or.inl ⟨by kernel_rfl, ?zy190032⟩) (by assumption) ?zr190032
                    case zy190032 => (intro w hSw; (try dsimp only at hSw); go_simp; try with_reducible rfl)
                    change wpAnyH _ _ _ _ _ _ _ (Act.put _ (some 70) _) _
                    simp only [Act.put, List.setIfInBounds_toArray, List.set_cons_zero, List.set_cons_succ]
                    refine wpAnyH_take (i := 12) (v := ?zv190033) rfl (by kernel_rfl) (by kernel_rfl) (by kernel_rfl) (fun _ _ _ h => h) (Or.inl ⟨by kernel_rfl, ?zy190033⟩) (by assumption) ?zr190033
                    case zy190033 => (intro w hSw; (try dsimp only at hSw); go_simp; try with_reducible rfl)
                    change wpAnyH _ _ _ _ _ _ _ (Act.put _ (some 71) _) _
                    simp only [Act.put, List.setIfInBounds_toArray, List.set_cons_zero, List.set_cons_succ]
                    refine wpAnyH_take (i := 13) (v := ?zv190034) rfl (by kernel_rfl) (by kernel_rfl) (by kernel_rfl) (fun _ _ _ h => h) (Or.inl ⟨by kernel_rfl, ?zy190034⟩) (by assumption) ?zr190034
                    case zy190034 => (intro w hSw; (try dsimp only at hSw); go_simp; try with_reducible rfl)
                    change wpAnyH _ _ _ _ _ _ _ (Act.put _ (some 72) _) _
                    simp only [Act.put, List.setIfInBounds_toArray, List.set_cons_zero, List.set_cons_succ]
                    refine wpAnyH_take (i := 14) (v := ?zv190035) rfl (by kernel_rfl) (by kernel_rfl) (by kernel_rfl) (fun _ _ _ h => h) (Or.inl ⟨by kernel_rfl, ?zy190035⟩) (by assumption) ?zr190035
                    case zy190035 => (intro w hSw; (try dsimp only at hSw); go_simp; try with_reducible rfl)
                    change wpAnyH _ _ _ _ _ _ _ (Act.put _ (some 73) _) _
                    simp only [Act.put, List.setIfInBounds_toArray, List.set_cons_zero, List.set_cons_succ]
                    refine wpAnyH_take (i := 15) (v := ?zv190036) rfl (by kernel_rfl) (by kernel_rfl) (by kernel_rfl) (fun _ _ _ h => h) (Or.inl ⟨by kernel_rfl, ?zy190036⟩) (by assumption) ?zr190036
                    case zy190036 => (intro w hSw; (try dsimp only at hSw); go_simp; try with_reducible rfl)
                    change wpAnyH _ _ _ _ _ _ _ (Act.put _ (some 74) _) _
                    simp only [Act.put, List.setIfInBounds_toArray, List.set_cons_zero, List.set_cons_succ]
                    refine wpAnyH_take (i := 16) (v := ?zv190037) rfl (by kernel_rfl) (by kernel_rfl) (by kernel_rfl) (fun _ _ _ h => h) (Or.inl ⟨by kernel_rfl, ?zy190037⟩) (by assumption) ?zr190037
                    case zy190037 => (intro w hSw; (try dsimp only at hSw); go_simp; try with_reducible rfl)
                    change wpAnyH _ _ _ _ _ _ _ (Act.put _ (some 75) _) _
                    simp only [Act.put, List.setIfInBounds_toArray, List.set_cons_zero, List.set_cons_succ]
                    refine wpAnyH_ready (rs := [17]) (by kernel_rfl) (by simp) (AllReadyH.cons rfl (fun K hK => ?_) AllReadyH.nil)
                    go_simp
                    go_at_call 11
                    refine (forkCheck_any r.p r.a r.b r.c r.x r.y r.z _).mono ?_
                    rintro e w9 ⟨rfl, hb9⟩
                    rw [HOK.out]
                    have HB9 : Hid (Below U.heap.size U w9) := (below_drew HBr.out).trans (hb9.mono (below_drew HBr.out).size)
                    clear hb9
                    refine hK.out _ _ (F9.out _ HB9.out) (fun hHeld => ?_)
                    clear hK K
                    (try simp only [Act.put, List.setIfInBounds_toArray, List.set_cons_zero, List.set_cons_succ])
                    refine wpAnyH_take (i := 18) (v := ?zv190038) rfl (by kernel_rfl) (by kernel_rfl) (by kernel_rfl) (fun _ _ _ h => h) (Or.inl ⟨by kernel_rfl, ?zy190038⟩) (by assumption) ?zr190038
                    case zy190038 => (intro w hSw; (try dsimp only at hSw); go_simp; try with_reducible rfl)
                    change wpAnyH _ _ _ _ _ _ _ (Act.put _ (some 77) _) _
                    simp only [Act.put, List.setIfInBounds_toArray, List.set_cons_zero, List.set_cons_succ]
                    refine wpAnyH_take (i := 19) (v := ?zv190039) rfl (by kernel_rfl) (by kernel_rfl) (by kernel_rfl) (fun _ _ _ h => h) (Or.inl ⟨by kernel_rfl, ?zy190039⟩) (by assumption) ?zr190039
                    case zy190039 => (intro w hSw; (try dsimp only at hSw); go_simp; try with_reducible rfl)
                    change wpAnyH _ _ _ _ _ _ _ (Act.put _ (some 78) _) _
                    simp only [Act.put, List.setIfInBounds_toArray, List.set_cons_zero, List.set_cons_succ]
                    refine wpAnyH_take (i := 20) (v := ?zv190040) rfl (by kernel_rfl) (by kernel_rfl) (by kernel_rfl) (fun _ _ _ h => h) (Or.inl ⟨by kernel_rfl, ?zy190040⟩) (by assumption) ?zr190040
                    case zy190040 => (intro w hSw; (try dsimp only at hSw); go_simp; try with_reducible rfl)
                    change wpAnyH _ _ _ _ _ _ _ (Act.put _ (some 8) _) _
                    simp only [Act.put, List.setIfInBounds_toArray, List.set_cons_zero, List.set_cons_succ]
                    refine wpAnyH_done (by kernel_rfl) ?_ _
                    go_wp2_with fail
                    go_roundw
                    case rel => exact ⟨j + 1, by omega, by rw [HS.out], by go_num, HB9⟩
                    case measure => simp [intOf]; omega
              · have hjn2 : j = n := by omega
                subst hjn2
                have HF : Hid (hasK (xs.take j) v = true) := by show _ = _; rw [← HN.out, List.take_length]; exact HAV.out
                rw [HF.out]
                have hck := HCK.out _ HBr.out k HKZ.out
                rw [HVV.out] at hck
                cases k with
                | zero =>
                  (try go_wp2_with fail)
                  refine wp_region_held_drew (S := (fun w' => w'.cell? ⟨b2, o2 + 0, none⟩ = some (.int .i64 v))) (by kernel_rfl) (hck) (fun hHeld => ?_)
                  refine wpAnyH_take (i := 0) (v := ?zv190041) rfl (by kernel_rfl) (by kernel_rfl) (by kernel_rfl) (fun _ _ _ h => h) (Or.inl ⟨by kernel_rfl, ?zy190041⟩) (by assumption) ?zr190041
                  case zy190041 => (intro w hSw; (try dsimp only at hSw); go_simp; try with_reducible rfl)
                  change wpAnyH _ _ _ _ _ _ _ (Act.put _ (some 79) _) _
                  simp only [Act.put, List.setIfInBounds_toArray, List.set_cons_zero, List.set_cons_succ]
                  refine wpAnyH_take (i := 1) (v := ?zv190042) rfl (by kernel_rfl) (by kernel_rfl) (by kernel_rfl) (fun _ _ _ h => h) (Or.inl ⟨by kernel_rfl, ?zy190042⟩) (by assumption) ?zr190042
                  case zy190042 => (intro w hSw; (try dsimp only at hSw); go_simp; try with_reducible rfl)
                  change wpAnyH _ _ _ _ _ _ _ (Act.put _ (some 80) _) _
                  simp only [Act.put, List.setIfInBounds_toArray, List.set_cons_zero, List.set_cons_succ]
                  refine wpAnyH_take (i := 2) (v := ?zv190043) rfl (by kernel_rfl) (by kernel_rfl) (by kernel_rfl) (fun _ _ _ h => h) (Or.inl ⟨by kernel_rfl, ?zy190043⟩) (by assumption) ?zr190043
                  case zy190043 => (intro w hSw; (try dsimp only at hSw); go_simp; try with_reducible rfl)
                  change wpAnyH _ _ _ _ _ _ _ (Act.put _ (some 81) _) _
                  simp only [Act.put, List.setIfInBounds_toArray, List.set_cons_zero, List.set_cons_succ]
                  refine wpAnyH_take (i := 3) (v := ?zv190044) rfl (by kernel_rfl) (by kernel_rfl) (by kernel_rfl) (fun _ _ _ h => h) (Or.inl ⟨by kernel_rfl, ?zy190044⟩) (by assumption) ?zr190044
                  case zy190044 => (intro w hSw; (try dsimp only at hSw); go_simp; try with_reducible rfl)
                  change wpAnyH _ _ _ _ _ _ _ (Act.put _ (some 82) _) _
                  simp only [Act.put, List.setIfInBounds_toArray, List.set_cons_zero, List.set_cons_succ]
                  refine wpAnyH_take (i := 4) (v := ?zv190045) rfl (by kernel_rfl) (by kernel_rfl) (by kernel_rfl) (fun _ _ _ h => h) (Or.inl ⟨by kernel_rfl, ?zy190045⟩) (by assumption) ?zr190045
                  case zy190045 => (intro w hSw; (try dsimp only at hSw); go_simp; try with_reducible rfl)
                  change wpAnyH _ _ _ _ _ _ _ (Act.put _ (some 83) _) _
                  simp only [Act.put, List.setIfInBounds_toArray, List.set_cons_zero, List.set_cons_succ]
                  refine wpAnyH_take (i := 5) (v := ?zv190046) rfl (by kernel_rfl) (by kernel_rfl) (by kernel_rfl) (fun _ _ _ h => h) (Or.inl ⟨by kernel_rfl, ?zy190046⟩) (by assumption) ?zr190046
                  case zy190046 => (intro w hSw; (try dsimp only at hSw); go_simp; try with_reducible rfl)
                  change wpAnyH _ _ _ _ _ _ _ (Act.put _ (some 84) _) _
                  simp only [Act.put, List.setIfInBounds_toArray, List.set_cons_zero, List.set_cons_succ]
                  refine wpAnyH_take (i := 6) (v := undef) rfl (by kernel_rfl) (by kernel_rfl) (by kernel_rfl) (fun _ _ _ h => h) (Or.inr ⟨by kernel_rfl, rfl⟩) (by assumption) ?_
                  change wpAnyH _ _ _ _ _ _ _ (Act.put _ (some 85) _) _
                  simp only [Act.put, List.setIfInBounds_toArray, List.set_cons_zero, List.set_cons_succ]
                  refine wpAnyH_take (i := 7) (v := undef) rfl (by kernel_rfl) (by kernel_rfl) (by kernel_rfl) (fun _ _ _ h => h) (Or.inr ⟨by kernel_rfl, rfl⟩) (by assumption) ?_
                  change wpAnyH _ _ _ _ _ _ _ (Act.put _ (some 86) _) _
                  simp only [Act.put, List.setIfInBounds_toArray, List.set_cons_zero, List.set_cons_succ]
                  refine wpAnyH_take (i := 8) (v := undef) rfl (by kernel_rfl) (by kernel_rfl) (by kernel_rfl) (fun _ _ _ h => h) (Or.inr ⟨by kernel_rfl, rfl⟩) (by assumption) ?_
                  change wpAnyH _ _ _ _ _ _ _ (Act.put _ (some 87) _) _
                  simp only [Act.put, List.setIfInBounds_toArray, List.set_cons_zero, List.set_cons_succ]
                  refine wpAnyH_take (i := 9) (v := undef) rfl (by kernel_rfl) (by kernel_rfl) (by kernel_rfl) (fun _ _ _ h => h) (Or.inr ⟨by kernel_rfl, rfl⟩) (by assumption) ?_
                  change wpAnyH _ _ _ _ _ _ _ (Act.put _ (some 88) _) _
                  simp only [Act.put, List.setIfInBounds_toArray, List.set_cons_zero, List.set_cons_succ]
                  refine wpAnyH_take (i := 10) (v := undef) rfl (by kernel_rfl) (by kernel_rfl) (by kernel_rfl) (fun _ _ _ h => h) (Or.inr ⟨by kernel_rfl, rfl⟩) (by assumption) ?_
                  change wpAnyH _ _ _ _ _ _ _ (Act.put _ (some 89) _) _
                  simp only [Act.put, List.setIfInBounds_toArray, List.set_cons_zero, List.set_cons_succ]
                  refine wpAnyH_take (i := 11) (v := undef) rfl (by kernel_rfl) (by kernel_rfl) (by kernel_rfl) (fun _ _ _ h => h) (Or.inr ⟨by kernel_rfl, rfl⟩) (by assumption) ?_
                  change wpAnyH _ _ _ _ _ _ _ (Act.put _ (some 90) _) _
                  simp only [Act.put, List.setIfInBounds_toArray, List.set_cons_zero, List.set_cons_succ]
                  refine wpAnyH_take (i := 12) (v := undef) rfl (by kernel_rfl) (by kernel_rfl) (by kernel_rfl) (fun _ _ _ h => h) (Or.inr ⟨by kernel_rfl, rfl⟩) (by assumption) ?_
                  change wpAnyH _ _ _ _ _ _ _ (Act.put _ (some 91) _) _
                  simp only [Act.put, List.setIfInBounds_toArray, List.set_cons_zero, List.set_cons_succ]
                  refine wpAnyH_take (i := 13) (v := undef) rfl (by kernel_rfl) (by kernel_rfl) (by kernel_rfl) (fun _ _ _ h => h) (Or.inr ⟨by kernel_rfl, rfl⟩) (by assumption) ?_
                  change wpAnyH _ _ _ _ _ _ _ (Act.put _ (some 92) _) _
                  simp only [Act.put, List.setIfInBounds_toArray, List.set_cons_zero, List.set_cons_succ]
                  refine wpAnyH_take (i := 14) (v := undef) rfl (by kernel_rfl) (by kernel_rfl) (by kernel_rfl) (fun _ _ _ h => h) (Or.inr ⟨by kernel_rfl, rfl⟩) (by assumption) ?_
                  change wpAnyH _ _ _ _ _ _ _ (Act.put _ (some 93) _) _
                  simp only [Act.put, List.setIfInBounds_toArray, List.set_cons_zero, List.set_cons_succ]
                  refine wpAnyH_take (i := 15) (v := undef) rfl (by kernel_rfl) (by kernel_rfl) (by kernel_rfl) (fun _ _ _ h => h) (Or.inr ⟨by kernel_rfl, rfl⟩) (by assumption) ?_
                  change wpAnyH _ _ _ _ _ _ _ (Act.put _ (some 94) _) _
                  simp only [Act.put, List.setIfInBounds_toArray, List.set_cons_zero, List.set_cons_succ]
                  refine wpAnyH_take (i := 16) (v := ?zv190047) rfl (by kernel_rfl) (by kernel_rfl) (by kernel_rfl) (fun _ _ _ h => h) (Or.inl ⟨by kernel_rfl, ?zy190047⟩) (by assumption) ?zr190047
                  case zy190047 => (intro w hSw; (try dsimp only at hSw); go_simp; try with_reducible rfl)
                  change wpAnyH _ _ _ _ _ _ _ (Act.put _ (some 95) _) _
                  simp only [Act.put, List.setIfInBounds_toArray, List.set_cons_zero, List.set_cons_succ]
                  refine wpAnyH_take (i := 17) (v := ?zv190048) rfl (by kernel_rfl) (by kernel_rfl) (by kernel_rfl) (fun _ _ _ h => h) (Or.inl ⟨by kernel_rfl, ?zy190048⟩) (by assumption) ?zr190048
                  case zy190048 => (intro w hSw; (try dsimp only at hSw); go_simp; try with_reducible rfl)
                  change wpAnyH _ _ _ _ _ _ _ (Act.put _ (some 96) _) _
                  simp only [Act.put, List.setIfInBounds_toArray, List.set_cons_zero, List.set_cons_succ]
                  refine wpAnyH_done (by kernel_rfl) ?_ _
                  go_wp2_with fail
                  go_roundw
                  case rel => exact ⟨0 + 1, by omega, by first | go_num | rfl, below_drew HBr.out⟩
                  case measure => simp [intOf]; omega
                | succ j2 =>
                  have hcj := HCK.out _ HBr.out j2 (by have := HKZ.out; omega)
                  have hup := HUP.out j2 (by have := HKZ.out; omega)
                  obtain ⟨u, HUU⟩ : ∃ u, Hid (nth Z j2 = u) := ⟨_, rfl⟩
                  rw [HUU.out] at hcj hup
                  rw [HVV.out] at hup
                  have hge : decide (v ≤ u) = false := by simp; omega
                  have hge2 : ¬ v ≤ u := by omega
                  have hw1 : IntKind.i64.wrap (((j2 + 1 : Nat) : Int) - 1) = (j2 : Int) := by rw [IntWalk.i64_in _ (by omega)]; omega
                  have hw2 : IntKind.i64.wrap ((j2 : Int) + 1 - 1) = (j2 : Int) := by rw [IntWalk.i64_in _ (by omega)]; omega
                  have hw3 : IntKind.i64.wrap (j2 : Int) = (j2 : Int) := IntWalk.i64_in _ (by omega)
                  have hj22 : (j2 : Int) + 1 < (zn : Int) := by omega
                  have hj23 : (0 : Int) ≤ (j2 : Int) + 1 := by omega
                  have hpos : (0 : Int) < ((j2 + 1 : Nat) : Int) := by omega
                  have hpos2 : (0 : Int) < (j2 : Int) + 1 := by omega
                  have hj20 : (0 : Int) ≤ (j2 : Int) := by omega
                  have hj21 : (j2 : Int) < (zn : Int) := by omega
                  (try go_wp2_with fail)
                  refine wp_region_held_drew (S := (fun w' => w'.cell? ⟨b2, o2 + (j2 + 1), none⟩ = some (.int .i64 v) ∧ w'.cell? ⟨b2, o2 + j2, none⟩ = some (.int .i64 u))) (by kernel_rfl) (⟨hck, hcj⟩) (fun hHeld => ?_)
                  refine wpAnyH_take (i := 0) (v := ?zv190049) rfl (by kernel_rfl) (by kernel_rfl) (by kernel_rfl) (fun _ _ _ h => h) (Or.inl ⟨by kernel_rfl, ?zy190049⟩) (by assumption) ?zr190049
                  case zy190049 => (intro w hSw; (try dsimp only at hSw); go_simp; try with_reducible rfl)
                  change wpAnyH _ _ _ _ _ _ _ (Act.put _ (some 79) _) _
                  simp only [Act.put, List.setIfInBounds_toArray, List.set_cons_zero, List.set_cons_succ]
                  refine wpAnyH_take (i := 1) (v := ?zv190050) rfl (by kernel_rfl) (by kernel_rfl) (by kernel_rfl) (fun _ _ _ h => h) (Or.inl ⟨by kernel_rfl, ?zy190050⟩) (by assumption) ?zr190050
                  case zy190050 => (intro w hSw; (try dsimp only at hSw); go_simp; try with_reducible rfl)
                  change wpAnyH _ _ _ _ _ _ _ (Act.put _ (some 80) _) _
                  simp only [Act.put, List.setIfInBounds_toArray, List.set_cons_zero, List.set_cons_succ]
                  refine wpAnyH_take (i := 2) (v := ?zv190051) rfl (by kernel_rfl) (by kernel_rfl) (by kernel_rfl) (fun _ _ _ h => h) (Or.inl ⟨by kernel_rfl, ?zy190051⟩) (by assumption) ?zr190051
                  case zy190051 => (intro w hSw; (try dsimp only at hSw); go_simp; try with_reducible rfl)
                  change wpAnyH _ _ _ _ _ _ _ (Act.put _ (some 81) _) _
                  simp only [Act.put, List.setIfInBounds_toArray, List.set_cons_zero, List.set_cons_succ]
                  refine wpAnyH_take (i := 3) (v := ?zv190052) rfl (by kernel_rfl) (by kernel_rfl) (by kernel_rfl) (fun _ _ _ h => h) (Or.inl ⟨by kernel_rfl, ?zy190052⟩) (by assumption) ?zr190052
                  case zy190052 => (intro w hSw; (try dsimp only at hSw); go_simp; try with_reducible rfl)
                  change wpAnyH _ _ _ _ _ _ _ (Act.put _ (some 82) _) _
                  simp only [Act.put, List.setIfInBounds_toArray, List.set_cons_zero, List.set_cons_succ]
                  refine wpAnyH_take (i := 4) (v := ?zv190053) rfl (by kernel_rfl) (by kernel_rfl) (by kernel_rfl) (fun _ _ _ h => h) (Or.inl ⟨by kernel_rfl, ?zy190053⟩) (by assumption) ?zr190053
                  case zy190053 => (intro w hSw; (try dsimp only at hSw); go_simp; try with_reducible rfl)
                  change wpAnyH _ _ _ _ _ _ _ (Act.put _ (some 83) _) _
                  simp only [Act.put, List.setIfInBounds_toArray, List.set_cons_zero, List.set_cons_succ]
                  refine wpAnyH_take (i := 5) (v := ?zv190054) rfl (by kernel_rfl) (by kernel_rfl) (by kernel_rfl) (fun _ _ _ h => h) (Or.inl ⟨by kernel_rfl, ?zy190054⟩) (by assumption) ?zr190054
                  case zy190054 => (intro w hSw; (try dsimp only at hSw); go_simp; try with_reducible rfl)
                  change wpAnyH _ _ _ _ _ _ _ (Act.put _ (some 84) _) _
                  simp only [Act.put, List.setIfInBounds_toArray, List.set_cons_zero, List.set_cons_succ]
                  refine wpAnyH_take (i := 6) (v := ?zv190055) rfl (by kernel_rfl) (by kernel_rfl) (by kernel_rfl) (fun _ _ _ h => h) (Or.inl ⟨by kernel_rfl, ?zy190055⟩) (by assumption) ?zr190055
                  case zy190055 => (intro w hSw; (try dsimp only at hSw); go_simp; try with_reducible rfl)
                  change wpAnyH _ _ _ _ _ _ _ (Act.put _ (some 85) _) _
                  simp only [Act.put, List.setIfInBounds_toArray, List.set_cons_zero, List.set_cons_succ]
                  refine wpAnyH_take (i := 7) (v := ?zv190056) rfl (by kernel_rfl) (by kernel_rfl) (by kernel_rfl) (fun _ _ _ h => h) (Or.inl ⟨by kernel_rfl, ?zy190056⟩) (by assumption) ?zr190056
                  case zy190056 => (intro w hSw; (try dsimp only at hSw); go_simp; try with_reducible rfl)
                  change wpAnyH _ _ _ _ _ _ _ (Act.put _ (some 86) _) _
                  simp only [Act.put, List.setIfInBounds_toArray, List.set_cons_zero, List.set_cons_succ]
                  refine wpAnyH_take (i := 8) (v := ?zv190057) rfl (by kernel_rfl) (by kernel_rfl) (by kernel_rfl) (fun _ _ _ h => h) (Or.inl ⟨by kernel_rfl, ?zy190057⟩) (by assumption) ?zr190057
                  case zy190057 => (intro w hSw; (try dsimp only at hSw); go_simp; try with_reducible rfl)
                  change wpAnyH _ _ _ _ _ _ _ (Act.put _ (some 87) _) _
                  simp only [Act.put, List.setIfInBounds_toArray, List.set_cons_zero, List.set_cons_succ]
                  refine wpAnyH_take (i := 9) (v := ?zv190058) rfl (by kernel_rfl) (by kernel_rfl) (by kernel_rfl) (fun _ _ _ h => h) (Or.inl ⟨by kernel_rfl, ?zy190058⟩) (by assumption) ?zr190058
                  case zy190058 => (intro w hSw; (try dsimp only at hSw); go_simp; try with_reducible rfl)
                  change wpAnyH _ _ _ _ _ _ _ (Act.put _ (some 88) _) _
                  simp only [Act.put, List.setIfInBounds_toArray, List.set_cons_zero, List.set_cons_succ]
                  refine wpAnyH_take (i := 10) (v := ?zv190059) rfl (by kernel_rfl) (by kernel_rfl) (by kernel_rfl) (fun _ _ _ h => h) (Or.inl ⟨by kernel_rfl, ?zy190059⟩) (by assumption) ?zr190059
                  case zy190059 => (intro w hSw; (try dsimp only at hSw); go_simp; try with_reducible rfl)
                  change wpAnyH _ _ _ _ _ _ _ (Act.put _ (some 89) _) _
                  simp only [Act.put, List.setIfInBounds_toArray, List.set_cons_zero, List.set_cons_succ]
                  refine wpAnyH_take (i := 11) (v := ?zv190060) rfl (by kernel_rfl) (by kernel_rfl) (by kernel_rfl) (fun _ _ _ h => h) (Or.inl ⟨by kernel_rfl, ?zy190060⟩) (by assumption) ?zr190060
                  case zy190060 => (intro w hSw; (try dsimp only at hSw); go_simp; try with_reducible rfl)
                  change wpAnyH _ _ _ _ _ _ _ (Act.put _ (some 90) _) _
                  simp only [Act.put, List.setIfInBounds_toArray, List.set_cons_zero, List.set_cons_succ]
                  refine wpAnyH_take (i := 12) (v := ?zv190061) rfl (by kernel_rfl) (by kernel_rfl) (by kernel_rfl) (fun _ _ _ h => h) (Or.inl ⟨by kernel_rfl, ?zy190061⟩) (by assumption) ?zr190061
                  case zy190061 => (intro w hSw; (try dsimp only at hSw); go_simp; try with_reducible rfl)
                  change wpAnyH _ _ _ _ _ _ _ (Act.put _ (some 91) _) _
                  simp only [Act.put, List.setIfInBounds_toArray, List.set_cons_zero, List.set_cons_succ]
                  refine wpAnyH_take (i := 13) (v := ?zv190062) rfl (by kernel_rfl) (by kernel_rfl) (by kernel_rfl) (fun _ _ _ h => h) (Or.inl ⟨by kernel_rfl, ?zy190062⟩) (by assumption) ?zr190062
                  case zy190062 => (intro w hSw; (try dsimp only at hSw); go_simp; try with_reducible rfl)
                  change wpAnyH _ _ _ _ _ _ _ (Act.put _ (some 92) _) _
                  simp only [Act.put, List.setIfInBounds_toArray, List.set_cons_zero, List.set_cons_succ]
                  refine wpAnyH_take (i := 14) (v := ?zv190063) rfl (by kernel_rfl) (by kernel_rfl) (by kernel_rfl) (fun _ _ _ h => h) (Or.inl ⟨by kernel_rfl, ?zy190063⟩) (by assumption) ?zr190063
                  case zy190063 => (intro w hSw; (try dsimp only at hSw); go_simp; try with_reducible rfl)
                  change wpAnyH _ _ _ _ _ _ _ (Act.put _ (some 93) _) _
                  simp only [Act.put, List.setIfInBounds_toArray, List.set_cons_zero, List.set_cons_succ]
                  refine wpAnyH_take (i := 15) (v := ?zv190064) rfl (by kernel_rfl) (by kernel_rfl) (by kernel_rfl) (fun _ _ _ h => h) (Or.inl ⟨by kernel_rfl, ?zy190064⟩) (by assumption) ?zr190064
                  case zy190064 => (intro w hSw; (try dsimp only at hSw); go_simp; try with_reducible rfl)
                  change wpAnyH _ _ _ _ _ _ _ (Act.put _ (some 94) _) _
                  simp only [Act.put, List.setIfInBounds_toArray, List.set_cons_zero, List.set_cons_succ]
                  refine wpAnyH_take (i := 16) (v := ?zv190065) rfl (by kernel_rfl) (by kernel_rfl) (by kernel_rfl) (fun _ _ _ h => h) (Or.inl ⟨by kernel_rfl, ?zy190065⟩) (by assumption) ?zr190065
                  case zy190065 => (intro w hSw; (try dsimp only at hSw); go_simp; try with_reducible rfl)
                  change wpAnyH _ _ _ _ _ _ _ (Act.put _ (some 95) _) _
                  simp only [Act.put, List.setIfInBounds_toArray, List.set_cons_zero, List.set_cons_succ]
                  refine wpAnyH_take (i := 17) (v := ?zv190066) rfl (by kernel_rfl) (by kernel_rfl) (by kernel_rfl) (fun _ _ _ h => h) (Or.inl ⟨by kernel_rfl, ?zy190066⟩) (by assumption) ?zr190066
                  case zy190066 => (intro w hSw; (try dsimp only at hSw); go_simp; try with_reducible rfl)
                  change wpAnyH _ _ _ _ _ _ _ (Act.put _ (some 96) _) _
                  simp only [Act.put, List.setIfInBounds_toArray, List.set_cons_zero, List.set_cons_succ]
                  refine wpAnyH_done (by kernel_rfl) ?_ _
                  go_wp2_with fail
                  go_roundw
                  case rel => exact ⟨j2 + 1 + 1, by omega, by go_num, below_drew HBr.out⟩
                  case measure => simp [intOf]; omega
          · go_wp2_with fail
            go_ret
            exact ⟨rfl, HBWU.out.trans (HBk.out.mono HBWU.out.size)⟩
  · have h9 : 1048576 < len := by omega
    clear hlen
    go_enter Try.func3, Try.ntmps3
    go_wp2
    go_ret
    exact ⟨rfl, Below.refl _ _⟩

end Go.Proofs.Ytheonknahkdfkaa
