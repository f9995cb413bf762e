/- Contracts of the array's list, full and sweep: they answer as the data say. Conditions: the array of a valid directory lies in memory. -/
import Derived.Test.YtjefkpjjdloodaaDirVal
namespace Go.Proofs.Ytjefkpjjdloodaa
open Go.RowKit
set_option linter.unusedVariables false
set_option maxHeartbeats 4000000 in
set_option maxRecDepth 100000 in
theorem list_any (g : Nat) (xs : List LD) (w : World) (hA : DirAt w g xs) (hd : DirP xs) :
    Calls Try.prog 31 #[.pointer (some ⟨g, 0, none⟩)] w (RetLis w xs) := by
  obtain ⟨i0, zz, hi0, hz0, hz1, hz2, hz3⟩ := lis_app_info
  have HI0 := Lib.hid (And.intro hi0 (And.intro hz0 (And.intro hz1 (And.intro hz2 hz3))))
  clear hi0 hz0 hz1 hz2 hz3
  have HA := Lib.hid hA
  have HLT : g < w.heap.size := hA.lt
  have HD := Lib.hid hd
  clear hA hd
  go_enter Try.func31, Try.ntmps31
  obtain ⟨Wc, HWc⟩ : ∃ Q0, Hid (w.alloc (.cells #[] 41) = Q0) := ⟨_, rfl⟩
  have HBc : Hid (Below w.heap.size w Wc) := by rw [← HWc.out]; exact (Below.refl _ w).alloc (Nat.le_refl _) _
  have HOc : Hid (OwnRow LK Wc w.heap.size (some ⟨w.heap.size, 0, none⟩) 0 []) := by rw [← HWc.out]; exact OwnRow.new LK w
  go_upto_region 2 with fail
  rw [HWc.out]
  go_wp2
  go_loopw [3, 8] (fun s i wr => ∃ (k m x X : Nat), k ≤ 100 ∧ m ≤ k ∧ s = .slice (some ⟨X, 0, none⟩) m x ∧ i = .int .i64 (k : Int) ∧ Hid (Below w.heap.size w wr) ∧ Hid (OwnRow LK wr w.heap.size (some ⟨X, 0, none⟩) x (listK (tmF xs) k)) ∧ Hid ((listK (tmF xs) k).length = m)) (fun _ i _ => 100 - (intOf i).toNat)
  case atStart => exact ⟨0, 0, 0, _, Nat.zero_le _, Nat.le_refl _, rfl, rfl, HBc, HOc, rfl⟩
  case round =>
    obtain ⟨k, m, x, X, hk, hm, rfl, rfl, HBr, HO, HM⟩ := hrel
    by_cases hlt : k < 100
    · obtain ⟨v, HV⟩ : ∃ v, Hid (tmF xs k = v) := ⟨_, rfl⟩
      have c0 := arr_cell (HA.out.below HBr.out HLT) k hlt
      rw [HV.out] at c0
      have HONE : Hid (oneF (tmF xs) k = if v = -1 then [] else [⟨(k : Int), v⟩]) := by show _ = _; unfold oneF; rw [HV.out]
      have HSU : Hid (listK (tmF xs) (k + 1) = listK (tmF xs) k ++ oneF (tmF xs) k) := rfl
      have hk0 : (0 : Int) ≤ (k : Int) := by omega
      have hki : (k : Int) < 100 := by omega
      have hbz : w.heap.size ≤ wr.heap.size := HBr.out.size
      by_cases he : v = -1
      · have hne : (v != -1) = false := by rw [he]; rfl
        have HO2 : Hid (OwnRow LK wr w.heap.size (some ⟨X, 0, none⟩) x (listK (tmF xs) (k + 1))) := by show OwnRow _ _ _ _ _ (listK (tmF xs) k ++ oneF (tmF xs) k); rw [HONE.out, if_pos he, List.append_nil]; exact HO.out
        have HM2 : Hid ((listK (tmF xs) (k + 1)).length = m) := by show (listK (tmF xs) k ++ oneF (tmF xs) k).length = m; rw [HONE.out, if_pos he, List.append_nil]; exact HM.out
        clear he
        have HBQ : Hid (∀ q, Below w.heap.size w (wr.drewN q)) := fun q => below_drewN HBr.out q
        have HOQ : Hid (∀ q, OwnRow LK (wr.drewN q) w.heap.size (some ⟨X, 0, none⟩) x (listK (tmF xs) (k + 1))) := fun q => HO2.out
        go_wp2_with fail
        go_quiet (fail)
        go_wp2
        go_roundw
        case rel => exact ⟨k + 1, m, x, X, by omega, by omega, rfl, by go_num, HBQ.out _, HOQ.out _, HM2⟩
        case measure => simp [intOf]; omega
      · have hne : (v != -1) = true := bne_iff_ne.2 he
        have HS2 : Hid (listK (tmF xs) (k + 1) = listK (tmF xs) k ++ [(⟨(k : Int), v⟩ : LD)]) := by show listK (tmF xs) k ++ oneF (tmF xs) k = _; rw [HONE.out, if_neg he]
        have HBQ : Hid (∀ q, Below w.heap.size w (wr.drewN q)) := fun q => below_drewN HBr.out q
        have HOQ : Hid (∀ q, OwnRow LK (wr.drewN q) w.heap.size (some ⟨X, 0, none⟩) x (listK (tmF xs) k)) := fun q => HO.out
        clear he
        go_wp2_with fail
        go_quiet (fail)
        obtain ⟨w1, HW1⟩ : ∃ U, Hid (wr.drewN nq = U) := ⟨_, rfl⟩
        have HB1 := Lib.hid (HBQ.out nq)
        rw [HW1.out] at HB1; rw [HW1.out]
        have HO1 : Hid (OwnRow LK w1 w.heap.size (some ⟨X, 0, none⟩) x (listK (tmF xs) k)) := by rw [← HW1.out]; exact HOQ.out _
        have hbz1 : w.heap.size ≤ w1.heap.size := HB1.out.size
        clear HBQ HOQ
        go_wp2_with (at_builtin; refine wpList_app_row (K := LK) Try.underlying25 HI0.out.1 HI0.out.2.1 HI0.out.2.2.1 HI0.out.2.2.2.1 HI0.out.2.2.2.2 (by decide) rfl (.tmp 16) (.tmp 20) rfl _ w.heap.size (some ⟨X, 0, none⟩) x (listK (tmF xs) k) (by rw [HM.out]; rfl) _ _ [(⟨(k : Int), v⟩ : LD)] rfl (HO1.out.alloc _) (one_newR LK _ ⟨(k : Int), v⟩ _) (by rw [HM.out]; show m + 1 ≤ 1000000; omega) (by simp; omega) (fun e => by cases e) ?_; intro v7 w7 hA; obtain ⟨Y, y, rfl, ho7⟩ := hA.at0; have HB7 : Hid (Below w.heap.size w w7) := ((HB1.out.alloc hbz1 _).trans hA.below); have HO7 : Hid (OwnRow LK w7 w.heap.size (some ⟨Y, 0, none⟩) y (listK (tmF xs) (k + 1))) := (by rw [HS2.out]; exact ho7); have HL7 : Hid ((listK (tmF xs) k ++ [(⟨(k : Int), v⟩ : LD)]).length = m + 1) := (by show _ = _; rw [List.length_append, HM.out]; rfl); have HL8 : Hid ((listK (tmF xs) (k + 1)).length = m + 1) := (by rw [HS2.out]; exact HL7.out); rw [HL7.out]; clear hA ho7)
        go_roundw
        case rel => exact ⟨k + 1, m + 1, y, Y, by omega, by omega, rfl, by go_num, HB7, HO7, HL8⟩
        case measure => simp [intOf]; omega
    · have hkn : k = 100 := by omega
      subst hkn
      have HTK : Hid (listK (tmF xs) 100 = xs) := list_of_dir HD.out
      rw [HTK.out] at HO HM
      go_wp2
      go_ret
      exact ⟨some ⟨X, 0, none⟩, x, by rw [HM.out]; rfl, HO.out, HBr.out⟩

set_option maxHeartbeats 2000000 in
set_option maxRecDepth 100000 in
theorem full_any (g : Nat) (xs : List LD) (w : World) (hA : DirAt w g xs) (hd : DirP xs) :
    Calls Try.prog 34 #[.pointer (some ⟨g, 0, none⟩)] w fun e w' => e = .returned (.bool (decide (xs.length = 8))) ∧ Below w.heap.size w w' := by
  have C := Lib.hid (list_any g xs w hA hd)
  obtain ⟨n, HN⟩ : ∃ n, Hid (xs.length = n) := ⟨_, rfl⟩
  rw [HN.out]
  clear hA hd
  by_cases h8 : n = 8
  · have h8i : ((n : Int) == 8) = true := by rw [h8]; rfl
    rw [decide_eq_true h8]
    have HH := Lib.hid h8
    clear h8
    go_enter Try.func34, Try.ntmps34
    go_wp2_with fail
    refine C.out.mono ?_
    rintro e w1 ⟨A, c, rfl, ho, hb⟩
    have HB := Lib.hid hb
    rw [HN.out]
    clear ho hb
    go_wp2
    go_ret
    exact ⟨rfl, HB.out⟩
  · have h8i : ((n : Int) == 8) = false := beq_eq_false_iff_ne.2 (by omega)
    rw [decide_eq_false h8]
    clear h8
    go_enter Try.func34, Try.ntmps34
    go_wp2_with fail
    refine C.out.mono ?_
    rintro e w1 ⟨A, c, rfl, ho, hb⟩
    have HB := Lib.hid hb
    rw [HN.out]
    clear ho hb
    go_wp2
    go_ret
    exact ⟨rfl, HB.out⟩

set_option maxHeartbeats 4000000 in
set_option maxRecDepth 100000 in
theorem sweep_any (B g : Nat) (xs : List LD) (now : Int) (w : World) (hA : DirAt w g xs) (hd : DirP xs) (h0 : 0 ≤ now) (hB : B ≤ g) :
    Calls Try.prog 32 #[.pointer (some ⟨g, 0, none⟩), .int .i64 now] w fun e w' => e = .returned (.tuple #[]) ∧ DirAt w' g (sweepL now xs) ∧ Below B w w' := by
  have HA : Hid (Blk w g 47 (arrD (swF (tmF xs) now 0))) := by rw [swF_zero]; exact hA
  have HD := Lib.hid hd
  have HF := Lib.hid (swF_all hd now h0)
  clear hA hd
  go_enter Try.func32, Try.ntmps32
  go_wp2
  go_loopw [7] (fun i wr => ∃ k : Nat, k ≤ 100 ∧ i = .int .i64 (k : Int) ∧ Hid (Blk wr g 47 (arrD (swF (tmF xs) now k))) ∧ Hid (Below B w wr)) (fun i _ => 100 - (intOf i).toNat)
  case atStart => exact ⟨0, Nat.zero_le _, rfl, HA, Below.refl _ _⟩
  case round =>
    obtain ⟨k, hk, rfl, HR, HBr⟩ := hrel
    by_cases hlt : k < 100
    · obtain ⟨v, HV⟩ : ∃ v, Hid (tmF xs k = v) := ⟨_, rfl⟩
      have c0 := arr_cell HR.out k hlt
      rw [swF_at, HV.out] at c0
      have hge := time_ge HD.out (k : Int)
      have hv : Hid (-1 ≤ v ∧ v ≤ 999) := by rw [← HV.out]; exact hge
      clear hge
      have hw : IntKind.i64.wrap (v + 10) = v + 10 := IntWalk.i64_in _ (by have := hv.out; omega)
      have hk0 : (0 : Int) ≤ (k : Int) := by omega
      have hki : (k : Int) < 100 := by omega
      by_cases ho : v + 10 < now
      · have HR2 : Hid (∀ q, Blk ((wr.drewN q).setCell ⟨g, k, none⟩ (.int .i64 (-1))) g 47 (arrD (swF (tmF xs) now (k + 1)))) := fun q => by
          have := (HR.out.drewN q).setOwn k (.int .i64 (-1))
          rw [arrD_set, swF_old (by rw [HV.out]; exact ho)] at this
          exact this
        have HB2 : Hid (∀ q, Below B w ((wr.drewN q).setCell ⟨g, k, none⟩ (.int .i64 (-1)))) := fun q => (below_drewN HBr.out q).setCell (p := ⟨g, k, none⟩) hB _
        have f0 := fun q => blk_frozen (HR.out.drewN q) k
        have c1 : ∀ q, (wr.drewN q).cell? ⟨g, k, none⟩ = some (.int .i64 v) := fun q => c0
        go_wp2_with fail
        go_quiet (fail)
        have f1 := f0 nq
        have c2 := c1 nq
        go_wp2
        go_roundw
        case rel => exact ⟨k + 1, by omega, by go_num, HR2.out _, HB2.out _⟩
        case measure => simp [intOf]; omega
      · have HR2 : Hid (∀ q, Blk (wr.drewN q) g 47 (arrD (swF (tmF xs) now (k + 1)))) := fun q => by
          have := HR.out.drewN q
          rw [swF_new (by rw [HV.out]; exact ho)] at this
          exact this
        have HB2 : Hid (∀ q, Below B w (wr.drewN q)) := fun q => below_drewN HBr.out q
        go_wp2_with fail
        go_quiet (fail)
        go_wp2
        go_roundw
        case rel => exact ⟨k + 1, by omega, by go_num, HR2.out _, HB2.out _⟩
        case measure => simp [intOf]; omega
    · have hkn : k = 100 := by omega
      subst hkn
      rw [HF.out] at HR
      go_wp2
      go_end0
      exact ⟨rfl, HR.out, HBr.out⟩
end Go.Proofs.Ytjefkpjjdloodaa
