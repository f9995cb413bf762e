/- The contract of the document's JournalBlocks: it hands back what the journal tells. Condition: the journal lies in memory. -/
import Derived.Test.YtmddfjfflgfdlaaJBlocks
import Derived.Test.YtmddfjfflgfdlaaSJournal
namespace Go.Proofs.Ytmddfjfflgfdlaa
open Go.RowKit Go.Conc
set_option linter.unusedVariables false

set_option maxHeartbeats 8000000 in
set_option maxRecDepth 100000 in
theorem sjblocks_any (A : Option Addr) (cap : Nat) (s len : Int) (rs : List RD) (w : World) (hJ : JAt w w.heap.size A cap rs) :
    Calls Try.prog 23 #[journalV A rs.length cap s, .int .i64 len] w (RetB w (blkA rs s len) (blkB rs s len)) := by
  have HJ := Lib.hid hJ
  have CV : Hid (∀ U, Below w.heap.size w U → Calls Try.prog 9 #[journalV A rs.length cap s] U fun e w' => e = .returned (.bool (jokB rs s)) ∧ Below U.heap.size U w') := fun U hU => sjvalid_any A cap s rs U (hJ.belowS hU)
  clear hJ
  obtain ⟨nr, HN⟩ : ∃ n, Hid (rs.length = n) := ⟨_, rfl⟩
  rw [HN.out] at CV ⊢
  obtain ⟨W, HW⟩ : ∃ W, Hid (w.alloc (.cells #[.slice A nr cap, .int .i64 s] 29) = W) := ⟨_, rfl⟩
  have KJ : Hid (Blk W w.heap.size 29 #[.slice A nr cap, .int .i64 s]) := by rw [← HW.out]; exact Blk.new w _ _
  have HB : Hid (Below w.heap.size w W) := by rw [← HW.out]; exact (Below.refl _ w).alloc (Nat.le_refl _) _
  have FIN : Hid (blkOk rs s len = false → ∀ U, Below w.heap.size w U → w.heap.size ≤ U.heap.size → RetB w (blkA rs s len) (blkB rs s len) (.returned (.tuple #[.slice (some ⟨U.heap.size, 0, none⟩) 0 0, .slice (some ⟨U.heap.size + 1, 0, none⟩) 0 0])) ((U.alloc (.cells #[] 9)).alloc (.cells #[] 4))) := fun h U hU hz => by
    have e1 : blkA rs s len = [] := by unfold blkA; rw [h]; rfl
    have e2 : blkB rs s len = [] := by unfold blkB; rw [h]; rfl
    rw [e1, e2]
    have k1 : Blk ((U.alloc (.cells #[] 9)).alloc (.cells #[] 4)) U.heap.size 9 (sals []).toArray := (Blk.new U 9 #[]).alloc _
    have k2 : Blk ((U.alloc (.cells #[] 9)).alloc (.cells #[] 4)) (U.heap.size + 1) 4 (bals []).toArray := by
      have h := Blk.new (U.alloc (.cells #[] 9)) 4 #[]
      rw [World.size_alloc] at h
      exact h
    exact ⟨U.heap.size, 0, U.heap.size + 1, 0, rfl, owns_row k1 hz (Nat.zero_le _), ownb_row k2 (by omega) (Nat.zero_le _), (hU.alloc hz _).alloc (by rw [World.size_alloc]; omega) _⟩
  cases hO : jokB rs s with
  | false =>
    have FIN2 := Lib.hid (FIN.out (by unfold blkOk; rw [hO]; rfl))
    rw [hO] at CV
    clear hO FIN
    go_enter Try.func23, Try.ntmps23
    go_wp2_with fail
    rw [HW.out]
    refine (CV.out _ HB.out).mono ?_
    rintro e w1 ⟨rfl, hb1⟩
    have KJ1 := Lib.hid (KJ.out.below hb1 KJ.out.lt)
    have HB1 : Hid (Below w.heap.size w w1) := HB.out.trans (hb1.mono HB.out.size)
    clear hb1
    go_wp2
    go_ret2
    exact FIN2.out _ HB1.out HB1.out.size
  | true =>
    have h20 := ((jokB_iff _ _).1 hO).1
    rw [HN.out] at h20
    have HALL := Lib.hid ((allB_iff _).1 ((jokB_iff _ _).1 hO).2.2.2)
    have HO := Lib.hid hO
    rw [hO] at CV
    clear hO
    by_cases hl : 0 ≤ len ∧ len ≤ 16
    · have CI : Hid (∀ U, Calls Try.prog 33 #[.int .i64 len, .int .i64 0, .int .i64 16] U fun e w' => e = .returned (.bool true) ∧ U = w') := fun U => in_yes len 0 16 U hl.1 hl.2
      obtain ⟨hl0, hl1⟩ := hl
      obtain ⟨n, hn⟩ : ∃ v : Nat, len = (v : Int) := ⟨len.toNat, by omega⟩
      subst hn
      have hn16 : n ≤ 16 := by omega
      have hok : blkOk rs s (n : Int) = true := by unfold blkOk; rw [HO.out, decide_eq_true ⟨hl0, hl1⟩]; rfl
      have HEA : Hid (blkA rs s (n : Int) = blkS rs n) := by show _ = _; unfold blkA; rw [if_pos hok]; rfl
      have HEB : Hid (blkB rs s (n : Int) = blkH rs n) := by show _ = _; unfold blkB; rw [if_pos hok]; rfl
      rw [HEA.out, HEB.out]
      have hmkS := run_make_row' (P := Try.prog) 45 9 (.string ByteArray.empty) 16 Try.underlying45 string_info rfl .i64 .i64 n (by omega) (by omega)
      simp only [madeCells_sals] at hmkS
      have hmkB := run_make_row' (P := Try.prog) 46 4 (.bool false) 1 Try.underlying46 bool_info rfl .i64 .i64 n (by omega) (by omega)
      simp only [madeCells_bals] at hmkB
      clear hok FIN hl0 hl1
      go_enter Try.func23, Try.ntmps23
      go_wp2_with fail
      rw [HW.out]
      refine (CV.out _ HB.out).mono ?_
      rintro e w1 ⟨rfl, hb1⟩
      have KJ1 := Lib.hid (KJ.out.below hb1 KJ.out.lt)
      have HB1 : Hid (Below w.heap.size w w1) := HB.out.trans (hb1.mono HB.out.size)
      clear hb1
      go_wp2_with fail
      refine (CI.out _).mono ?_
      rintro e w2 ⟨rfl, rfl⟩
      clear CI
      obtain ⟨wa, HWA⟩ : ∃ Q0, Hid (w1.alloc (.cells (sals (noS n)).toArray 9) = Q0) := ⟨_, rfl⟩
      obtain ⟨wb, HWB⟩ : ∃ Q0, Hid (wa.alloc (.cells (bals (noB n)).toArray 4) = Q0) := ⟨_, rfl⟩
      obtain ⟨g1, hg1⟩ : ∃ Q0, w1.heap.size = Q0 := ⟨_, rfl⟩
      obtain ⟨g2, hg2⟩ : ∃ Q0, wa.heap.size = Q0 := ⟨_, rfl⟩
      have hz1 : wa.heap.size = w1.heap.size + 1 := by rw [← HWA.out]; simp
      have hz0 : w.heap.size < w1.heap.size := KJ1.out.lt
      have HX0 : Hid (Bl w A nr cap s g1 g2 (noS n) (noB n) wb) := by
        have ba : Below w1.heap.size w1 wa := by rw [← HWA.out]; exact (Below.refl _ _).alloc (Nat.le_refl _) _
        have bb : Below wa.heap.size wa wb := by rw [← HWB.out]; exact (Below.refl _ _).alloc (Nat.le_refl _) _
        have k1 : Blk wa g1 9 (sals (noS n)).toArray := by rw [← HWA.out, ← hg1]; exact Blk.new w1 _ _
        have k2 : Blk wb g2 4 (bals (noB n)).toArray := by rw [← HWB.out, ← hg2]; exact Blk.new wa _ _
        have kj := KJ1.out.below ba KJ1.out.lt
        exact ⟨k1.below bb k1.lt, k2, kj.below bb kj.lt, (HB1.out.trans (ba.mono HB1.out.size)).trans (bb.mono (by omega)), by omega, by omega, by omega⟩
      clear hz1 hz0
      go_upto_region 4 with fail
      rw [HWA.out]
      (try rw [hg1])
      go_upto_region 5 with fail
      rw [HWB.out]
      (try rw [hg2])
      clear hg1 hg2 hmkS hmkB
      go_wp2_with fail
      go_loopw [8] (fun i w' => ∃ k : Nat, k ≤ nr ∧ i = .int .i64 k ∧ Hid (Bl w A nr cap s g1 g2 (blkS (rs.take k) n) (blkH (rs.take k) n) w')) (fun i _ => nr - (intOf i).toNat)
      case atStart => exact ⟨0, Nat.zero_le _, rfl, HX0⟩
      case round =>
        obtain ⟨k, hk, rfl, HX⟩ := hrel
        obtain ⟨j0, j1⟩ := jr_cells HX.out.kj
        by_cases hlt : k < nr
        · have HKZ : Hid (k < rs.length) := by show _ < _; rw [HN.out]; exact hlt
          have hj := HJ.out.belowS HX.out.below
          have hkz := HKZ.out
          obtain ⟨b, o, rfl⟩ := hj.row.some_ (by omega)
          obtain ⟨c0, c1⟩ := rec_cells hj.row k hkz
          obtain ⟨hr0, hr1, -⟩ := (recB_iff _).1 (HALL.out k hkz)
          obtain ⟨ri, HRI⟩ : ∃ x, Hid ((rth rs k).i = x) := ⟨_, rfl⟩
          obtain ⟨rt, HRT⟩ : ∃ x, Hid ((rth rs k).t = x) := ⟨_, rfl⟩
          have HONE : Hid (rth rs k = ⟨ri, rt⟩) := by
            show _ = _
            rw [← HRI.out, ← HRT.out]
          have HT : Hid (rs.take (k + 1) = rs.take k ++ [rth rs k]) := take_rth rs k hkz
          rw [HRI.out] at c0 hr0 hr1
          rw [HRT.out] at c1
          have hki : (k : Int) < (nr : Int) := by omega
          have hk0 : (0 : Int) ≤ (k : Int) := by omega
          clear hkz hj
          by_cases hin : ri < (n : Int)
          · obtain ⟨ix, hix0⟩ : ∃ v : Nat, ri = (v : Int) := ⟨ri.toNat, by omega⟩
            subst hix0
            have hix : ix < n := by omega
            have hixi : (ix : Int) < (n : Int) := by omega
            have hix00 : (0 : Int) ≤ (ix : Int) := by omega
            go_upto_region 9 with fail
            obtain ⟨a0, a1, a2, a3⟩ := HX.out.cells ix (by rw [blkS_length]; exact hix) (by rw [blkH_length]; exact hix)
            (try go_wp2_with fail)
            refine wp_region_held_drew (S := (fun w' => w'.cell? ⟨w.heap.size, 0, none⟩ = some (.slice (some ⟨b, o, none⟩) nr cap) ∧ w'.cell? ⟨b, o + k * 2, none⟩ = some (.int .i64 (ix : Int)) ∧ w'.cell? ⟨b, o + k * 2 + 1, none⟩ = some (.string rt))) (by kernel_rfl) (⟨j0, c0, c1⟩) (fun hHeld => ?_)
            obtain ⟨U0, HU0⟩ : ∃ U, Hid (wr.drew = U) := ⟨_, rfl⟩
            have HX0 := Lib.hid HX.out.drew
            rw [HU0.out] at HX0 hHeld ⊢
            clear a0 a1 a2 a3
            obtain ⟨a0, a1, a2, a3⟩ := HX0.out.cells ix (by rw [blkS_length]; exact hix) (by rw [blkH_length]; exact hix)
            clear j0 j1 c0 c1
            obtain ⟨j0, j1⟩ := jr_cells HX0.out.kj
            obtain ⟨c0, c1⟩ := rec_cells (HJ.out.belowS HX0.out.below).row k HKZ.out
            rw [HRI.out] at c0
            rw [HRT.out] at c1
            refine wpAnyH_take (i := 0) (v := ?zv30001) rfl (by kernel_rfl) (by kernel_rfl) (by kernel_rfl) (fun _ _ _ h => h) (Or.inl ⟨by kernel_rfl, ?zy30001⟩) (by assumption) ?zr30001
            case zy30001 => (intro w hSw; (try dsimp only at hSw); go_simp; try with_reducible rfl)
            change wpAnyH _ _ _ _ _ _ _ (Act.put _ (some 38) _) _
            simp only [Act.put, List.setIfInBounds_toArray, List.set_cons_zero, List.set_cons_succ]
            refine wpAnyH_take (i := 1) (v := ?zv30002) rfl (by kernel_rfl) (by kernel_rfl) (by kernel_rfl) (fun _ _ _ h => h) (Or.inl ⟨by kernel_rfl, ?zy30002⟩) (by assumption) ?zr30002
            case zy30002 => (intro w hSw; (try dsimp only at hSw); go_simp; try with_reducible rfl)
            change wpAnyH _ _ _ _ _ _ _ (Act.put _ (some 39) _) _
            simp only [Act.put, List.setIfInBounds_toArray, List.set_cons_zero, List.set_cons_succ]
            refine wpAnyH_take (i := 3) (v := ?zv30003) rfl (by kernel_rfl) (by kernel_rfl) (by kernel_rfl) (fun _ _ _ h => h) (Or.inl ⟨by kernel_rfl, ?zy30003⟩) (by assumption) ?zr30003
            case zy30003 => (intro w hSw; (try dsimp only at hSw); go_simp; try with_reducible rfl)
            change wpAnyH _ _ _ _ _ _ _ (Act.put _ (some 41) _) _
            simp only [Act.put, List.setIfInBounds_toArray, List.set_cons_zero, List.set_cons_succ]
            refine wpAnyH_take (i := 7) (v := ?zv30004) rfl (by kernel_rfl) (by kernel_rfl) (by kernel_rfl) (fun _ _ _ h => h) (Or.inl ⟨by kernel_rfl, ?zy30004⟩) (by assumption) ?zr30004
            case zy30004 => (intro w hSw; (try dsimp only at hSw); go_simp; try with_reducible rfl)
            change wpAnyH _ _ _ _ _ _ _ (Act.put _ (some 45) _) _
            simp only [Act.put, List.setIfInBounds_toArray, List.set_cons_zero, List.set_cons_succ]
            refine wpAnyH_take (i := 9) (v := ?zv30005) rfl (by kernel_rfl) (by kernel_rfl) (by kernel_rfl) (fun _ _ _ h => h) (Or.inl ⟨by kernel_rfl, ?zy30005⟩) (by assumption) ?zr30005
            case zy30005 => (intro w hSw; (try dsimp only at hSw); go_simp; try with_reducible rfl)
            change wpAnyH _ _ _ _ _ _ _ (Act.put _ (some 47) _) _
            simp only [Act.put, List.setIfInBounds_toArray, List.set_cons_zero, List.set_cons_succ]
            refine wpAnyH_take (i := 2) (v := ?zv30006) rfl (by kernel_rfl) (by kernel_rfl) (by kernel_rfl) (fun _ _ _ h => h) (Or.inl ⟨by kernel_rfl, ?zy30006⟩) (by assumption) ?zr30006
            case zy30006 => (intro w hSw; (try dsimp only at hSw); go_simp; try with_reducible rfl)
            change wpAnyH _ _ _ _ _ _ _ (Act.put _ (some 40) _) _
            simp only [Act.put, List.setIfInBounds_toArray, List.set_cons_zero, List.set_cons_succ]
            refine wpAnyH_take (i := 8) (v := ?zv30007) rfl (by kernel_rfl) (by kernel_rfl) (by kernel_rfl) (fun _ _ _ h => h) (Or.inl ⟨by kernel_rfl, ?zy30007⟩) (by assumption) ?zr30007
            case zy30007 => (intro w hSw; (try dsimp only at hSw); go_simp; try with_reducible rfl)
            change wpAnyH _ _ _ _ _ _ _ (Act.put _ (some 46) _) _
            simp only [Act.put, List.setIfInBounds_toArray, List.set_cons_zero, List.set_cons_succ]
            refine wpAnyH_take (i := 4) (v := ?zv30008) rfl (by kernel_rfl) (by kernel_rfl) (by kernel_rfl) (fun _ _ _ h => h) (Or.inl ⟨by kernel_rfl, ?zy30008⟩) (by assumption) ?zr30008
            case zy30008 => (intro w hSw; (try dsimp only at hSw); go_simp; try with_reducible rfl)
            change wpAnyH _ _ _ _ _ _ _ (Act.put _ (some 42) _) _
            simp only [Act.put, List.setIfInBounds_toArray, List.set_cons_zero, List.set_cons_succ]
            refine wpAnyH_take (i := 10) (v := ?zv30009) rfl (by kernel_rfl) (by kernel_rfl) (by kernel_rfl) (fun _ _ _ h => h) (Or.inl ⟨by kernel_rfl, ?zy30009⟩) (by assumption) ?zr30009
            case zy30009 => (intro w hSw; (try dsimp only at hSw); go_simp; try with_reducible rfl)
            change wpAnyH _ _ _ _ _ _ _ (Act.put _ (some 48) _) _
            simp only [Act.put, List.setIfInBounds_toArray, List.set_cons_zero, List.set_cons_succ]
            refine wpAnyH_take (i := 5) (v := ?zv30010) rfl (by kernel_rfl) (by kernel_rfl) (by kernel_rfl) (fun _ _ _ h => h) (Or.inl ⟨by kernel_rfl, ?zy30010⟩) (by assumption) ?zr30010
            case zy30010 => (intro w hSw; (try dsimp only at hSw); go_simp; try with_reducible rfl)
            change wpAnyH _ _ _ _ _ _ _ (Act.put _ (some 43) _) _
            simp only [Act.put, List.setIfInBounds_toArray, List.set_cons_zero, List.set_cons_succ]
            refine wpAnyH_take (i := 11) (v := ?zv30011) rfl (by kernel_rfl) (by kernel_rfl) (by kernel_rfl) (fun _ _ _ h => h) (Or.inl ⟨by kernel_rfl, ?zy30011⟩) (by assumption) ?zr30011
            case zy30011 => (intro w hSw; (try dsimp only at hSw); go_simp; try with_reducible rfl)
            change wpAnyH _ _ _ _ _ _ _ (Act.put _ (some 49) _) _
            simp only [Act.put, List.setIfInBounds_toArray, List.set_cons_zero, List.set_cons_succ]
            refine wpAnyH_take (i := 6) (v := ?zv30012) rfl (by kernel_rfl) (by kernel_rfl) (by kernel_rfl) (fun _ _ _ h => h) (Or.inl ⟨by kernel_rfl, ?zy30012⟩) (by assumption) ?zr30012
            case zy30012 => (intro w hSw; (try dsimp only at hSw); go_simp; try with_reducible rfl)
            change wpAnyH _ _ _ _ _ _ _ (Act.put _ (some 44) _) _
            simp only [Act.put, List.setIfInBounds_toArray, List.set_cons_zero, List.set_cons_succ]
            refine wpAnyH_take (i := 12) (v := ?zv30013) rfl (by kernel_rfl) (by kernel_rfl) (by kernel_rfl) (fun _ _ _ h => h) (Or.inl ⟨by kernel_rfl, ?zy30013⟩) (by assumption) ?zr30013
            case zy30013 => (intro w hSw; (try dsimp only at hSw); go_simp; try with_reducible rfl)
            change wpAnyH _ _ _ _ _ _ _ (Act.put _ (some 50) _) _
            simp only [Act.put, List.setIfInBounds_toArray, List.set_cons_zero, List.set_cons_succ]
            refine wpAnyH_take (i := 13) (v := ?zv30014) rfl (by kernel_rfl) (by kernel_rfl) (by kernel_rfl) (fun _ _ _ h => h) (Or.inl ⟨by kernel_rfl, ?zy30014⟩) (by assumption) ?zr30014
            case zy30014 => (intro w hSw; (try dsimp only at hSw); go_simp; try with_reducible rfl)
            change wpAnyH _ _ _ _ _ _ _ (Act.put _ (some 51) _) _
            simp only [Act.put, List.setIfInBounds_toArray, List.set_cons_zero, List.set_cons_succ]
            refine wpAnyH_ready (rs := [14]) (by kernel_rfl) (by simp) (AllReadyH.cons rfl (fun K hK => ?zo30015_0) AllReadyH.nil)
            case zo30015_0 =>
              go_simp
              obtain ⟨U1, HU1⟩ : ∃ Q0, Hid (U0.setCell ⟨g1, ix, none⟩ (.string rt) = Q0) := ⟨_, rfl⟩
              have HX1 := Lib.hid (HX0.out.putS ix rt)
              rw [HU1.out] at HX1
              clear j0 j1 c0 c1
              obtain ⟨j0, j1⟩ := jr_cells HX1.out.kj
              obtain ⟨c0, c1⟩ := rec_cells (HJ.out.belowS HX1.out.below).row k HKZ.out
              rw [HRI.out] at c0
              rw [HRT.out] at c1
              rw [HU1.out]
              refine hK.out _ _ (⟨j0, c0, c1⟩) (fun hHeld => ?_)
              clear hK K
              (try simp only [Act.put])
              clear a0 a1 a2 a3
              obtain ⟨a0, a1, a2, a3⟩ := HX1.out.cells ix (by (try simp only [List.length_set]); rw [blkS_length]; exact hix) (by (try simp only [List.length_set]); rw [blkH_length]; exact hix)
              refine wpAnyH_done (by kernel_rfl) ?_ _
              go_wp2
              go_roundw
              case rel =>
                refine ⟨k + 1, by omega, by go_num, ?_⟩
                have h := HX1.out.putB ix true
                show Hid (Bl w _ nr cap s g1 g2 (blkS (rs.take (k + 1)) n) (blkH (rs.take (k + 1)) n) _)
                rw [HT.out, HONE.out, blkS_snoc, blkH_snoc]
                exact h
              case measure => simp [intOf]; omega
          · have HOUT : Hid (blkS (rs.take (k + 1)) n = blkS (rs.take k) n ∧ blkH (rs.take (k + 1)) n = blkH (rs.take k) n) := by
              show _ ∧ _
              rw [HT.out, HONE.out, blkS_snoc, blkH_snoc]
              exact ⟨List.set_eq_of_length_le (by rw [blkS_length]; show n ≤ ri.toNat; omega), List.set_eq_of_length_le (by rw [blkH_length]; show n ≤ ri.toNat; omega)⟩
            go_wp2
            go_roundw
            case rel =>
              refine ⟨k + 1, by omega, by go_num, ?_⟩
              rw [HOUT.out.1, HOUT.out.2]
              exact HX
            case measure => simp [intOf]; omega
        · have hkk : k = nr := by omega
          subst hkk
          have HE : Hid (rs.take k = rs) := List.take_of_length_le (by rw [HN.out]; exact Nat.le_refl _)
          have hx := HX.out
          rw [HE.out] at hx
          have HXE := Lib.hid hx
          clear hx
          have h1 := owns_row (base := w.heap.size) HXE.out.k1 (by have := HXE.out.b1; omega) (by rw [blkS_length]; unfold maxLen; omega)
          have h2 := ownb_row (base := w.heap.size) HXE.out.k2 (by have := HXE.out.b2; omega) (by rw [blkH_length]; unfold maxLen; omega)
          rw [blkS_length] at h1
          rw [blkH_length] at h2
          have HO1 := Lib.hid h1
          have HO2 := Lib.hid h2
          clear h1 h2
          go_wp2
          go_ret2
          exact ⟨g1, n, g2, n, by rw [blkS_length, blkH_length]; rfl, HO1.out, HO2.out, HXE.out.below⟩
    · have CI : Hid (∀ U, Calls Try.prog 33 #[.int .i64 len, .int .i64 0, .int .i64 16] U fun e w' => e = .returned (.bool false) ∧ U = w') := fun U => in_no len 0 16 U hl
      have FIN2 := Lib.hid (FIN.out (by unfold blkOk; rw [HO.out, decide_eq_false hl]; rfl))
      clear FIN hl
      go_enter Try.func23, Try.ntmps23
      go_wp2_with fail
      rw [HW.out]
      refine (CV.out _ HB.out).mono ?_
      rintro e w1 ⟨rfl, hb1⟩
      have KJ1 := Lib.hid (KJ.out.below hb1 KJ.out.lt)
      have HB1 : Hid (Below w.heap.size w w1) := HB.out.trans (hb1.mono HB.out.size)
      clear hb1
      go_wp2_with fail
      refine (CI.out _).mono ?_
      rintro e w2 ⟨rfl, rfl⟩
      go_wp2
      go_ret2
      exact FIN2.out _ HB1.out HB1.out.size

end Go.Proofs.Ytmddfjfflgfdlaa
