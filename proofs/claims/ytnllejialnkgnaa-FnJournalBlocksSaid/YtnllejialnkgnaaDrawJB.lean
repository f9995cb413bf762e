/- The contract of DrawJournalBlocks. Condition: the code's bytes lie in memory. -/
import Derived.Test.YtnllejialnkgnaaDrawJ
namespace Go.Proofs.Ytnllejialnkgnaa
open Go.RowKit Go.Conc
set_option linter.unusedVariables false

set_option maxHeartbeats 8000000 in
set_option maxRecDepth 100000 in
theorem drawJBlocks_any (A : Option Addr) (len cap : Nat) (w : World) (hI : In w A len cap) :
    Calls Try.prog 8 #[.slice A len cap] w (JNumDrawn w) := by
  obtain ⟨W, HW⟩ : ∃ Q0, Hid ((w.alloc (.cells #[.slice none 0 0, .int .i64 0] 25)) = Q0) := ⟨_, rfl⟩
  have HI : Hid (In W A len cap) := by rw [← HW.out]; exact in_alloc hI _
  have KR : Hid (Blk W w.heap.size 25 #[.slice none 0 0, .int .i64 0]) := by rw [← HW.out]; exact Blk.new w _ _
  have HB : Hid (Below w.heap.size w W) := by rw [← HW.out]; exact (Below.refl _ w).alloc (Nat.le_refl _) _
  have hWz : w.heap.size < W.heap.size := KR.out.lt
  clear hI
  go_enter Try.func8, Try.ntmps8
  go_upto_region 1 with fail
  rw [HW.out]
  go_wp2_with fail
  refine (open_any A len cap _ HI.out).mono ?_
  rintro e w1 ⟨len', cap', rfl, hR1, hb1⟩
  have HR1 := Lib.hid hR1
  have KR1 := Lib.hid (KR.out.below hb1 KR.out.lt)
  have HB1 : Hid (Below w.heap.size w w1) := HB.out.trans (hb1.mono HB.out.size)
  clear hR1 hb1
  go_wp2_with fail
  refine (drawjournal_any HR1.out (by omega)).mono ?_
  rintro e w2 ⟨X, c, rs, s, q2, rfl, ho2, hf, hl, hs0, hs1, hq2, hR2, hg2⟩
  obtain ⟨n, HN⟩ : ∃ v, Hid (rs.length = v) := ⟨_, rfl⟩
  rw [HN.out] at hl ⊢
  have HR2 := Lib.hid hR2
  have KR2 := Lib.hid (KR1.out.grown hg2 (fun e => by injection e with e; omega))
  have HB2 : Hid (Below w.heap.size w w2) := HB1.out.grown hg2 HB1.out.size (fun i hi => by injection hi with hi; omega)
  have hz12 : W.heap.size < w1.heap.size := HR1.out.lt
  have hz2 : w1.heap.size ≤ w2.heap.size := hg2.size
  have HO2 := Lib.hid ho2
  have HF := Lib.hid hf
  clear ho2 hg2 hR2 hf
  go_wp2_with fail
  obtain ⟨w3, HW3⟩ : ∃ Q0, Hid (w2.alloc (.cells #[.slice X n c, .int .i64 s] 25) = Q0) := ⟨_, rfl⟩
  have KJ3 : Hid (Blk w3 w2.heap.size 25 #[.slice X n c, .int .i64 s]) := by rw [← HW3.out]; exact Blk.new w2 _ _
  have KR3 : Hid (Blk w3 w.heap.size 25 #[.slice none 0 0, .int .i64 0]) := by rw [← HW3.out]; exact KR2.out.alloc _
  have HB3 : Hid (Below w.heap.size w w3) := by rw [← HW3.out]; exact HB2.out.alloc HB2.out.size _
  have HO3 : Hid (OwnRow RK w3 w1.heap.size X c rs) := by rw [← HW3.out]; exact HO2.out.alloc _
  have HR3 : Hid (Rd w3 W.heap.size W.heap.size A len' cap' q2) := by rw [← HW3.out]; exact HR2.out.alloc _
  have hz3 : w2.heap.size < w3.heap.size := KJ3.out.lt
  rw [HW3.out]
  (try go_wp2_with fail)
  refine wp_region_held_drew (S := (fun w' => w'.cell? ⟨w2.heap.size, 0, none⟩ = some (.slice X n c) ∧ w'.cell? ⟨w2.heap.size, 1, none⟩ = some (.int .i64 s))) (by kernel_rfl) (jr_cells KJ3.out) (fun hHeld => ?_)
  obtain ⟨U0, HU0⟩ : ∃ U, Hid (w3.drew = U) := ⟨_, rfl⟩
  have KJ0 : Hid (Blk U0 w2.heap.size 25 #[.slice X n c, .int .i64 s]) := by rw [← HU0.out]; exact KJ3.out
  have KR0 : Hid (Blk U0 w.heap.size 25 #[.slice none 0 0, .int .i64 0]) := by rw [← HU0.out]; exact KR3.out
  have HB0 : Hid (Below w.heap.size w U0) := by rw [← HU0.out]; exact below_drew HB3.out
  have HO0 : Hid (OwnRow RK U0 w1.heap.size X c rs) := by rw [← HU0.out]; exact HO3.out
  have HR0 : Hid (Rd U0 W.heap.size W.heap.size A len' cap' q2) := by rw [← HU0.out]; exact HR3.out.drew
  rw [HU0.out] at hHeld ⊢
  refine wpAnyH_take (i := 0) (v := ?zv16) rfl (by kernel_rfl) (by kernel_rfl) (by kernel_rfl) (fun _ _ _ h => h) (Or.inl ⟨by kernel_rfl, ?zy16⟩) (by assumption) ?zr16
  case zy16 => (intro w hSw; (try dsimp only at hSw); go_simp; try with_reducible rfl)
  change wpAnyH _ _ _ _ _ _ _ (Act.put _ (some 10) _) _
  simp only [Act.put, List.setIfInBounds_toArray, List.set_cons_zero, List.set_cons_succ]
  refine wpAnyH_take (i := 1) (v := ?zv17) rfl (by kernel_rfl) (by kernel_rfl) (by kernel_rfl) (fun _ _ _ h => h) (Or.inl ⟨by kernel_rfl, ?zy17⟩) (by assumption) ?zr17
  case zy17 => (intro w hSw; (try dsimp only at hSw); go_simp; try with_reducible rfl)
  change wpAnyH _ _ _ _ _ _ _ (Act.put _ (some 11) _) _
  simp only [Act.put, List.setIfInBounds_toArray, List.set_cons_zero, List.set_cons_succ]
  refine wpAnyH_take (i := 3) (v := ?zv18) rfl (by kernel_rfl) (by kernel_rfl) (by kernel_rfl) (fun _ _ _ h => h) (Or.inl ⟨by kernel_rfl, ?zy18⟩) (by assumption) ?zr18
  case zy18 => (intro w hSw; (try dsimp only at hSw); go_simp; try with_reducible rfl)
  change wpAnyH _ _ _ _ _ _ _ (Act.put _ (some 13) _) _
  simp only [Act.put, List.setIfInBounds_toArray, List.set_cons_zero, List.set_cons_succ]
  refine wpAnyH_take (i := 7) (v := ?zv19) rfl (by kernel_rfl) (by kernel_rfl) (by kernel_rfl) (fun _ _ _ h => h) (Or.inl ⟨by kernel_rfl, ?zy19⟩) (by assumption) ?zr19
  case zy19 => (intro w hSw; (try dsimp only at hSw); go_simp; try with_reducible rfl)
  change wpAnyH _ _ _ _ _ _ _ (Act.put _ (some 17) _) _
  simp only [Act.put, List.setIfInBounds_toArray, List.set_cons_zero, List.set_cons_succ]
  refine wpAnyH_ready (rs := [2]) (by kernel_rfl) (by simp) (AllReadyH.cons rfl (fun K hK => ?zo20_0) AllReadyH.nil)
  case zo20_0 =>
    go_simp
    go_at_call 33
    refine (pick_any 17 HR0.out (by omega) (by omega) (by omega)).mono ?_
    rintro e U1 ⟨x, hx, rfl, hR1, hg1, hzz1⟩
    have KR1 := Lib.hid (KR0.out.grown hg1 (fun e => by injection e with e; omega))
    have KJ1 := Lib.hid (KJ0.out.grown hg1 (fun e => by injection e with e; omega))
    have HB1 : Hid (Below w.heap.size w U1) := HB0.out.grown hg1 HB0.out.size (fun i hi => by injection hi with hi; omega)
    have HO1 := Lib.hid (HO0.out.keep hg1 (fun i hi => by injection hi with hi; omega))
    have HR1 := Lib.hid hR1
    clear hR1 hg1
    clear hzz1
    refine hK.out _ _ (jr_cells KJ1.out) (fun hHeld => ?_)
    clear hK K
    (try simp only [Act.put, List.setIfInBounds_toArray, List.set_cons_zero, List.set_cons_succ])
    refine wpAnyH_ready (rs := [4]) (by kernel_rfl) (by simp) (AllReadyH.cons rfl (fun K hK => ?zo21_0) AllReadyH.nil)
    case zo21_0 =>
      go_simp
      go_at_call 33
      refine (pick_any 20 HR1.out (by omega) (by omega) (by omega)).mono ?_
      rintro e U2 ⟨yy, hyy, rfl, hR2, hg2, hzz2⟩
      have KR2 := Lib.hid (KR1.out.grown hg2 (fun e => by injection e with e; omega))
      have KJ2 := Lib.hid (KJ1.out.grown hg2 (fun e => by injection e with e; omega))
      have HB2 : Hid (Below w.heap.size w U2) := HB1.out.grown hg2 HB1.out.size (fun i hi => by injection hi with hi; omega)
      have HO2 := Lib.hid (HO1.out.keep hg2 (fun i hi => by injection hi with hi; omega))
      have HR2 := Lib.hid hR2
      clear hR2 hg2
      clear hzz2
      refine hK.out _ _ (jr_cells KJ2.out) (fun hHeld => ?_)
      clear hK K
      (try simp only [Act.put, List.setIfInBounds_toArray, List.set_cons_zero, List.set_cons_succ])
      have hyq : 0 ≤ (yy : Int) / 19 ∧ (yy : Int) / 19 ≤ 1 := by omega
      obtain ⟨d, hd⟩ : ∃ d, (yy : Int) / 19 = d := ⟨_, rfl⟩
      have hx0 : (0 : Int) ≤ (x : Int) ∧ (x : Int) ≤ 16 := by omega
      have hy0 : (0 : Int) ≤ (yy : Int) := by omega
      rw [hd] at hyq
      obtain ⟨hd0, hd1⟩ := hyq
      obtain ⟨hx00, hx01⟩ := hx0
      have hw1 : IntKind.i64.wrap d = d := IntWalk.i64_in _ (by omega)
      have hw2 : IntKind.i64.wrap ((x : Int) + d) = (x : Int) + d := IntWalk.i64_in _ (by omega)
      refine wpAnyH_take (i := 5) (v := ?zv22) rfl (by kernel_rfl) (by kernel_rfl) (by kernel_rfl) (fun _ _ _ h => h) (Or.inl ⟨by kernel_rfl, ?zy22⟩) (by assumption) ?zr22
      case zy22 => (intro w hSw; (try dsimp only at hSw); go_simp; try with_reducible rfl)
      change wpAnyH _ _ _ _ _ _ _ (Act.put _ (some 15) _) _
      simp only [Act.put, List.setIfInBounds_toArray, List.set_cons_zero, List.set_cons_succ]
      refine wpAnyH_take (i := 6) (v := ?zv23) rfl (by kernel_rfl) (by kernel_rfl) (by kernel_rfl) (fun _ _ _ h => h) (Or.inl ⟨by kernel_rfl, ?zy23⟩) (by assumption) ?zr23
      case zy23 => (intro w hSw; (try dsimp only at hSw); go_simp; try with_reducible rfl)
      change wpAnyH _ _ _ _ _ _ _ (Act.put _ (some 16) _) _
      simp only [Act.put, List.setIfInBounds_toArray, List.set_cons_zero, List.set_cons_succ]
      refine wpAnyH_ready (rs := [8]) (by kernel_rfl) (by simp) (AllReadyH.cons rfl (fun K hK => ?zo24_0) AllReadyH.nil)
      case zo24_0 =>
        go_simp
        go_at_call 33
        refine (pick_any 20 HR2.out (by omega) (by omega) (by omega)).mono ?_
        rintro e U3 ⟨zz, hzz, rfl, hR3, hg3, hzz3⟩
        have KR3 := Lib.hid (KR2.out.grown hg3 (fun e => by injection e with e; omega))
        have KJ3 := Lib.hid (KJ2.out.grown hg3 (fun e => by injection e with e; omega))
        have HB3 : Hid (Below w.heap.size w U3) := HB2.out.grown hg3 HB2.out.size (fun i hi => by injection hi with hi; omega)
        have HO3 := Lib.hid (HO2.out.keep hg3 (fun i hi => by injection hi with hi; omega))
        have HR3 := Lib.hid hR3
        clear hR3 hg3
        clear hzz3
        refine hK.out _ _ (jr_cells KJ3.out) (fun hHeld => ?_)
        clear hK K
        (try simp only [Act.put, List.setIfInBounds_toArray, List.set_cons_zero, List.set_cons_succ])
        have hzq : 0 ≤ (zz : Int) / 19 ∧ (zz : Int) / 19 ≤ 1 := by omega
        obtain ⟨d2, he⟩ : ∃ d, (zz : Int) / 19 = d := ⟨_, rfl⟩
        have hzz0 : (0 : Int) ≤ (zz : Int) := by omega
        rw [he] at hzq
        obtain ⟨he0, he1⟩ := hzq
        have hw3 : IntKind.i64.wrap d2 = d2 := IntWalk.i64_in _ (by omega)
        have hw4 : IntKind.i64.wrap (d2 * 2) = d2 * 2 := IntWalk.i64_in _ (by omega)
        have hw5 : IntKind.i64.wrap ((x : Int) + d - d2 * 2) = (x : Int) + d - d2 * 2 := IntWalk.i64_in _ (by omega)
        refine wpAnyH_take (i := 9) (v := ?zv25) rfl (by kernel_rfl) (by kernel_rfl) (by kernel_rfl) (fun _ _ _ h => h) (Or.inl ⟨by kernel_rfl, ?zy25⟩) (by assumption) ?zr25
        case zy25 => (intro w hSw; (try dsimp only at hSw); go_simp; try with_reducible rfl)
        change wpAnyH _ _ _ _ _ _ _ (Act.put _ (some 19) _) _
        simp only [Act.put, List.setIfInBounds_toArray, List.set_cons_zero, List.set_cons_succ]
        refine wpAnyH_take (i := 10) (v := ?zv26) rfl (by kernel_rfl) (by kernel_rfl) (by kernel_rfl) (fun _ _ _ h => h) (Or.inl ⟨by kernel_rfl, ?zy26⟩) (by assumption) ?zr26
        case zy26 => (intro w hSw; (try dsimp only at hSw); go_simp; try with_reducible rfl)
        change wpAnyH _ _ _ _ _ _ _ (Act.put _ (some 20) _) _
        simp only [Act.put, List.setIfInBounds_toArray, List.set_cons_zero, List.set_cons_succ]
        refine wpAnyH_take (i := 11) (v := ?zv27) rfl (by kernel_rfl) (by kernel_rfl) (by kernel_rfl) (fun _ _ _ h => h) (Or.inl ⟨by kernel_rfl, ?zy27⟩) (by assumption) ?zr27
        case zy27 => (intro w hSw; (try dsimp only at hSw); go_simp; try with_reducible rfl)
        change wpAnyH _ _ _ _ _ _ _ (Act.put _ (some 21) _) _
        simp only [Act.put, List.setIfInBounds_toArray, List.set_cons_zero, List.set_cons_succ]
        refine wpAnyH_ready (rs := [12]) (by kernel_rfl) (by simp) (AllReadyH.cons rfl (fun K hK => ?zo28_0) AllReadyH.nil)
        case zo28_0 =>
          go_simp
          obtain ⟨n0, n1⟩ := jr_cells KR3.out
          have nf := blk_frozen KR3.out
          obtain ⟨U4, HU4⟩ : ∃ Q0, Hid ((U3.setCell ⟨w.heap.size, 0, none⟩ (.slice X n c)).setCell ⟨w.heap.size, 1, none⟩ (.int .i64 s) = Q0) := ⟨_, rfl⟩
          have KR4 : Hid (Blk U4 w.heap.size 25 #[.slice X n c, .int .i64 s]) := by rw [← HU4.out]; exact blk_two KR3.out _ _
          have HO4 : Hid (OwnRow RK U4 w1.heap.size X c rs) := by rw [← HU4.out]; exact rown_two HO3.out KR3.out _ _
          have KJ4 : Hid (Blk U4 w2.heap.size 25 #[.slice X n c, .int .i64 s]) := by rw [← HU4.out]; exact (KJ3.out.setOther (p := ⟨w.heap.size, 0, none⟩) (by show w.heap.size ≠ w2.heap.size; omega) _).setOther (p := ⟨w.heap.size, 1, none⟩) (by show w.heap.size ≠ w2.heap.size; omega) _
          have HB4 : Hid (Below w.heap.size w U4) := by rw [← HU4.out]; exact below_two HB3.out (by omega) _ _
          have HR4 : True := trivial
          go_simp
          rw [HU4.out]
          refine hK.out _ _ (jr_cells KJ4.out) (fun hHeld => ?_)
          clear hK K
          (try simp only [Act.put])
          clear n0 n1 nf
          refine wpAnyH_take (i := 13) (v := ?zv29) rfl (by kernel_rfl) (by kernel_rfl) (by kernel_rfl) (fun _ _ _ h => h) (Or.inl ⟨by kernel_rfl, ?zy29⟩) (by assumption) ?zr29
          case zy29 => (intro w hSw; (try dsimp only at hSw); go_simp; try with_reducible rfl)
          change wpAnyH _ _ _ _ _ _ _ (Act.put _ (some 3) _) _
          simp only [Act.put, List.setIfInBounds_toArray, List.set_cons_zero, List.set_cons_succ]
          refine wpAnyH_done (by kernel_rfl) ?_ _
          go_wp2
          obtain ⟨y0, y1⟩ := jr_cells KR4.out
          exact bodyPost_ret (v := .tuple #[journalV X n c s, .int .i64 ((x : Int) + d - d2 * 2)]) (by simp [results, Try.results8, go_sem, y0, y1]) rfl ⟨X, c, rs, s, (x : Int) + d - d2 * 2, by rw [HN.out], HO4.out.base_le (by omega), HF.out, by rw [HN.out]; exact hl, hs0, hs1, by omega, by omega, HB4.out⟩

end Go.Proofs.Ytnllejialnkgnaa
