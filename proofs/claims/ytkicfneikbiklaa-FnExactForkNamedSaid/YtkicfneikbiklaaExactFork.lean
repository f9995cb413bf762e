/- Contracts of the laws' functions toFork and eqFork: a proof of a fork copied, two equal ones compared. No conditions. -/
import Derived.Test.YtkicfneikbiklaaFork
import Derived.Test.YtkicfneikbiklaaBaseE
import Derived.Test.YtkicfneikbiklaaBaseH
import Derived.Test.YtkicfneikbiklaaDrawFork
namespace Go.Proofs.Ytkicfneikbiklaa
open Go.RowKit
set_option linter.unusedVariables false

set_option maxHeartbeats 4000000 in
set_option maxRecDepth 100000 in
theorem toFork_any (p a b c x y z : Int) (w : World) :
    Calls Try.prog 30 #[forkV p a b c x y z] w fun e w' => e = .returned (forkV p a b c x y z) ∧ Below w.heap.size w w' := by
  obtain ⟨W, HW⟩ : ∃ W, Hid (((w.alloc (.cells (forkC p a b c x y z) 57)).alloc (.cells (forkC 0 0 0 0 0 0 0) 32)).alloc (.cells (forkC p 0 0 0 0 0 0) 32) = W) := ⟨_, rfl⟩
  have hz : W.heap.size = w.heap.size + 3 := by rw [← HW.out]; simp
  have HZ := Lib.hid hz
  have KA : Hid (Blk W w.heap.size 57 (forkC p a b c x y z)) := by rw [← HW.out]; exact ((Blk.new w _ _).alloc _).alloc _
  have KR : Hid (Blk W (w.heap.size + 1) 32 (forkC 0 0 0 0 0 0 0)) := by
    rw [← HW.out]
    have h := (Blk.new (w.alloc (.cells (forkC p a b c x y z) 57)) 32 (forkC 0 0 0 0 0 0 0)).alloc (.cells (forkC p 0 0 0 0 0 0) 32)
    rw [World.size_alloc] at h
    exact h
  have KX : Hid (Blk W (w.heap.size + 1 + 1) 32 (forkC p 0 0 0 0 0 0)) := by
    rw [← HW.out]
    have h := Blk.new ((w.alloc (.cells (forkC p a b c x y z) 57)).alloc (.cells (forkC 0 0 0 0 0 0 0) 32)) 32 (forkC p 0 0 0 0 0 0)
    rw [World.size_alloc, World.size_alloc] at h
    exact h
  have HB : Hid (Below w.heap.size w W) := by rw [← HW.out]; exact (((Below.refl _ w).alloc (Nat.le_refl _) _).alloc (by simp) _).alloc (by simp; omega) _
  clear hz
  go_enter Try.func30, Try.ntmps30
  go_wp2_with fail
  rw [HW.out]
  refine (toHead_any a b c _).mono ?_
  rintro e w1 ⟨rfl, hb1⟩
  have KA1 := Lib.hid (KA.out.below hb1 KA.out.lt)
  have KR1 := Lib.hid (KR.out.below hb1 KR.out.lt)
  have KX1 := Lib.hid (KX.out.below hb1 KX.out.lt)
  have HB1 : Hid (Below w.heap.size w w1) := HB.out.trans (hb1.mono HB.out.size)
  clear hb1
  obtain ⟨k0, k1, k2, k3, k4, k5, k6⟩ := fork_cells KA1.out
  obtain ⟨j0, j1, j2, j3, j4, j5, j6⟩ := fork_cells KX1.out
  have jf := blk_frozen KX1.out
  obtain ⟨U, HU⟩ : ∃ U, Hid (((w1.setCell ⟨w.heap.size + 1 + 1, 1, none⟩ (.int .i64 a)).setCell ⟨w.heap.size + 1 + 1, 2, none⟩ (.int .i64 b)).setCell ⟨w.heap.size + 1 + 1, 3, none⟩ (.int .i64 c) = U) := ⟨_, rfl⟩
  have HBU : Hid (Below (w.heap.size + 1 + 1) w1 U) := by rw [← HU.out]; exact (((Below.refl _ w1).setCell (p := ⟨w.heap.size + 1 + 1, 1, none⟩) (Nat.le_refl _) _).setCell (p := ⟨w.heap.size + 1 + 1, 2, none⟩) (Nat.le_refl _) _).setCell (p := ⟨w.heap.size + 1 + 1, 3, none⟩) (Nat.le_refl _) _
  have KXU : Hid (Blk U (w.heap.size + 1 + 1) 32 (forkC p a b c 0 0 0)) := by rw [← HU.out]; exact ((KX1.out.setOwn 1 _).setOwn 2 _).setOwn 3 _
  have KAU := Lib.hid (KA1.out.below HBU.out (by omega))
  have KRU := Lib.hid (KR1.out.below HBU.out (by omega))
  have HBw : Hid (Below w.heap.size w U) := HB1.out.trans (HBU.out.mono (by omega))
  go_wp2_with fail
  rw [HU.out]
  refine (toHead_any x y z _).mono ?_
  rintro e w2 ⟨rfl, hb2⟩
  have KR2 := Lib.hid (KRU.out.below hb2 KRU.out.lt)
  have KX2 := Lib.hid (KXU.out.below hb2 KXU.out.lt)
  have HB2 : Hid (Below w.heap.size w w2) := HBw.out.trans (hb2.mono HBw.out.size)
  clear hb2 k0 k1 k2 k3 k4 k5 k6 j0 j1 j2 j3 j4 j5 j6 jf
  obtain ⟨j0, j1, j2, j3, j4, j5, j6⟩ := fork_cells KX2.out
  have jf := blk_frozen KX2.out
  obtain ⟨T, HT⟩ : ∃ T, Hid (((w2.setCell ⟨w.heap.size + 1 + 1, 4, none⟩ (.int .i64 x)).setCell ⟨w.heap.size + 1 + 1, 5, none⟩ (.int .i64 y)).setCell ⟨w.heap.size + 1 + 1, 6, none⟩ (.int .i64 z) = T) := ⟨_, rfl⟩
  have HBT : Hid (Below (w.heap.size + 1 + 1) w2 T) := by rw [← HT.out]; exact (((Below.refl _ w2).setCell (p := ⟨w.heap.size + 1 + 1, 4, none⟩) (Nat.le_refl _) _).setCell (p := ⟨w.heap.size + 1 + 1, 5, none⟩) (Nat.le_refl _) _).setCell (p := ⟨w.heap.size + 1 + 1, 6, none⟩) (Nat.le_refl _) _
  have KXT : Hid (Blk T (w.heap.size + 1 + 1) 32 (forkC p a b c x y z)) := by rw [← HT.out]; exact ((KX2.out.setOwn 4 _).setOwn 5 _).setOwn 6 _
  have KRT := Lib.hid (KR2.out.below HBT.out (by omega))
  have HBTw : Hid (Below w.heap.size w T) := HB2.out.trans (HBT.out.mono (by omega))
  go_upto_region 5 with fail
  rw [HT.out]
  clear j0 j1 j2 j3 j4 j5 j6 jf
  obtain ⟨j0, j1, j2, j3, j4, j5, j6⟩ := fork_cells KXT.out
  obtain ⟨z0, z1, z2, z3, z4, z5, z6⟩ := fork_cells KRT.out
  have zf := blk_frozen KRT.out
  go_wp2
  obtain ⟨Y9, HY9⟩ : ∃ Y9, Hid ((((((((T.setCell ⟨w.heap.size + 1, 0, none⟩ (.int .i64 p)).setCell ⟨w.heap.size + 1, 1, none⟩ (.int .i64 a)).setCell ⟨w.heap.size + 1, 2, none⟩ (.int .i64 b)).setCell ⟨w.heap.size + 1, 3, none⟩ (.int .i64 c)).setCell ⟨w.heap.size + 1, 4, none⟩ (.int .i64 x)).setCell ⟨w.heap.size + 1, 5, none⟩ (.int .i64 y)).setCell ⟨w.heap.size + 1, 6, none⟩ (.int .i64 z)) = Y9) := ⟨_, rfl⟩
  have HBY : Hid (Below w.heap.size w Y9) := by rw [← HY9.out]; exact below_seven HBTw.out (by omega) _ _ _ _ _ _ _
  have KRY : Hid (Blk Y9 (w.heap.size + 1) 32 (forkC p a b c x y z)) := by rw [← HY9.out]; exact blk_seven KRT.out _ _ _ _ _ _ _
  rw [HY9.out]
  obtain ⟨y0, y1, y2, y3, y4, y5, y6⟩ := fork_cells KRY.out
  exact bodyPost_ret (v := forkV p a b c x y z) (by simp [results, Try.results30, go_sem, y0, y1, y2, y3, y4, y5, y6]) rfl ⟨rfl, HBY.out⟩

set_option maxHeartbeats 2000000 in
theorem eqFork_same (p a b c x y z : Int) (w : World) :
    Calls Try.prog 31 #[forkV p a b c x y z, forkV p a b c x y z] w fun e w' => e = .returned (.bool true) ∧ Below w.heap.size w w' := by
  obtain ⟨W, HW⟩ : ∃ W, Hid ((w.alloc (.cells (forkC p a b c x y z) 32)).alloc (.cells (forkC p a b c x y z) 32) = W) := ⟨_, rfl⟩
  have KA : Hid (Blk W w.heap.size 32 (forkC p a b c x y z)) := by rw [← HW.out]; exact (Blk.new w _ _).alloc _
  have KX : Hid (Blk W (w.heap.size + 1) 32 (forkC p a b c x y z)) := by
    rw [← HW.out]
    have h := Blk.new (w.alloc (.cells (forkC p a b c x y z) 32)) 32 (forkC p a b c x y z)
    rw [World.size_alloc] at h
    exact h
  have HB : Hid (Below w.heap.size w W) := by rw [← HW.out]; exact ((Below.refl _ w).alloc (Nat.le_refl _) _).alloc (by simp) _
  go_enter Try.func31, Try.ntmps31
  go_wp2_with fail
  rw [HW.out]
  refine (eqHead_same a b c _).mono ?_
  rintro e w1 ⟨rfl, hb1⟩
  have KA1 := Lib.hid (KA.out.below hb1 KA.out.lt)
  have KX1 := Lib.hid (KX.out.below hb1 KX.out.lt)
  have HB1 : Hid (Below w.heap.size w w1) := HB.out.trans (hb1.mono HB.out.size)
  clear hb1
  obtain ⟨k0, k1, k2, k3, k4, k5, k6⟩ := fork_cells KA1.out
  obtain ⟨j0, j1, j2, j3, j4, j5, j6⟩ := fork_cells KX1.out
  go_wp2_with fail
  refine (eqHead_same x y z _).mono ?_
  rintro e w2 ⟨rfl, hb2⟩
  have HB2 : Hid (Below w.heap.size w w2) := HB1.out.trans (hb2.mono HB1.out.size)
  clear hb2
  go_wp2
  go_ret
  exact ⟨rfl, HB2.out⟩

end Go.Proofs.Ytkicfneikbiklaa
