/- The walk of FnExactForkCheck: it returns true and changes nothing that was there. No conditions. -/
import Derived.Test.YtpcjlilfcpfmcaaExactFork
namespace Go.Proofs.Ytpcjlilfcpfmcaa
open Go.RowKit
set_option linter.unusedVariables false

set_option maxHeartbeats 2000000 in
theorem walkExactForkCheck (p a b c x y z : Int) (w : World) :
    Calls Try.prog 7 #[forkV p a b c x y z] w fun e w' => e = .returned (.bool true) ∧ Below w.heap.size w w' := by
  obtain ⟨R, HR⟩ : ∃ R, Hid (forkB p a b c x y z = R) := ⟨_, rfl⟩
  have hne : (R != R) = false := by simp
  obtain ⟨W, HW⟩ : ∃ W, Hid (w.alloc (.cells (forkC p a b c x y z) 42) = W) := ⟨_, rfl⟩
  have KA : Hid (Blk W w.heap.size 42 (forkC p a b c x y z)) := by rw [← HW.out]; exact Blk.new w _ _
  have HB : Hid (Below w.heap.size w W) := by rw [← HW.out]; exact (Below.refl _ w).alloc (Nat.le_refl _) _
  go_enter Try.func7, Try.ntmps7
  go_wp2_with fail
  rw [HW.out]
  refine (toFork_any p a b c x y z _).mono ?_
  rintro e w1 ⟨rfl, hb1⟩
  have KA1 := Lib.hid (KA.out.below hb1 KA.out.lt)
  have HB1 : Hid (Below w.heap.size w w1) := HB.out.trans (hb1.mono HB.out.size)
  clear hb1
  go_wp2_with fail
  refine (sforkCheck_any p a b c x y z _).mono ?_
  rintro e w2 ⟨rfl, hb2⟩
  rw [HR.out]
  have KA2 := Lib.hid (KA1.out.below hb2 KA1.out.lt)
  have HB2 : Hid (Below w.heap.size w w2) := HB1.out.trans (hb2.mono HB1.out.size)
  clear hb2
  obtain ⟨k0, k1, k2, k3, k4, k5, k6⟩ := fork_cells KA2.out
  go_wp2_with fail
  refine (toFork_any p a b c x y z _).mono ?_
  rintro e w3 ⟨rfl, hb3⟩
  have HB3 : Hid (Below w.heap.size w w3) := HB2.out.trans (hb3.mono HB2.out.size)
  clear hb3 k0 k1 k2 k3 k4 k5 k6
  go_wp2_with fail
  refine (forkCheck_any p a b c x y z _).mono ?_
  rintro e w4 ⟨rfl, hb4⟩
  rw [HR.out]
  have HB4 : Hid (Below w.heap.size w w4) := HB3.out.trans (hb4.mono HB3.out.size)
  clear hb4
  go_wp2
  go_ret
  exact ⟨rfl, HB4.out⟩

end Go.Proofs.Ytpcjlilfcpfmcaa
