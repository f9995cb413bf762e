/- The walk of FnExactHeadCheck: it returns true and changes nothing that was there. No conditions. -/
import Derived.Test.YtgckhdfhngbejaaExactHead
import Derived.Test.YtgckhdfhngbejaaSCheck
namespace Go.Proofs.Ytgckhdfhngbejaa
open Go.RowKit
set_option linter.unusedVariables false

set_option maxHeartbeats 2000000 in
theorem walkExactHeadCheck (p l d s : Int) (w : World) :
    Calls Try.prog 12 #[.int .i64 p, .agg #[.int .i64 l, .int .i64 d, .int .i64 s]] w fun e w' => e = .returned (.bool true) ∧ Below w.heap.size w w' := by
  obtain ⟨R, HR⟩ : ∃ R, Hid (signedB p l d s = R) := ⟨_, rfl⟩
  have hne : (R != R) = false := by simp
  go_enter Try.func12, Try.ntmps12
  go_wp2_with fail
  refine (toHead_any l d s _).mono ?_
  rintro e w1 ⟨rfl, hb1⟩
  obtain ⟨bc1, bf1⟩ := bcell hb1
  have HB1 : Hid (Below w.heap.size w w1) := ((Below.refl _ w).alloc (Nat.le_refl _) _).trans (hb1.mono (by simp))
  have hz1 : w.heap.size < w1.heap.size := by have := hb1.size; simp at this; omega
  clear hb1
  go_wp2_with fail
  refine (scheck_any p l d s _).mono ?_
  rintro e w2 ⟨rfl, hb2⟩
  rw [HR.out]
  obtain ⟨bc2, bf2⟩ := bcell hb2
  have HB2 : Hid (Below w.heap.size w w2) := HB1.out.trans (hb2.mono HB1.out.size)
  have hz2 : w1.heap.size ≤ w2.heap.size := hb2.size
  clear hb2
  go_wp2_with fail
  refine (toHead_any l d s _).mono ?_
  rintro e w3 ⟨rfl, hb3⟩
  have HB3 : Hid (Below w.heap.size w w3) := HB2.out.trans (hb3.mono HB2.out.size)
  clear hb3 bc1 bf1 bc2 bf2
  go_wp2_with fail
  refine (check_any p l d s _).mono ?_
  rintro e w4 ⟨rfl, hb4⟩
  rw [HR.out]
  have HB4 : Hid (Below w.heap.size w w4) := HB3.out.trans (hb4.mono HB3.out.size)
  clear hb4
  go_wp2
  go_ret
  exact ⟨rfl, HB4.out⟩

end Go.Proofs.Ytgckhdfhngbejaa
