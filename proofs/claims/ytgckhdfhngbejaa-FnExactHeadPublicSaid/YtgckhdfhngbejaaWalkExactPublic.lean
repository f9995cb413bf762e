/- The walk of FnExactHeadPublic: it returns true and changes nothing. No conditions. -/
import Derived.Test.YtgckhdfhngbejaaPublic
namespace Go.Proofs.Ytgckhdfhngbejaa
open Go.RowKit
set_option linter.unusedVariables false

set_option maxHeartbeats 800000 in
theorem walkExactPublic (a : Int) (w : World) :
    Calls Try.prog 10 #[.int .i64 a] w fun e w' => e = .returned (.bool true) ∧ Grown w w' := by
  obtain ⟨t, HT⟩ : ∃ t, Hid (publicOr a = t) := ⟨_, rfl⟩
  have hne : (t != t) = false := by simp
  go_enter Try.func10, Try.ntmps10
  go_wp2_with fail
  refine (spublic_any _ _).mono ?_
  rintro e w' ⟨rfl, rfl⟩
  rw [HT.out]
  go_wp2_with fail
  refine (public_any _ _).mono ?_
  rintro e w' ⟨rfl, rfl⟩
  rw [HT.out]
  go_wp2
  go_ret
  exact ⟨rfl, Grown.refl _⟩

end Go.Proofs.Ytgckhdfhngbejaa
