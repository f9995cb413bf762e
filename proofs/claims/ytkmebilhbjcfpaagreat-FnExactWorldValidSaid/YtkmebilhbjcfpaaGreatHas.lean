/- The searches of the model and of the laws in a list of integers; the model's range check. Condition: the list lies in memory. -/
import Derived.Test.YtkmebilhbjcfpaaGreatBaseA
import Derived.Lib.Hide
namespace Go.Proofs.YtkmebilhbjcfpaaGreat
open Go.RowKit
set_option linter.unusedVariables false





theorem l6in_any (a lo hi : Int) (w : World) :
    Calls Tryz.prog 51 #[.int .i64 a, .int .i64 lo, .int .i64 hi] w fun e w' => e = .returned (.bool (decide (lo ≤ a) && decide (a ≤ hi))) ∧ w' = w := by
  by_cases h1 : lo ≤ a
  · by_cases h2 : a ≤ hi
    · rw [decide_eq_true h1, decide_eq_true h2]
      exact (in_yes a lo hi w h1 h2).mono fun e w' ⟨he, hw⟩ => ⟨he, hw.symm⟩
    · rw [decide_eq_true h1, decide_eq_false h2]
      exact (in_no a lo hi w (fun h => h2 h.2)).mono fun e w' ⟨he, hw⟩ => ⟨he, hw.symm⟩
  · rw [decide_eq_false h1]
    exact (in_no a lo hi w (fun h => h1 h.1)).mono fun e w' ⟨he, hw⟩ => ⟨he, hw.symm⟩

end Go.Proofs.YtkmebilhbjcfpaaGreat
