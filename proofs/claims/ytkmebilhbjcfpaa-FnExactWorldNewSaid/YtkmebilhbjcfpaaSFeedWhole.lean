/- Contracts of l11Whole and of the model of FeedValid: it reports whether a feed is valid, and changes nothing that was there. Condition: the feed lies in memory. -/
import Derived.Test.YtkmebilhbjcfpaaFeedValid
import Derived.Test.YtkmebilhbjcfpaaBaseE
import Derived.Deep.RegionHeld3
namespace Go.Proofs.Ytkmebilhbjcfpaa
open Go.RowKit
set_option linter.unusedVariables false

theorem cnt_full (hs : List Bool) : ∀ k, k ≤ hs.length → (cntB (hs.take k) = k ↔ ∀ j, j < k → bth hs j = true) := by
  intro k
  induction k with
  | zero => intro _; exact ⟨fun _ j hj => absurd hj (Nat.not_lt_zero _), fun _ => rfl⟩
  | succ k ih =>
    intro hk
    have h1 := cntB_next hs k (by omega)
    have h2 := cntB_le (hs.take k)
    rw [List.length_take] at h2
    have ih' := ih (by omega)
    constructor
    · intro e j hj
      rw [h1] at e
      cases hb : bth hs k with
      | false => rw [hb] at e; simp at e; omega
      | true =>
        rw [hb] at e
        simp at e
        by_cases ej : j = k
        · subst ej; exact hb
        · exact ih'.1 e j (by omega)
    · intro h
      rw [h1, h k (by omega), ih'.2 fun j hj => h j (by omega)]
      rfl
theorem cnt_whole (hs : List Bool) : ((cntB hs : Int) == (hs.length : Int)) = noneF hs := by
  have h := cnt_full hs hs.length (Nat.le_refl _)
  rw [List.take_of_length_le (Nat.le_refl _)] at h
  unfold noneF
  by_cases e : cntB hs = hs.length
  · rw [e, decide_eq_true (h.1 e)]; simp
  · rw [decide_eq_false fun k => e (h.2 k)]; rw [beq_eq_false_iff_ne]; omega



end Go.Proofs.Ytkmebilhbjcfpaa
