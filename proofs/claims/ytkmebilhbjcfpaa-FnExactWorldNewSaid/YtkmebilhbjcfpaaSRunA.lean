/- Contracts of the model's l51Leaves, l51Same, l51Has, l51Linked: they answer as the data say. Conditions: the run, or the feed, lies in memory. -/
import Derived.Test.YtkmebilhbjcfpaaWorldMath
import Derived.Test.YtkmebilhbjcfpaaWorldWords
import Derived.Test.YtkmebilhbjcfpaaBaseH
import Derived.Test.YtkmebilhbjcfpaaHas
import Derived.Deep.DeepCutAuto
import Derived.BigQuiet
import Derived.Deep.QuietTactic
import Derived.Lib.Hide
namespace Go.Proofs.Ytkmebilhbjcfpaa
open Go.RowKit
set_option linter.unusedVariables false



theorem hasF_eq (f : FD) (i : Int) : hasF f i = ((decide (0 ≤ i) && decide (i ≤ (f.hs.length : Int) - 1)) && bth f.hs i.toNat) := by
  unfold hasF
  congr 1
  rw [← Bool.decide_and, decide_eq_decide]
  omega



theorem linked_step (ls : List LinkD) (a b : Int) (k : Nat) (h : k < ls.length) (hc : ∀ j, j < k → ¬ ((kth2 ls j).a = min a b ∧ (kth2 ls j).b = max a b)) (hk : ¬ ((kth2 ls k).a = min a b ∧ (kth2 ls k).b = max a b)) : ∀ j, j < k + 1 → ¬ ((kth2 ls j).a = min a b ∧ (kth2 ls j).b = max a b) := fun j hj => by
  rcases Nat.lt_or_ge j k with e | e
  · exact hc j e
  · have : j = k := by omega
    subst this; exact hk
theorem kth2_mem (ls : List LinkD) (k : Nat) (h : k < ls.length) : kth2 ls k ∈ ls := List.mem_of_getElem? (kth2_get ls k h)
theorem mem_kth2 {ls : List LinkD} {l : LinkD} (h : l ∈ ls) : ∃ k, k < ls.length ∧ kth2 ls k = l := by
  obtain ⟨k, hk, rfl⟩ := List.mem_iff_getElem.1 h
  refine ⟨k, hk, ?_⟩
  have := kth2_get ls k hk
  rw [List.getElem?_eq_getElem hk] at this
  injection this with this
  exact this.symm
def linkB (ls : List LinkD) (a b : Int) : Bool := ls.any (fun l => l.a == min a b && l.b == max a b)
theorem linkB_yes {ls : List LinkD} {a b : Int} {k : Nat} (h : k < ls.length) (hk : (kth2 ls k).a = min a b ∧ (kth2 ls k).b = max a b) : linkB ls a b = true := by
  unfold linkB
  rw [List.any_eq_true]
  exact ⟨_, kth2_mem ls k h, by rw [Bool.and_eq_true, beq_iff_eq, beq_iff_eq]; exact hk⟩
theorem linkB_no {ls : List LinkD} {a b : Int} (hc : ∀ j, j < ls.length → ¬ ((kth2 ls j).a = min a b ∧ (kth2 ls j).b = max a b)) : linkB ls a b = false := by
  unfold linkB
  rw [Bool.eq_false_iff]
  intro e
  rw [List.any_eq_true] at e
  obtain ⟨l, hl, h⟩ := e
  rw [Bool.and_eq_true, beq_iff_eq, beq_iff_eq] at h
  obtain ⟨k, hk, rfl⟩ := mem_kth2 hl
  exact hc k hk h

end Go.Proofs.Ytkmebilhbjcfpaa
