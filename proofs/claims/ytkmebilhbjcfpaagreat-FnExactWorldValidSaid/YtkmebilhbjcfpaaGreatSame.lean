/- Contract of the laws' function sameInts: it reports whether two slices read as the same list; it changes nothing. Condition: both lie in memory. -/
import Derived.Test.YtkmebilhbjcfpaaGreatBaseA
import Derived.Deep.QuietTactic
import Derived.BigQuiet
namespace Go.Proofs.YtkmebilhbjcfpaaGreat
open Go.RowKit
set_option linter.unusedVariables false

theorem same_take (a b : List Int) (k : Nat) (ha : k < a.length) (hb : k < b.length) (h : a.take k = b.take k) (e : nth a k = nth b k) : a.take (k + 1) = b.take (k + 1) := by
  rw [List.take_succ_eq_append_getElem ha, List.take_succ_eq_append_getElem hb, h]
  unfold nth at e
  rw [List.getD_eq_getElem?_getD, List.getD_eq_getElem?_getD, List.getElem?_eq_getElem ha, List.getElem?_eq_getElem hb] at e
  simp at e
  rw [e]
theorem same_ne (a b : List Int) (k : Nat) (e : nth a k ≠ nth b k) : decide (a = b) = false := by
  rw [decide_eq_false_iff_not]
  intro h
  subst h
  exact e rfl



end Go.Proofs.YtkmebilhbjcfpaaGreat
