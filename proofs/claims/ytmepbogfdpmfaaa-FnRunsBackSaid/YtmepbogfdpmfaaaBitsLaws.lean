/- Mathematics of the laws of bits: counting in parts, setting a bit, wanted places. No conditions. -/
import Derived.Test.YtmepbogfdpmfaaaBitsWants
namespace Go.Proofs.Ytmepbogfdpmfaaa
set_option linter.unusedVariables false

theorem cntB_append (a b : List Bool) : cntB (a ++ b) = cntB a + cntB b := by
  have rev : ∀ l : List Bool, cntB (a ++ l.reverse) = cntB a + cntB l.reverse := by
    intro l
    induction l with
    | nil => simp [cntB]
    | cons x l ih => rw [List.reverse_cons, ← List.append_assoc, cntB_snoc, cntB_snoc, ih]; omega
  have := rev b.reverse
  rwa [List.reverse_reverse] at this
theorem cntB_cons (x : Bool) (l : List Bool) : cntB (x :: l) = (if x then 1 else 0) + cntB l := by
  have := cntB_append [x] l
  rw [List.singleton_append] at this
  rw [this]
  cases x <;> rfl
theorem cntB_set : ∀ (l : List Bool) (k : Nat), k < l.length → cntB (l.set k true) = cntB l + (if bth l k then 0 else 1)
  | [], k, h => by simp at h
  | x :: l, 0, h => by
    rw [List.set_cons_zero, cntB_cons, cntB_cons]
    show _ = _ + (if x then 0 else 1)
    cases x <;> simp <;> omega
  | x :: l, k + 1, h => by
    rw [List.set_cons_succ, cntB_cons, cntB_cons, cntB_set l k (by simpa using h)]
    show _ = _ + (if bth l k then 0 else 1)
    omega
theorem cntB_parts (l : List Bool) (k : Nat) : cntB (l.take k) + cntB (l.drop k) = cntB l := by rw [← cntB_append, List.take_append_drop]

theorem wantsK_self (a : List Bool) : ∀ k, wantsK a a k = []
  | 0 => rfl
  | k + 1 => by
    rw [wantsK, wantsK_self a k]
    cases bth a k <;> rfl
theorem wantsOr_self (a : List Bool) : wantsOr a a = [] := by
  unfold wantsOr
  split
  · exact wantsK_self a _
  · rfl
/-- How many of the first k places are set in both. -/
def bothK (a b : List Bool) : Nat → Nat
  | 0 => 0
  | k + 1 => bothK a b k + (if bth a k && bth b k then 1 else 0)
theorem bothK_le (a b : List Bool) : ∀ k, bothK a b k ≤ k
  | 0 => Nat.le_refl _
  | k + 1 => by
    have := bothK_le a b k
    rw [bothK]
    split <;> omega
theorem cnt_wants (a b : List Bool) : ∀ k, k ≤ a.length → cntB (a.take k) = (wantsK a b k).length + bothK a b k
  | 0, _ => rfl
  | k + 1, h => by
    have ih := cnt_wants a b k (by omega)
    rw [cntB_next a k (by omega), ih, wantsK, bothK, List.length_append]
    cases bth a k <;> cases bth b k <;> simp <;> omega
theorem bothK_beyond (a b : List Bool) (m : Nat) (h : b.length ≤ m) : ∀ d, bothK a b (m + d) = bothK a b m
  | 0 => rfl
  | d + 1 => by
    show bothK a b (m + d) + (if bth a (m + d) && bth b (m + d) then 1 else 0) = _
    rw [bothK_beyond a b m h d, bth_beyond (bs := b) (k := m + d) (by omega)]
    simp
theorem bothK_none (a : List Bool) : ∀ k, bothK a [] k = 0
  | 0 => rfl
  | k + 1 => by
    rw [bothK, bothK_none a k, bth_beyond (bs := []) (k := k) (by simp)]
    simp
theorem wants_none {a : List Bool} (h : a.length ≤ 16) : (wantsOr a []).length = cntB a := by
  rw [wantsOr_yes h (by simp)]
  have := cnt_wants a [] a.length (Nat.le_refl _)
  rw [bothK_none, List.take_length] at this
  omega
/-- The places among the first k are below k, and ascend. -/
theorem wantsK_mem (a b : List Bool) : ∀ k (x : Int), x ∈ wantsK a b k ↔ ∃ i : Nat, i < k ∧ x = (i : Int) ∧ bth a i = true ∧ bth b i = false
  | 0, x => by simp [wantsK]
  | k + 1, x => by
    rw [wantsK, List.mem_append, wantsK_mem a b k x]
    constructor
    · rintro (⟨i, hi, h⟩ | h)
      · exact ⟨i, by omega, h⟩
      · cases ha : bth a k <;> cases hb : bth b k <;> simp [ha, hb] at h
        exact ⟨k, by omega, h, ha, hb⟩
    · rintro ⟨i, hi, rfl, ha, hb⟩
      by_cases e : i = k
      · subst e
        right
        simp [ha, hb]
      · exact .inl ⟨i, by omega, rfl, ha, hb⟩
theorem wantsK_up (a b : List Bool) : ∀ k, (wantsK a b k).Pairwise (· < ·)
  | 0 => List.Pairwise.nil
  | k + 1 => by
    rw [wantsK, List.pairwise_append]
    refine ⟨wantsK_up a b k, by split <;> simp, fun x hx y hy => ?_⟩
    obtain ⟨i, hi, rfl, _⟩ := (wantsK_mem a b k x).1 hx
    split at hy
    · have : y = (k : Int) := by simpa using hy
      subst this
      omega
    · cases hy
theorem up_nth {zs : List Int} (h : zs.Pairwise (· < ·)) {k : Nat} (hk : k + 1 < zs.length) : nth zs k < nth zs (k + 1) := by
  rw [List.pairwise_iff_getElem] at h
  have := h k (k + 1) (by omega) hk (by omega)
  unfold nth
  rwa [List.getD_eq_getElem?_getD, List.getD_eq_getElem?_getD, List.getElem?_eq_getElem (by omega), List.getElem?_eq_getElem hk]

end Go.Proofs.Ytmepbogfdpmfaaa
