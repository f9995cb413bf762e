/- The mathematics of heaps: what holds of a list while an element goes up or down, the least element, permutations. No conditions. -/
import Derived.Test.YtgjnhfciphiciaaHeapTwo
namespace Go.Proofs.Ytgjnhfciphiciaa
open Go.RowKit
set_option linter.unusedVariables false

theorem kth_lt (xs : List Nat) (k : Nat) (h : k < xs.length) : kth xs k = xs[k] := by
  unfold kth; rw [List.getD_eq_getElem?_getD, List.getElem?_eq_getElem h]; rfl
theorem kth_set (xs : List Nat) (i k x : Nat) (hi : i < xs.length) : kth (xs.set i x) k = if k = i then x else kth xs k := by
  unfold kth
  rw [List.getD_eq_getElem?_getD, List.getD_eq_getElem?_getD, List.getElem?_set]
  by_cases e : k = i
  · subst e; rw [if_pos rfl, if_pos rfl, if_pos hi]; rfl
  · rw [if_neg (Ne.symm e), if_neg e]
theorem kth_swap (xs : List Nat) (i j k : Nat) (hi : i < xs.length) (hj : j < xs.length) : kth (swapL xs i j) k = if k = j then kth xs i else if k = i then kth xs j else kth xs k := by
  unfold swapL
  rw [kth_set _ _ _ _ (by rw [List.length_set]; exact hj), kth_set _ _ _ _ hi]
theorem swap_perm (xs : List Nat) (i j : Nat) (hi : i < xs.length) (hj : j < xs.length) : (swapL xs i j).Perm xs := by
  rw [List.perm_iff_count]
  intro a
  unfold swapL
  rw [List.count_set (by rw [List.length_set]; exact hj), List.count_set hi, List.getElem_set, kth_lt xs i hi, kth_lt xs j hj]
  have hpos : ∀ k (h : k < xs.length), xs[k] = a → 0 < xs.count a := fun k h e => List.count_pos_iff.2 (e ▸ List.getElem_mem h)
  by_cases e : i = j
  · subst e
    rw [if_pos rfl]
    have := hpos i hi
    by_cases h1 : xs[i] = a
    · have := this h1
      simp [h1]; omega
    · simp [h1]
  · rw [if_neg e]
    have p1 := hpos i hi
    have p2 := hpos j hj
    have p3 : xs[i] = a → xs[j] = a → 2 ≤ xs.count a := fun h1 h2 => by
      have := List.count_set (a := a + 1) (b := a) (l := xs) hi
      have hm : 0 < (xs.set i (a + 1)).count a := List.count_pos_iff.2 (by
        have := List.getElem_mem (l := xs.set i (a + 1)) (n := j) (by rw [List.length_set]; exact hj)
        rw [List.getElem_set, if_neg e, h2] at this
        exact this)
      rw [this] at hm
      simp [h1] at hm
      omega
    by_cases h1 : xs[i] = a <;> by_cases h2 : xs[j] = a
    · have := p3 h1 h2
      simp [h1, h2]; omega
    · have := p1 h1
      simp [h1, h2]; omega
    · have := p2 h2
      simp [h1, h2]
    · simp [h1, h2]

def heapOK (xs : List Nat) (n : Nat) : Prop := ∀ k, 0 < k → k < n → kth xs ((k - 1) / 2) ≤ kth xs k
theorem heap_least {xs : List Nat} {n : Nat} (h : heapOK xs n) : ∀ k, k < n → kth xs 0 ≤ kth xs k := by
  intro k
  induction k using Nat.strongRecOn with
  | ind k ih =>
    intro hk
    by_cases h0 : k = 0
    · subst h0; exact Nat.le_refl _
    · exact Nat.le_trans (ih ((k - 1) / 2) (by omega) (by omega)) (h k (by omega) hk)
theorem kth_left (a b : List Nat) (k : Nat) (h : k < a.length) : kth (a ++ b) k = kth a k := by
  unfold kth; rw [List.getD_eq_getElem?_getD, List.getD_eq_getElem?_getD, List.getElem?_append_left h]
theorem kth_take (a : List Nat) (n k : Nat) (h : k < n) : kth (a.take n) k = kth a k := by
  unfold kth; rw [List.getD_eq_getElem?_getD, List.getD_eq_getElem?_getD, List.getElem?_take_of_lt h]

/-- An element goes up: all is in order but at j. -/
def upOK (xs : List Nat) (j : Nat) : Prop := (∀ k, 0 < k → k < xs.length → k ≠ j → kth xs ((k - 1) / 2) ≤ kth xs k) ∧ (∀ k, 0 < k → k < xs.length → (k - 1) / 2 = j → 0 < j → kth xs ((j - 1) / 2) ≤ kth xs k)
theorem up_start {xs : List Nat} (h : heapOK xs xs.length) (x : Nat) : upOK (xs ++ [x]) xs.length := by
  refine ⟨fun k hk hl hne => ?_, fun k hk hl he hj => ?_⟩
  · rw [List.length_append, List.length_singleton] at hl
    have hl' : k < xs.length := by omega
    rw [kth_left _ _ _ hl', kth_left _ _ _ (by omega)]
    exact h k hk hl'
  · rw [List.length_append, List.length_singleton] at hl
    omega
theorem up_zero {xs : List Nat} (h : upOK xs 0) : heapOK xs xs.length := fun k hk hl => h.1 k hk hl (by omega)
theorem up_stop {xs : List Nat} {j : Nat} (h : upOK xs j) (hle : ¬ kth xs j < kth xs ((j - 1) / 2)) : heapOK xs xs.length := fun k hk hl => by
  by_cases e : k = j
  · subst e; omega
  · exact h.1 k hk hl e
theorem up_step {xs : List Nat} {j i : Nat} (h : upOK xs j) (hi : i = (j - 1) / 2) (hj : j < xs.length) (h0 : 0 < j) (hlt : kth xs j < kth xs i) : upOK (swapL xs i j) i := by
  have hil : i < xs.length := by omega
  have hij : i < j := by omega
  refine ⟨fun k hk hl hne => ?_, fun k hk hl he hi0 => ?_⟩
  · rw [swapL_length] at hl
    rw [kth_swap _ _ _ _ hil hj, kth_swap _ _ _ _ hil hj]
    by_cases e1 : k = j
    · subst e1
      rw [if_neg (by omega), if_pos hi.symm, if_pos rfl]
      omega
    · rw [if_neg e1, if_neg hne]
      by_cases e2 : (k - 1) / 2 = j
      · rw [if_pos e2]
        have := h.2 k hk hl e2 h0
        rw [← hi] at this
        exact this
      · rw [if_neg e2]
        by_cases e3 : (k - 1) / 2 = i
        · rw [if_pos e3]
          have := h.1 k hk hl e1
          rw [e3] at this
          omega
        · rw [if_neg e3]
          exact h.1 k hk hl e1
  · rw [swapL_length] at hl
    rw [kth_swap _ _ _ _ hil hj, kth_swap _ _ _ _ hil hj, if_neg (by omega), if_neg (by omega)]
    have hp := h.1 i hi0 hil (by omega)
    by_cases e1 : k = j
    · rw [if_pos e1]; exact hp
    · rw [if_neg e1, if_neg (by omega)]
      have := h.1 k hk hl e1
      rw [he] at this
      omega

/-- An element goes down: all is in order but below i. -/
def downOK (xs : List Nat) (i n : Nat) : Prop := (∀ k, 0 < k → k < n → (k - 1) / 2 ≠ i → kth xs ((k - 1) / 2) ≤ kth xs k) ∧ (∀ k, 0 < k → k < n → (k - 1) / 2 = i → 0 < i → kth xs ((i - 1) / 2) ≤ kth xs k)
theorem down_start {xs : List Nat} {n : Nat} (hl : xs.length = n + 1) (h : heapOK xs (n + 1)) : downOK (swapL xs 0 n) 0 n := by
  refine ⟨fun k hk hk2 hne => ?_, fun k hk hk2 he h0 => by omega⟩
  rw [kth_swap _ _ _ _ (by omega) (by omega), kth_swap _ _ _ _ (by omega) (by omega), if_neg (by omega), if_neg hne, if_neg (by omega), if_neg (by omega)]
  exact h k hk (by omega)
theorem down_leaf {xs : List Nat} {i n : Nat} (h : downOK xs i n) (hn : n ≤ 2 * i + 1) : heapOK xs n := fun k hk hk2 => h.1 k hk hk2 (by omega)
theorem down_stop {xs : List Nat} {i n j : Nat} (h : downOK xs i n) (hmin : ∀ k, k < n → 0 < k → (k - 1) / 2 = i → kth xs j ≤ kth xs k) (hle : ¬ kth xs j < kth xs i) : heapOK xs n := fun k hk hk2 => by
  by_cases e : (k - 1) / 2 = i
  · have := hmin k hk2 hk e
    rw [e]; omega
  · exact h.1 k hk hk2 e
theorem down_step {xs : List Nat} {i n j : Nat} (h : downOK xs i n) (hj0 : 0 < j) (hj : (j - 1) / 2 = i) (hjn : j < n) (hl : n ≤ xs.length) (hmin : ∀ k, k < n → 0 < k → (k - 1) / 2 = i → kth xs j ≤ kth xs k) (hlt : kth xs j < kth xs i) : downOK (swapL xs i j) j n := by
  have hij : i < j := by omega
  have hil : i < xs.length := by omega
  have hjl : j < xs.length := by omega
  refine ⟨fun k hk hk2 hne => ?_, fun k hk hk2 he h0 => ?_⟩
  · rw [kth_swap _ _ _ _ hil hjl, kth_swap _ _ _ _ hil hjl, if_neg hne]
    by_cases e1 : k = j
    · subst e1
      rw [if_pos hj, if_pos rfl]
      omega
    · rw [if_neg e1]
      by_cases e2 : k = i
      · subst e2
        rw [if_neg (by omega), if_pos rfl]
        have := h.2 j hj0 hjn hj hk
        exact this
      · rw [if_neg e2]
        by_cases e3 : (k - 1) / 2 = i
        · rw [if_pos e3]
          exact hmin k hk2 hk e3
        · rw [if_neg e3]
          exact h.1 k hk hk2 e3
  · rw [kth_swap _ _ _ _ hil hjl, kth_swap _ _ _ _ hil hjl, hj, if_neg (by omega), if_pos rfl, if_neg (by omega), if_neg (by omega)]
    have := h.1 k hk hk2 (by omega)
    rw [he] at this
    exact this
theorem swap_take {xs : List Nat} {i j n : Nat} (hi : i < n) (hj : j < n) (hl : n ≤ xs.length) (k : Nat) (hk : n ≤ k) : kth (swapL xs i j) k = kth xs k := by
  rw [kth_swap _ _ _ _ (by omega) (by omega), if_neg (by omega), if_neg (by omega)]

end Go.Proofs.Ytgjnhfciphiciaa
