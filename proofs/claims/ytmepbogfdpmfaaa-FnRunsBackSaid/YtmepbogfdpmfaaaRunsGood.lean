/- Mathematics of valid runs: which lists of lengths are runs of at most 16 bits, by the program's test and by the model's, and that both are one. No conditions. -/
import Derived.Test.YtmepbogfdpmfaaaRunsLaws
namespace Go.Proofs.Ytmepbogfdpmfaaa
set_option linter.unusedVariables false

/-- The least length of the run at a place, of n runs. -/
def leastN (n i : Nat) : Int := if i = 0 ∧ 1 < n then 0 else 1
theorem leastN_01 (n i : Nat) : 0 ≤ leastN n i ∧ leastN n i ≤ 1 := by unfold leastN; split <;> omega
/-- The first k lengths are valid, by what is left of 16. -/
def goodK (zs : List Int) : Nat → Bool
  | 0 => true
  | k + 1 => goodK zs k && decide (leastN zs.length k ≤ nth zs k ∧ nth zs k + (sumN zs k : Int) ≤ 16)
theorem goodK_no (zs : List Int) (k : Nat) (h : goodK zs k = false) : ∀ d, goodK zs (k + d) = false
  | 0 => h
  | d + 1 => by show (goodK zs (k + d) && _) = false; rw [goodK_no zs k h d]; rfl
theorem goodK_not {zs : List Int} {k n : Nat} (h : goodK zs k = false) (hkn : k ≤ n) : goodK zs n = false := by
  have := goodK_no zs k h (n - k)
  rwa [show k + (n - k) = n by omega] at this
theorem goodK_step {zs : List Int} {k : Nat} (h : goodK zs (k + 1) = true) : goodK zs k = true ∧ leastN zs.length k ≤ nth zs k ∧ nth zs k + (sumN zs k : Int) ≤ 16 := by
  rw [goodK, Bool.and_eq_true, decide_eq_true_iff] at h
  exact h
theorem goodK_at {zs : List Int} : ∀ {k : Nat}, goodK zs k = true → ∀ i, i < k → leastN zs.length i ≤ nth zs i ∧ nth zs i + (sumN zs i : Int) ≤ 16
  | 0, _, i, hi => by omega
  | k + 1, h, i, hi => by
    obtain ⟨h1, h2⟩ := goodK_step h
    by_cases e : i < k
    · exact goodK_at h1 i e
    · obtain rfl : i = k := by omega
      exact h2
theorem goodK_sum {zs : List Int} : ∀ {k : Nat}, goodK zs k = true → sumN zs k ≤ 16 ∧ k ≤ sumN zs k + 1
  | 0, _ => by simp [sumN]
  | k + 1, h => by
    obtain ⟨h1, h2, h3⟩ := goodK_step h
    obtain ⟨h4, h5⟩ := goodK_sum h1
    have h01 := leastN_01 zs.length k
    have hs : sumN zs (k + 1) = sumN zs k + (nth zs k).toNat := rfl
    refine ⟨by omega, ?_⟩
    by_cases hk : k = 0
    · omega
    · have : leastN zs.length k = 1 := by unfold leastN; rw [if_neg (by omega)]
      omega
theorem goodK_small {zs : List Int} {n : Nat} (h : goodK zs n = true) (i : Nat) (hi : i < n) : 0 ≤ nth zs i ∧ nth zs i ≤ 16 := by
  obtain ⟨h1, h2⟩ := goodK_at h i hi
  have := leastN_01 zs.length i
  omega

/-- The first k lengths are valid each by itself. -/
def okK (zs : List Int) : Nat → Bool
  | 0 => true
  | k + 1 => okK zs k && decide (leastN zs.length k ≤ nth zs k ∧ nth zs k ≤ 16)
theorem okK_no (zs : List Int) (k : Nat) (h : okK zs k = false) : ∀ d, okK zs (k + d) = false
  | 0 => h
  | d + 1 => by show (okK zs (k + d) && _) = false; rw [okK_no zs k h d]; rfl
theorem okK_not {zs : List Int} {k n : Nat} (h : okK zs k = false) (hkn : k ≤ n) : okK zs n = false := by
  have := okK_no zs k h (n - k)
  rwa [show k + (n - k) = n by omega] at this
theorem good_ok (zs : List Int) : ∀ k, goodK zs k = (okK zs k && decide (sumN zs k ≤ 16))
  | 0 => rfl
  | k + 1 => by
    have ih := good_ok zs k
    have h01 := leastN_01 zs.length k
    have hs : sumN zs (k + 1) = sumN zs k + (nth zs k).toNat := rfl
    rw [goodK, okK, ih, hs]
    rw [Bool.eq_iff_iff]
    simp only [Bool.and_eq_true, decide_eq_true_iff]
    constructor
    · rintro ⟨⟨h1, h2⟩, h3, h4⟩
      exact ⟨⟨h1, h3, by omega⟩, by omega⟩
    · rintro ⟨⟨h1, h2, h3⟩, h4⟩
      exact ⟨⟨h1, by omega⟩, h2, by omega⟩

/-- What BitsOf answers. -/
def bitsOr (zs : List Int) : List Bool := if goodK zs zs.length then bitsTo zs zs.length else []
theorem bitsOr_yes {zs : List Int} (h : goodK zs zs.length = true) : bitsOr zs = bitsTo zs zs.length := if_pos h
theorem bitsOr_no {zs : List Int} (h : goodK zs zs.length = false) : bitsOr zs = [] := if_neg (by rw [h]; simp)
theorem bitsOr_short (zs : List Int) : (bitsOr zs).length ≤ 16 := by
  unfold bitsOr
  split
  · rename_i h; rw [bitsTo_length]; exact (goodK_sum h).1
  · simp

/-- The runs of at most 16 bits are valid. -/
theorem told_good {bs : List Bool} {zs : List Int} (h : RunsTold bs zs) (hb : bs.length ≤ 16) : ∀ k, k ≤ zs.length → goodK zs k = true
  | 0, _ => rfl
  | k + 1, hk => by
    have ih := told_good h hb k (by omega)
    have hs : sumN zs (k + 1) = sumN zs k + (nth zs k).toNat := rfl
    have hle := sumN_le zs hk
    have htot : sumN zs zs.length = bs.length := by rw [← bitsTo_length, h.bits]
    have hn := h.nonneg k
    rw [goodK, ih, Bool.true_and, decide_eq_true_iff]
    refine ⟨?_, by omega⟩
    unfold leastN
    split
    · exact hn
    · rename_i hne
      by_cases e : k = 0
      · subst e
        exact h.one (by omega)
      · exact h.pos k (by omega) (by omega)
/-- Valid runs are the runs of their bits. -/
theorem good_back {zs : List Int} (h : goodK zs zs.length = true) : runsInts (bitsTo zs zs.length) = zs := by
  refine runs_back zs ?_ ?_ ?_
  · intro i h1 h2
    have := (goodK_at h i h2).1
    unfold leastN at this
    rw [if_neg (by omega)] at this
    exact this
  · intro h1
    have := (goodK_at h 0 (by omega)).1
    unfold leastN at this
    rw [if_neg (by omega)] at this
    exact this
  · intro i hi
    exact (goodK_small h i hi).1

end Go.Proofs.Ytmepbogfdpmfaaa
