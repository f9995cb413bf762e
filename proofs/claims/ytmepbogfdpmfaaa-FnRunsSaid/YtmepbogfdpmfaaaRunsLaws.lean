/- Mathematics of the laws of runs: the bits that lengths of runs stand for, that the runs of bits stand for those bits, that they are the only ones, and how many bits they count. No conditions. -/
import Derived.Test.YtmepbogfdpmfaaaBitsLaws
import Derived.Test.YtmepbogfdpmfaaaSpecRuns
namespace Go.Proofs.Ytmepbogfdpmfaaa
set_option linter.unusedVariables false

/-- Is the run at this place one of bits that are set? -/
def par (i : Nat) : Bool := decide (i % 2 = 1)
theorem par_zero : par 0 = false := rfl
theorem par_succ (i : Nat) : par (i + 1) = !par i := by
  unfold par
  rcases Nat.mod_two_eq_zero_or_one i with h | h
  · rw [h, Nat.add_mod, h]; rfl
  · rw [h, Nat.add_mod, h]; rfl
/-- The bits of the first k runs. -/
def bitsTo (zs : List Int) : Nat → List Bool
  | 0 => []
  | k + 1 => bitsTo zs k ++ List.replicate (nth zs k).toNat (par k)
/-- How many bits those are. -/
def sumN (zs : List Int) : Nat → Nat
  | 0 => 0
  | k + 1 => sumN zs k + (nth zs k).toNat
theorem bitsTo_length (zs : List Int) : ∀ k, (bitsTo zs k).length = sumN zs k
  | 0 => rfl
  | k + 1 => by rw [bitsTo, List.length_append, List.length_replicate, bitsTo_length zs k]; rfl
theorem nth_append_lt {zs ys : List Int} {i : Nat} (h : i < zs.length) : nth (zs ++ ys) i = nth zs i := by
  unfold nth
  rw [List.getD_eq_getElem?_getD, List.getD_eq_getElem?_getD, List.getElem?_append_left h]
theorem nth_append_end {zs : List Int} {x : Int} : nth (zs ++ [x]) zs.length = x := by
  unfold nth
  rw [List.getD_eq_getElem?_getD, List.getElem?_append_right (Nat.le_refl _), Nat.sub_self]
  rfl
theorem bitsTo_append (zs ys : List Int) : ∀ k, k ≤ zs.length → bitsTo (zs ++ ys) k = bitsTo zs k
  | 0, _ => rfl
  | k + 1, h => by rw [bitsTo, bitsTo, bitsTo_append zs ys k (by omega), nth_append_lt (by omega)]
theorem bitsTo_snoc (zs : List Int) (x : Int) : bitsTo (zs ++ [x]) (zs.length + 1) = bitsTo zs zs.length ++ List.replicate x.toNat (par zs.length) := by
  rw [bitsTo, bitsTo_append zs [x] zs.length (Nat.le_refl _), nth_append_end]

/-- What the runs so far and the open run tell of the bits. -/
structure Told (bs : List Bool) (R : List (Bool × Nat)) (b : Bool) (c : Nat) : Prop where
  open_ : b = par R.length
  bits : bitsTo (lenI R) R.length ++ List.replicate c b = bs
  pos : ∀ i, 1 ≤ i → i < R.length → 1 ≤ nth (lenI R) i
  nonneg : ∀ i, 0 ≤ nth (lenI R) i
  none : bs = [] → R = [] ∧ c = 0
  some : bs ≠ [] → 1 ≤ c
theorem nth_lenI_nonneg (R : List (Bool × Nat)) (i : Nat) : 0 ≤ nth (lenI R) i := by
  unfold nth lenI
  rw [List.getD_eq_getElem?_getD, List.getElem?_map]
  cases R[i]? with
  | none => exact Int.le_refl _
  | some p => exact Int.natCast_nonneg _
theorem replicate_snoc (c : Nat) (b : Bool) : List.replicate c b ++ [b] = List.replicate (c + 1) b := by
  rw [List.replicate_succ', ]
theorem told : ∀ bs : List Bool, Told bs (runSt bs).1 (runSt bs).2.1 (runSt bs).2.2 := by
  have rev : ∀ l : List Bool, Told l.reverse (runSt l.reverse).1 (runSt l.reverse).2.1 (runSt l.reverse).2.2 := by
    intro l
    induction l with
    | nil => exact ⟨rfl, rfl, fun i h1 h2 => by simp [runSt] at h2, nth_lenI_nonneg _, fun _ => ⟨rfl, rfl⟩, fun h => absurd rfl h⟩
    | cons x l ih =>
      rw [List.reverse_cons, runSt_snoc]
      obtain ⟨R, b, c, e⟩ : ∃ R b c, runSt l.reverse = (R, b, c) := ⟨_, _, _, rfl⟩
      rw [e] at ih ⊢
      obtain ⟨h1, h2, h3, h4, h5, h6⟩ := ih
      dsimp only at h1 h2 h3 h4 h5 h6
      unfold stepR
      by_cases hx : x = b
      · rw [if_pos hx]
        subst hx
        refine ⟨h1, ?_, h3, h4, fun h => absurd h (by simp), fun _ => by simp⟩
        dsimp only
        rw [← replicate_snoc, ← List.append_assoc, h2]
      · rw [if_neg hx]
        have hl : (lenI R).length = R.length := lenI_length R
        have hxb : x = par (R.length + 1) := by rw [par_succ, ← h1]; cases x <;> cases b <;> simp_all
        refine ⟨?_, ?_, ?_, nth_lenI_nonneg _, fun h => absurd h (by simp), fun _ => Nat.le_refl _⟩
        · rw [List.length_append]; exact hxb
        · dsimp only
          rw [lenI_snoc, List.length_append]
          show bitsTo (lenI R ++ [(c : Int)]) (R.length + 1) ++ List.replicate 1 x = _
          have := bitsTo_snoc (lenI R) (c : Int)
          rw [hl] at this
          rw [this, Int.toNat_natCast, ← h1, h2]
          rfl
        · intro i hi1 hi2
          rw [List.length_append] at hi2
          dsimp only at hi2 ⊢
          rw [lenI_snoc]
          by_cases e' : i < R.length
          · rw [nth_append_lt (by omega)]; exact h3 i hi1 e'
          · have : i = (lenI R).length := by simp at hi2; omega
            rw [this, nth_append_end]
            have hne : l.reverse ≠ [] := fun h0 => by have := (h5 h0).1; subst this; simp at hi2; omega
            have := h6 hne
            show (1 : Int) ≤ (c : Int)
            omega
  intro bs
  have := rev bs.reverse
  rwa [List.reverse_reverse] at this

/-- What is known of the lengths that BitsRuns answers. -/
structure RunsTold (bs : List Bool) (zs : List Int) : Prop where
  bits : bitsTo zs zs.length = bs
  pos : ∀ i, 1 ≤ i → i < zs.length → 1 ≤ nth zs i
  one : zs.length = 1 → 1 ≤ nth zs 0
  nonneg : ∀ i, 0 ≤ nth zs i
theorem runs_told (bs : List Bool) : RunsTold bs (runsInts bs) := by
  obtain ⟨h1, h2, h3, h4, h5, h6⟩ := told bs
  obtain ⟨R, b, c, e⟩ : ∃ R b c, runSt bs = (R, b, c) := ⟨_, _, _, rfl⟩
  rw [e] at h1 h2 h3 h4 h5 h6
  dsimp only at h1 h2 h3 h4 h5 h6
  have hl : (lenI R).length = R.length := lenI_length R
  by_cases hc : 0 < c
  · have hz : runsInts bs = lenI R ++ [(c : Int)] := by
      rw [runsInts, runsL, e]
      dsimp only
      rw [if_pos hc, List.map_append]
      rfl
    rw [hz]
    refine ⟨?_, ?_, ?_, ?_⟩
    · rw [List.length_append, hl]
      have := bitsTo_snoc (lenI R) (c : Int)
      rw [hl, Int.toNat_natCast, ← h1, h2] at this
      exact this
    · intro i hi1 hi2
      rw [List.length_append] at hi2
      by_cases e' : i < (lenI R).length
      · rw [nth_append_lt e']; exact h3 i hi1 (by omega)
      · have : i = (lenI R).length := by simp at hi2; omega
        rw [this, nth_append_end]
        omega
    · intro hn
      rw [List.length_append, List.length_singleton] at hn
      have h0 : (lenI R).length = 0 := by omega
      have := nth_append_end (zs := lenI R) (x := (c : Int))
      rw [h0] at this
      rw [this]
      omega
    · intro i
      rcases Nat.lt_trichotomy i (lenI R).length with h | h | h
      · rw [nth_append_lt h]; exact h4 i
      · rw [h, nth_append_end]; omega
      · unfold nth; rw [List.getD_eq_getElem?_getD, List.getElem?_eq_none (by simp; omega)]; exact Int.le_refl _
  · have hb : bs = [] := by
      rcases Decidable.em (bs = []) with h | h
      · exact h
      · exact absurd (h6 h) (by omega)
    subst hb
    exact ⟨rfl, fun i h1 h2 => by simp [runsInts, runsL, runSt] at h2, fun h => by simp [runsInts, runsL, runSt] at h, fun i => by
      unfold nth
      rw [List.getD_eq_getElem?_getD, List.getElem?_eq_none (by simp [runsInts, runsL, runSt])]
      exact Int.le_refl _⟩

/-- The way back. -/
theorem runSt_same_many (l : List Bool) (R : List (Bool × Nat)) (b : Bool) (c : Nat) (h : runSt l = (R, b, c)) : ∀ n, runSt (l ++ List.replicate n b) = (R, b, c + n)
  | 0 => by rw [List.replicate_zero, List.append_nil]; exact h
  | n + 1 => by
    rw [← replicate_snoc, ← List.append_assoc, runSt_snoc, runSt_same_many l R b c h n, stepR, if_pos rfl]
    rfl
theorem runSt_other_many (l : List Bool) (R : List (Bool × Nat)) (b b' : Bool) (c : Nat) (h : runSt l = (R, b, c)) (hb : ¬ b' = b) (n : Nat) (hn : 1 ≤ n) : runSt (l ++ List.replicate n b') = (R ++ [(b, c)], b', n) := by
  obtain ⟨k, rfl⟩ : ∃ k, n = 1 + k := ⟨n - 1, by omega⟩
  have h1 : runSt (l ++ [b']) = (R ++ [(b, c)], b', 1) := by rw [runSt_snoc, h, stepR, if_neg hb]
  have := runSt_same_many (l ++ [b']) _ b' 1 h1 k
  rw [List.append_assoc] at this
  have e : [b'] ++ List.replicate k b' = List.replicate (1 + k) b' := by rw [Nat.add_comm, List.replicate_succ]; rfl
  rwa [e] at this
def pairsTo (zs : List Int) : Nat → List (Bool × Nat)
  | 0 => []
  | k + 1 => pairsTo zs k ++ [(par k, (nth zs k).toNat)]
theorem runSt_bitsTo (zs : List Int) (hp : ∀ i, 1 ≤ i → i < zs.length → 1 ≤ nth zs i) : ∀ k, k < zs.length → runSt (bitsTo zs (k + 1)) = (pairsTo zs k, par k, (nth zs k).toNat)
  | 0, _ => by
    have := runSt_same_many [] [] false 0 rfl (nth zs 0).toNat
    rw [Nat.zero_add] at this
    exact this
  | k + 1, h => by
    have ih := runSt_bitsTo zs hp k (by omega)
    have h1 := hp (k + 1) (by omega) h
    rw [bitsTo]
    exact runSt_other_many _ _ _ _ _ ih (by rw [par_succ]; cases par k <;> simp) _ (by omega)
theorem lenI_pairsTo (zs : List Int) (hn : ∀ i, i < zs.length → 0 ≤ nth zs i) : ∀ k, k ≤ zs.length → lenI (pairsTo zs k) = zs.take k
  | 0, _ => by simp [pairsTo, lenI]
  | k + 1, h => by
    rw [pairsTo, lenI_snoc, lenI_pairsTo zs hn k (by omega), List.take_succ_eq_append_getElem (by omega)]
    have := hn k (by omega)
    have e : zs[k] = nth zs k := by rw [nth, List.getD_eq_getElem?_getD, List.getElem?_eq_getElem (by omega)]; rfl
    dsimp only
    rw [e, Int.toNat_of_nonneg this]
theorem runs_back (zs : List Int) (hp : ∀ i, 1 ≤ i → i < zs.length → 1 ≤ nth zs i) (h1 : zs.length = 1 → 1 ≤ nth zs 0) (hn : ∀ i, i < zs.length → 0 ≤ nth zs i) : runsInts (bitsTo zs zs.length) = zs := by
  rcases Nat.eq_zero_or_pos zs.length with h0 | h0
  · have : zs = [] := List.eq_nil_of_length_eq_zero h0
    subst this
    rfl
  · obtain ⟨k, hk⟩ : ∃ k, zs.length = k + 1 := ⟨zs.length - 1, by omega⟩
    have hs := runSt_bitsTo zs hp k (by omega)
    have hpos : 0 < (nth zs k).toNat := by
      have : 1 ≤ nth zs k := by
        rcases Nat.eq_zero_or_pos k with e | e
        · subst e; exact h1 hk
        · exact hp k e (by omega)
      omega
    rw [hk, runsInts, runsL, hs]
    dsimp only
    rw [if_pos hpos]
    show lenI (pairsTo zs k ++ [(par k, (nth zs k).toNat)]) = zs
    have := lenI_pairsTo zs hn (k + 1) (by omega)
    rw [pairsTo] at this
    rw [this, ← hk, List.take_length]

/-- Every second run counts. -/
def oddSum (zs : List Int) : Nat → Nat
  | 0 => 0
  | k + 1 => oddSum zs k + (if par k then (nth zs k).toNat else 0)
theorem cntB_replicate (n : Nat) (b : Bool) : cntB (List.replicate n b) = if b then n else 0 := by
  induction n with
  | zero => cases b <;> rfl
  | succ n ih => rw [List.replicate_succ, cntB_cons, ih]; cases b <;> simp <;> omega
theorem cntB_bitsTo (zs : List Int) : ∀ k, cntB (bitsTo zs k) = oddSum zs k
  | 0 => rfl
  | k + 1 => by rw [bitsTo, cntB_append, cntB_bitsTo zs k, cntB_replicate]; rfl
theorem oddSum_le (zs : List Int) : ∀ k, oddSum zs k ≤ sumN zs k
  | 0 => Nat.le_refl _
  | k + 1 => by
    have := oddSum_le zs k
    rw [oddSum, sumN]
    split <;> omega
theorem sumN_mono (zs : List Int) (k : Nat) : ∀ d, sumN zs k ≤ sumN zs (k + d)
  | 0 => Nat.le_refl _
  | d + 1 => Nat.le_trans (sumN_mono zs k d) (Nat.le_add_right _ _)
theorem sumN_le (zs : List Int) {k n : Nat} (h : k ≤ n) : sumN zs k ≤ sumN zs n := by
  have := sumN_mono zs k (n - k)
  rwa [show k + (n - k) = n by omega] at this
/-- The first bit tells whether the first run is empty. -/
theorem bth_append_lt {a b : List Bool} {i : Nat} (h : i < a.length) : bth (a ++ b) i = bth a i := by
  unfold bth
  rw [List.getD_eq_getElem?_getD, List.getD_eq_getElem?_getD, List.getElem?_append_left h]
theorem bth_bitsTo (zs : List Int) (k i : Nat) (h : i < sumN zs k) : ∀ d, bth (bitsTo zs (k + d)) i = bth (bitsTo zs k) i
  | 0 => rfl
  | d + 1 => by
    have hl : i < (bitsTo zs (k + d)).length := by rw [bitsTo_length]; exact Nat.lt_of_lt_of_le h (sumN_mono zs k d)
    show bth (bitsTo zs (k + d) ++ _) i = _
    rw [bth_append_lt hl, bth_bitsTo zs k i h d]
theorem first_run {bs : List Bool} {zs : List Int} (h : RunsTold bs zs) (h0 : 0 < zs.length) : (nth zs 0 == 0) = bth bs 0 := by
  rw [← h.bits]
  have hn := h.nonneg 0
  by_cases hz : nth zs 0 = 0
  · have hlen : 2 ≤ zs.length := by
      rcases Nat.lt_or_ge zs.length 2 with h2 | h2
      · have := h.one (by omega); omega
      · exact h2
    have h1 := h.pos 1 (Nat.le_refl _) (by omega)
    have := bth_bitsTo zs 2 0 (by rw [sumN, sumN, sumN]; omega) (zs.length - 2)
    rw [show 2 + (zs.length - 2) = zs.length by omega] at this
    rw [this, hz]
    rw [bitsTo, bitsTo, bitsTo, hz]
    obtain ⟨j, hj⟩ : ∃ j, (nth zs 1).toNat = j + 1 := ⟨(nth zs 1).toNat - 1, by omega⟩
    rw [hj]
    rfl
  · have := bth_bitsTo zs 1 0 (by rw [sumN, sumN]; omega) (zs.length - 1)
    rw [show 1 + (zs.length - 1) = zs.length by omega] at this
    rw [this]
    rw [bitsTo, bitsTo]
    obtain ⟨j, hj⟩ : ∃ j, (nth zs 0).toNat = j + 1 := ⟨(nth zs 0).toNat - 1, by omega⟩
    rw [hj]
    have : (nth zs 0 == 0) = false := beq_eq_false_iff_ne.2 hz
    rw [this]
    rfl

end Go.Proofs.Ytmepbogfdpmfaaa
