/- Mathematics of runs of bits: what the runs of a list are, how many bits are set, and how both are reckoned step by step. No conditions. -/
import Derived.Test.YtgpmodidpdjhkaaBools
namespace Go.Proofs.Ytgpmodidpdjhkaa

/-- Runs so far, and the run that is open: whether it is of bits that are set, and its length. -/
def stepR (s : List (Bool × Nat) × Bool × Nat) (b : Bool) : List (Bool × Nat) × Bool × Nat :=
  if b = s.2.1 then (s.1, s.2.1, s.2.2 + 1) else (s.1 ++ [(s.2.1, s.2.2)], b, 1)
def runSt (bs : List Bool) : List (Bool × Nat) × Bool × Nat := bs.foldl stepR ([], false, 0)
/-- The runs of bits. -/
def runsL (bs : List Bool) : List (Bool × Nat) := (runSt bs).1 ++ (if 0 < (runSt bs).2.2 then [((runSt bs).2.1, (runSt bs).2.2)] else [])
theorem take_bth (bs : List Bool) (k : Nat) (h : k < bs.length) : bs.take (k + 1) = bs.take k ++ [bth bs k] := by
  rw [List.take_succ_eq_append_getElem h, bth, List.getD_eq_getElem?_getD, List.getElem?_eq_getElem h]; rfl
theorem runSt_snoc (bs : List Bool) (b : Bool) : runSt (bs ++ [b]) = stepR (runSt bs) b := by unfold runSt; rw [List.foldl_append]; rfl
theorem runSt_next (bs : List Bool) (k : Nat) (h : k < bs.length) : runSt (bs.take (k + 1)) = stepR (runSt (bs.take k)) (bth bs k) := by rw [take_bth bs k h, runSt_snoc]
theorem runSt_same {bs : List Bool} {k : Nat} (h : k < bs.length) {R : List (Bool × Nat)} {s : Bool} {n : Nat} (hs : runSt (bs.take k) = (R, s, n)) (hb : bth bs k = s) : runSt (bs.take (k + 1)) = (R, s, n + 1) := by
  rw [runSt_next bs k h, hs, stepR, if_pos hb]
theorem runSt_other {bs : List Bool} {k : Nat} (h : k < bs.length) {R : List (Bool × Nat)} {s : Bool} {n : Nat} (hs : runSt (bs.take k) = (R, s, n)) (hb : ¬ bth bs k = s) : runSt (bs.take (k + 1)) = (R ++ [(s, n)], bth bs k, 1) := by
  rw [runSt_next bs k h, hs, stepR, if_neg hb]
/-- Few runs, none longer than the list. -/
theorem runSt_le (bs : List Bool) : (runSt bs).1.length ≤ bs.length ∧ (runSt bs).2.2 ≤ bs.length ∧ ∀ p ∈ (runSt bs).1, p.2 ≤ bs.length := by
  have rev : ∀ l : List Bool, (runSt l.reverse).1.length ≤ l.length ∧ (runSt l.reverse).2.2 ≤ l.length ∧ ∀ p ∈ (runSt l.reverse).1, p.2 ≤ l.length := by
    intro l
    induction l with
    | nil => exact ⟨Nat.le_refl _, Nat.le_refl _, fun p hp => by cases hp⟩
    | cons b l ih =>
      obtain ⟨h1, h2, h3⟩ := ih
      rw [List.reverse_cons, runSt_snoc, stepR]
      split
      · exact ⟨by simp; omega, by simp; omega, fun p hp => by have := h3 p hp; simp; omega⟩
      · refine ⟨by simp; omega, by simp, fun p hp => ?_⟩
        rcases List.mem_append.1 hp with hp | hp
        · have := h3 p hp; simp; omega
        · have : p = ((runSt l.reverse).2.1, (runSt l.reverse).2.2) := by simpa using hp
          subst this
          simp; omega
  have := rev bs.reverse
  rwa [List.reverse_reverse, List.length_reverse] at this
theorem runsL_length (bs : List Bool) : (runsL bs).length ≤ bs.length + 1 := by
  have := (runSt_le bs).1
  unfold runsL
  rw [List.length_append]
  split <;> simp <;> omega

/-- The number of bits that are set. -/
def cntB (bs : List Bool) : Nat := bs.foldl (fun n b => if b then n + 1 else n) 0
theorem cntB_snoc (bs : List Bool) (b : Bool) : cntB (bs ++ [b]) = cntB bs + (if b then 1 else 0) := by
  unfold cntB
  rw [List.foldl_append]
  cases b <;> rfl
theorem cntB_next (bs : List Bool) (k : Nat) (h : k < bs.length) : cntB (bs.take (k + 1)) = cntB (bs.take k) + (if bth bs k then 1 else 0) := by rw [take_bth bs k h, cntB_snoc]
/-- The lengths of the runs of bits that are set, together. -/
def sumSet (rs : List (Bool × Nat)) : Nat := rs.foldl (fun n p => if p.1 then n + p.2 else n) 0
theorem sumSet_snoc (rs : List (Bool × Nat)) (p : Bool × Nat) : sumSet (rs ++ [p]) = sumSet rs + (if p.1 then p.2 else 0) := by
  unfold sumSet
  rw [List.foldl_append]
  obtain ⟨s, n⟩ := p
  cases s <;> rfl
theorem cnt_runSt : ∀ bs : List Bool, cntB bs = sumSet (runSt bs).1 + (if (runSt bs).2.1 then (runSt bs).2.2 else 0) := by
  have rev : ∀ l : List Bool, cntB l.reverse = sumSet (runSt l.reverse).1 + (if (runSt l.reverse).2.1 then (runSt l.reverse).2.2 else 0) := by
    intro l
    induction l with
    | nil => rfl
    | cons b l ih =>
      rw [List.reverse_cons, runSt_snoc, cntB_snoc, ih, stepR]
      by_cases hb : b = (runSt l.reverse).2.1
      · rw [if_pos hb]
        subst hb
        cases (runSt l.reverse).2.1 <;> simp <;> omega
      · rw [if_neg hb]
        dsimp only
        rw [sumSet_snoc]
  intro bs
  have := rev bs.reverse
  rwa [List.reverse_reverse] at this
theorem sumSet_runsL (bs : List Bool) : sumSet (runsL bs) = cntB bs := by
  rw [cnt_runSt, runsL]
  split
  · rw [sumSet_snoc]
  · rw [List.append_nil]
    have : (runSt bs).2.2 = 0 := by omega
    rw [this]
    simp
theorem cntB_le (bs : List Bool) : cntB bs ≤ bs.length := by
  have rev : ∀ l : List Bool, cntB l.reverse ≤ l.length := by
    intro l
    induction l with
    | nil => exact Nat.le_refl _
    | cons b l ih => rw [List.reverse_cons, cntB_snoc]; cases b <;> simp <;> omega
  have := rev bs.reverse
  rwa [List.reverse_reverse, List.length_reverse] at this

/-- A run that yield is handed: short. -/
structure Run where
  set : Bool
  len : Nat
  small : len ≤ 16
def Run.pair (r : Run) : Bool × Nat := (r.set, r.len)
theorem sumSet_small (rs : List Run) : sumSet (rs.map Run.pair) ≤ 16 * rs.length := by
  have rev : ∀ l : List Run, sumSet (l.reverse.map Run.pair) ≤ 16 * l.length := by
    intro l
    induction l with
    | nil => exact Nat.le_refl _
    | cons r l ih =>
      rw [List.reverse_cons, List.map_append, List.map_cons, List.map_nil, sumSet_snoc]
      have := r.small
      have h2 : (if r.pair.1 then r.pair.2 else 0) ≤ 16 := by
        split
        · exact this
        · omega
      simp only [List.length_cons]
      omega
  have := rev rs.reverse
  rwa [List.reverse_reverse, List.length_reverse] at this

end Go.Proofs.Ytgpmodidpdjhkaa
