/- Contract of the model's l51Links: it answers as the data say. Condition: the run lies in memory. -/
import Derived.Test.YtkmebilhbjcfpaaSRunA
import Derived.Test.YtkmebilhbjcfpaaWorldStep
namespace Go.Proofs.Ytkmebilhbjcfpaa
open Go.RowKit
set_option linter.unusedVariables false

/-- The k-th connection is in range and behind the one before it. -/
def fitK (n : Nat) (ls : List LinkD) (k : Nat) : Bool :=
  (decide (0 ≤ (kth2 ls k).a) && decide ((kth2 ls k).a ≤ (n : Int) - 1)) && ((decide ((kth2 ls k).a + 1 ≤ (kth2 ls k).b) && decide ((kth2 ls k).b ≤ (n : Int) - 1)) && (decide (k = 0) || decide (ltK (kth2 ls (k - 1)) (kth2 ls k))))
def linksB (n : Nat) (ls : List LinkD) : Bool := (List.range ls.length).all (fitK n ls)
theorem linksB_all (n : Nat) (ls : List LinkD) : linksB n ls = true ↔ ∀ k, k < ls.length → fitK n ls k = true := by
  unfold linksB
  rw [List.all_eq_true]
  exact ⟨fun h k hk => h k (List.mem_range.2 hk), fun h k hk => h k (List.mem_range.1 hk)⟩
theorem linksB_no {n : Nat} {ls : List LinkD} {k : Nat} (hk : k < ls.length) (h : fitK n ls k = false) : linksB n ls = false := by
  rw [Bool.eq_false_iff]
  intro e
  rw [(linksB_all n ls).1 e k hk] at h
  cases h
theorem fitK_iff (n : Nat) (ls : List LinkD) (k : Nat) : fitK n ls k = true ↔ (0 ≤ (kth2 ls k).a ∧ (kth2 ls k).a < (kth2 ls k).b ∧ (kth2 ls k).b < n) ∧ (k = 0 ∨ ltK (kth2 ls (k - 1)) (kth2 ls k)) := by
  unfold fitK
  simp only [Bool.and_eq_true, Bool.or_eq_true, decide_eq_true_eq]
  constructor
  · rintro ⟨⟨a1, a2⟩, ⟨⟨a3, a4⟩, a5⟩⟩
    exact ⟨⟨a1, by omega, by omega⟩, a5⟩
  · rintro ⟨⟨a1, a2, a3⟩, a5⟩
    exact ⟨⟨a1, by omega⟩, ⟨by omega, by omega⟩, a5⟩
theorem kth2_eq (ls : List LinkD) (k : Nat) (h : k < ls.length) : kth2 ls k = ls[k] := by
  have := kth2_get ls k h
  rw [List.getElem?_eq_getElem h] at this
  injection this with this
  exact this.symm
theorem linksB_iff (n : Nat) (ls : List LinkD) : linksB n ls = true ↔ LinksW n ls := by
  rw [linksB_all]
  constructor
  · intro h
    refine ⟨fun l hl => ?_, ?_⟩
    · obtain ⟨k, hk, rfl⟩ := mem_kth2 hl
      exact ((fitK_iff n ls k).1 (h k hk)).1
    · have step : ∀ d i, i + d + 1 < ls.length → ltK (kth2 ls i) (kth2 ls (i + d + 1)) := by
        intro d
        induction d with
        | zero =>
          intro i hi
          rcases ((fitK_iff n ls (i + 0 + 1)).1 (h _ hi)).2 with h | h
          · omega
          · simpa using h
        | succ d ih =>
          intro i hi
          have a := ih i (by omega)
          rcases ((fitK_iff n ls (i + (d + 1) + 1)).1 (h _ hi)).2 with h | h
          · omega
          · have e : i + (d + 1) + 1 - 1 = i + d + 1 := by omega
            rw [e] at h
            exact ltK_trans a h
      rw [List.pairwise_iff_getElem]
      intro i j hi hj hij
      have := step (j - i - 1) i (by omega)
      rw [show i + (j - i - 1) + 1 = j by omega, kth2_eq ls i hi, kth2_eq ls j hj] at this
      exact this
  · intro h k hk
    rw [fitK_iff]
    refine ⟨h.ok _ (kth2_mem ls k hk), ?_⟩
    rcases Nat.eq_zero_or_pos k with rfl | hp
    · exact .inl rfl
    · right
      have := (List.pairwise_iff_getElem.1 h.asc) (k - 1) k (by omega) hk (by omega)
      rw [kth2_eq ls (k - 1) (by omega), kth2_eq ls k hk]
      exact this

end Go.Proofs.Ytkmebilhbjcfpaa
