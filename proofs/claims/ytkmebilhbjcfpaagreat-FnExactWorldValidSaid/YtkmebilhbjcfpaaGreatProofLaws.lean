/- The plain laws of proofs: they are digests, and are accepted. Conditions: as each statement says. -/
import Derived.Test.YtkmebilhbjcfpaaGreatBaseK
namespace Go.Proofs.YtkmebilhbjcfpaaGreat
open Go.RowKit
set_option linter.unusedVariables false

theorem OwnInts.formA {w : World} {base : Nat} {A : Option Addr} {cap : Nat} {zs : List Int} (h : OwnInts w base A cap zs) : (A = none ∧ cap = 0) ∨ ∃ b o, A = some ⟨b, o, none⟩ := by
  rcases h.2 with ⟨hv, _⟩ | ⟨g, c, cur, hv, _⟩
  · injection hv with hA _ hc; exact .inl ⟨hA, hc⟩
  · injection hv with hA _ _; exact .inr ⟨g, 0, hA⟩
theorem sib_digs : ∀ (d i : Nat) (l : List Int), Digs l → l.length = 2 ^ d → Digs (sibG pairZ 0 d l i) := by
  intro d
  induction d with
  | zero => intro i l _ _ x hx; cases hx
  | succ d ih =>
    intro i l hd hl
    have hp : 1 ≤ 2 ^ d := Nat.pos_of_ne_zero (by simp)
    rw [Nat.pow_succ] at hl
    have h1 : (l.take (2 ^ d)).length = 2 ^ d := by rw [List.length_take]; omega
    have h2 : (l.drop (2 ^ d)).length = 2 ^ d := by rw [List.length_drop]; omega
    have snoc : ∀ (s : List Int) (r : Int), Digs s → 0 ≤ r ∧ r < 991 → Digs (s ++ [r]) := by
      intro s r hs hr x hx
      rcases List.mem_append.1 hx with h | h
      · exact hs x h
      · rw [List.mem_singleton] at h; subst h; exact hr
    by_cases h : i &&& 2 ^ d = 0
    · rw [sib_left h]
      exact snoc _ _ (ih i _ (hd.take _) h1) (rootZ_bd 4 _ (hd.drop _) (by omega))
    · rw [sib_right h]
      exact snoc _ _ (ih i _ (hd.drop _) h2) (rootZ_bd 4 _ (hd.take _) (by omega))
theorem proofZ_digs (zs : List Int) (i : Nat) (h16 : zs.length ≤ 16) (hi : i < zs.length) (hd : Digs zs) : Digs (proofZ zs i) := by
  obtain ⟨_, _, h3⟩ := place_facts h16 hi
  obtain ⟨_, h4, _⟩ := h3 (placeOf zs.length i) (Nat.le_refl _)
  obtain ⟨d1, d2, d3⟩ := depth_facts h16 hi
  intro x hx
  unfold proofZ proofG at hx
  rcases List.mem_append.1 hx with h | h
  · refine sib_digs _ i _ (hd.seg _ _) ?_ x h
    have h5 : (segG zs (peakOf zs.length i).1 (peakOf zs.length i).2).length = (peakOf zs.length i).2 := segG_length _ _ _ h4
    rw [h5]
    exact d1
  · exact coverZ_digs zs 0 hd h16 x (List.mem_of_mem_eraseIdx h)
theorem proof_ok (zs : List Int) (i : Nat) (h16 : zs.length ≤ 16) (hi : i < zs.length) (hd : Digs zs) : treeOkB (digestZ zs) zs.length i (nth zs i) (proofZ zs i) = true := by
  rw [treeOkB_iff]
  obtain ⟨a, b⟩ := hd.at_ i hi
  refine ⟨⟨by omega, by omega, ⟨a, b⟩, digB_of (proofZ_digs zs i h16 hi hd)⟩, ?_, ?_⟩
  · rw [Int.toNat_natCast, Int.toNat_natCast]; exact proofZ_length zs i h16 hi
  · rw [Int.toNat_natCast, Int.toNat_natCast]; exact accept zs i h16 hi

theorem ok_leaf {digest n i leaf x : Int} {zs : List Int} (h : treeOkB digest n i leaf zs = true) (hne : x ≠ leaf) : treeOkB digest n i x zs = false := by
  refine treeOkB_no fun k => ?_
  obtain ⟨⟨a, b, c, d⟩, e, f⟩ := (treeOkB_iff _ _ _ _ _).1 h
  obtain ⟨⟨_, _, c', _⟩, _, f'⟩ := k
  exact check_leaf n.toNat i.toNat x leaf zs (by omega) (by omega) e (digB_yes d) c' c hne (f'.trans f.symm)
theorem ok_digest {digest y n i leaf : Int} {zs : List Int} (h : treeOkB digest n i leaf zs = true) (hne : y ≠ digest) : treeOkB y n i leaf zs = false := by
  refine treeOkB_no fun k => ?_
  exact hne (k.2.2.symm.trans ((treeOkB_iff _ _ _ _ _).1 h).2.2)
theorem ok_length {digest n i leaf : Int} {zs : List Int} (h : treeOkB digest n i leaf zs = true) : zs.length ≤ 6 := by
  obtain ⟨⟨a, b, c, d⟩, e, f⟩ := (treeOkB_iff _ _ _ _ _).1 h
  rw [e]
  exact proofLen_le (by omega) (by omega)
theorem ok_other {digest n i leaf : Int} {zs ys : List Int} (h : treeOkB digest n i leaf zs = true) (hne : ys.length ≠ zs.length) : treeOkB digest n i leaf ys = false := by
  refine treeOkB_no fun k => hne ?_
  rw [k.2.1, ((treeOkB_iff _ _ _ _ _).1 h).2.1]
theorem ok_change {digest n i leaf y : Int} {zs : List Int} {k : Nat} (h : treeOkB digest n i leaf zs = true) (hk : k < zs.length) (hy : 0 ≤ y ∧ y < 991) (hne : nth zs k ≠ y) : treeOkB digest n i leaf (zs.set k y) = false := by
  refine treeOkB_no fun q => ?_
  obtain ⟨⟨a, b, c, d⟩, e, f⟩ := (treeOkB_iff _ _ _ _ _).1 h
  exact check_change n.toNat i.toNat k leaf y zs (by omega) (by omega) e hk (digB_yes d) c hy hne (q.2.2.trans f.symm)
theorem ok_none {digest n i leaf : Int} (h : treeOkB digest n i leaf [] = true) : n = 1 := by
  obtain ⟨⟨a, b, c, d⟩, e, f⟩ := (treeOkB_iff _ _ _ _ _).1 h
  have look : allNI (fun n i => decide (proofLen n i ≠ 0) || decide (n = 1)) = true := by decide +kernel
  have := allNI_get look (n := n.toNat) (i := i.toNat) (by omega) (by omega)
  simp only [Bool.or_eq_true, decide_eq_true_eq] at this
  rcases this with h0 | h0
  · exact absurd e.symm h0
  · omega

end Go.Proofs.YtkmebilhbjcfpaaGreat
