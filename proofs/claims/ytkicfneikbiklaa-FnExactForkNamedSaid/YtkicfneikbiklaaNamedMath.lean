/- The plain mathematics of ForkNamed: the sorted keys of the map are the model's list. Conditions: none. -/
import Derived.Test.YtkicfneikbiklaaSNamed
import Derived.Test.YtkicfneikbiklaaNamed
import Derived.WideShapes
namespace Go.Proofs.Ytkicfneikbiklaa
open Go.RowKit
set_option linter.unusedVariables false

def kInv (D : DataW Unit) : Prop := ∃ es : List (Lit × DataW Unit), D = .map es ∧ (∀ q ∈ es, ∃ x, q.1 = Lit.int .i64 x) ∧ (intKeys D).Nodup
theorem kInv_put {D : DataW Unit} (h : kInv D) (p : Int) (d : DataW Unit) : kInv (D.put (.int .i64 p) d) ∧ ∀ x, x ∈ intKeys (D.put (.int .i64 p) d) ↔ x = p ∨ x ∈ intKeys D := by
  obtain ⟨es, rfl, hk, hn⟩ := h
  have hn' : (es.map fun q => Go.intOf q.1).Nodup := hn
  have e : (DataW.map es).put (.int .i64 p) d = .map (DataW.insert (.int .i64 p, d) (es.filter fun q => !q.1.sameKey (.int .i64 p))) := rfl
  have hp := WideShapes.insert_perm (.int .i64 p, d) (es.filter fun q => !q.1.sameKey (.int .i64 p))
  have hpm : (intKeys ((DataW.map es).put (.int .i64 p) d)).Perm (p :: (es.filter fun q => !q.1.sameKey (.int .i64 p)).map fun q => Go.intOf q.1) := by
    rw [e]
    exact hp.map fun q => Go.intOf q.1
  have hnot : p ∉ (es.filter fun q => !q.1.sameKey (.int .i64 p)).map fun q => Go.intOf q.1 := by
    intro hm
    obtain ⟨q, hq, hqe⟩ := List.mem_map.1 hm
    obtain ⟨hq1, hq2⟩ := List.mem_filter.1 hq
    obtain ⟨x, hx⟩ := hk q hq1
    rw [hx] at hq2 hqe
    have hqe2 : x = p := hqe
    subst hqe2
    simp [Lit.sameKey] at hq2
  have hmem : ∀ x, x ∈ intKeys ((DataW.map es).put (.int .i64 p) d) ↔ x = p ∨ x ∈ intKeys (DataW.map es) := by
    intro x
    rw [hpm.mem_iff, List.mem_cons]
    refine ⟨fun h => ?_, fun h => ?_⟩
    · rcases h with h | h
      · exact .inl h
      · obtain ⟨q, hq, hqe⟩ := List.mem_map.1 h
        exact .inr (List.mem_map.2 ⟨q, (List.mem_filter.1 hq).1, hqe⟩)
    · rcases h with h | h
      · exact .inl h
      · by_cases hxp : x = p
        · exact .inl hxp
        · obtain ⟨q, hq, hqe⟩ := List.mem_map.1 h
          refine .inr (List.mem_map.2 ⟨q, List.mem_filter.2 ⟨hq, ?_⟩, hqe⟩)
          obtain ⟨y, hy⟩ := hk q hq
          rw [hy] at hqe ⊢
          have hyx : y = x := hqe
          subst hyx
          simp [Lit.sameKey, hxp]
  refine ⟨⟨_, e, ?_, ?_⟩, hmem⟩
  · intro q hq
    rcases List.mem_cons.1 (hp.mem_iff.1 hq) with h | h
    · exact ⟨p, by rw [h]⟩
    · exact hk q (List.mem_filter.1 h).1
  · refine hpm.nodup_iff.2 (List.nodup_cons.2 ⟨hnot, ?_⟩)
    exact (List.Sublist.map _ List.filter_sublist).nodup hn'
theorem named_fold : ∀ (xs : List KD) (D : DataW Unit), kInv D → kInv (xs.foldl (fun D r => if okK r = true then D.put (.int .i64 r.p) (.lit (.bool true)) else D) D) ∧ ∀ x, x ∈ intKeys (xs.foldl (fun D r => if okK r = true then D.put (.int .i64 r.p) (.lit (.bool true)) else D) D) ↔ x ∈ intKeys D ∨ hasK xs x = true
  | [], D, h => ⟨h, fun x => by simp [hasK]⟩
  | r :: xs, D, h => by
    rw [List.foldl_cons]
    by_cases hr : okK r = true
    · rw [if_pos hr]
      obtain ⟨h1, h2⟩ := kInv_put h r.p (.lit (.bool true))
      obtain ⟨h3, h4⟩ := named_fold xs _ h1
      refine ⟨h3, fun x => ?_⟩
      rw [h4 x, h2 x]
      have e : hasK (r :: xs) x = (r.p == x || hasK xs x) := by unfold hasK; rw [List.any_cons, hr, Bool.and_true]
      rw [e, Bool.or_eq_true, beq_iff_eq]
      constructor
      · rintro ((h | h) | h)
        · exact .inr (.inl h.symm)
        · exact .inl h
        · exact .inr (.inr h)
      · rintro (h | h | h)
        · exact .inl (.inr h)
        · exact .inl (.inl h.symm)
        · exact .inr h
    · rw [if_neg hr]
      obtain ⟨h3, h4⟩ := named_fold xs D h
      refine ⟨h3, fun x => ?_⟩
      rw [h4 x]
      have e : hasK (r :: xs) x = hasK xs x := by unfold hasK; rw [List.any_cons, Bool.eq_false_iff.2 hr, Bool.and_false, Bool.false_or]
      rw [e]
theorem named_keys (xs : List KD) : (intKeys (namedD xs)).Nodup ∧ ∀ x, x ∈ intKeys (namedD xs) ↔ hasK xs x = true := by
  obtain ⟨⟨_, _, _, h1⟩, h2⟩ := named_fold xs (.map []) ⟨[], rfl, by simp, by simp [intKeys]⟩
  exact ⟨h1, fun x => by unfold namedD; rw [h2 x]; simp [intKeys]⟩
theorem hasK_range {xs : List KD} {x : Int} (h : hasK xs x = true) : 1 ≤ x ∧ x ≤ 996 := by
  unfold hasK at h
  rw [List.any_eq_true] at h
  obtain ⟨r, _, hr⟩ := h
  rw [Bool.and_eq_true, beq_iff_eq] at hr
  obtain ⟨rfl, hok⟩ := hr
  have h2 := (signedB_iff _ _ _ _).1 ((forkB_iff _ _ _ _ _ _ _).1 hok).1
  omega
theorem keysTo_mem (xs : List KD) : ∀ (m : Nat) (x : Int), x ∈ keysTo xs m ↔ 1 ≤ x ∧ x ≤ (m : Int) ∧ hasK xs x = true
  | 0, x => by simp [keysTo]; omega
  | m + 1, x => by
    unfold keysTo
    rw [List.mem_append, keysTo_mem xs m x]
    constructor
    · rintro (⟨h1, h2, h3⟩ | h)
      · exact ⟨h1, by omega, h3⟩
      · split at h
        · rename_i hh
          rw [List.mem_singleton] at h
          subst h
          exact ⟨by omega, by omega, hh⟩
        · simp at h
    · rintro ⟨h1, h2, h3⟩
      by_cases hx : x ≤ (m : Int)
      · exact .inl ⟨h1, hx, h3⟩
      · have e : x = (m : Int) + 1 := by omega
        subst e
        exact .inr (by rw [if_pos h3]; simp)
theorem keysTo_up (xs : List KD) : ∀ m, (keysTo xs m).Pairwise (· < ·)
  | 0 => List.Pairwise.nil
  | m + 1 => by
    unfold keysTo
    rw [List.pairwise_append]
    refine ⟨keysTo_up xs m, by split <;> simp, fun a ha b hb => ?_⟩
    have h1 := keysTo_le xs m a ha
    split at hb
    · rw [List.mem_singleton] at hb; omega
    · simp at hb
/-- The sorted keys are the model's list. -/
theorem named_sorted {xs : List KD} {ss : List Int} (h : ss.Perm (intKeys (namedD xs))) : ss.mergeSort (fun x y => decide (x ≤ y)) = keysTo xs 996 := by
  obtain ⟨h1, h2⟩ := named_keys xs
  refine List.Perm.eq_of_pairwise (le := fun a b : Int => a ≤ b) (fun a b _ _ p q => by omega) ?_ ((keysTo_up xs 996).imp fun h => by omega) ?_
  · exact (List.pairwise_mergeSort (le := fun x y : Int => decide (x ≤ y)) (fun a b c p q => by simp only [decide_eq_true_eq] at p q ⊢; omega) (fun a b => by simp; omega) ss).imp fun h => of_decide_eq_true h
  · refine (List.mergeSort_perm _ _).trans (h.trans ((List.perm_ext_iff_of_nodup h1 ((keysTo_up xs 996).imp fun h => by omega)).2 fun x => ?_))
    rw [h2 x, keysTo_mem]
    exact ⟨fun k => ⟨(hasK_range k).1, (hasK_range k).2, k⟩, fun k => k.2.2⟩

/-- ForkNamed, told by the model's list. -/
theorem named_list (A : Option Addr) (cap : Nat) (xs : List KD) (w : World) (hI : RowAt KK w w.heap.size A xs) (hl : xs.length ≤ 2000000) :
    Calls Try.prog 8 #[.slice A xs.length cap] w fun e w' => ∃ X c, e = .returned (.slice X (keysTo xs 996).length c) ∧ IntsAt w' w'.heap.size X (keysTo xs 996) ∧ Below w.heap.size w w' := by
  refine (named_any A cap xs w hI hl).mono ?_
  rintro e w' ⟨v, ss, rfl, hS, hrow, hnil, hb⟩
  have hs := named_sorted hS
  rw [hs] at hrow
  have hlen : ss.length = (keysTo xs 996).length := by rw [← hs, List.length_mergeSort]
  rw [hlen] at hrow
  by_cases h0 : 0 < (keysTo xs 996).length
  · obtain ⟨g, c, hv, _, _⟩ := World.ownsRow.form hrow h0
    subst hv
    have ho : OwnInts w' w.heap.size (some ⟨g, 0, none⟩) c (keysTo xs 996) := hrow
    exact ⟨_, c, rfl, ho.ints, hb⟩
  · have e0 : ss = [] := List.length_eq_zero_iff.1 (by omega)
    rw [hnil.2 e0]
    refine ⟨none, 0, ?_, fun h => absurd h h0, hb⟩
    rw [show (keysTo xs 996).length = 0 by omega]

/-- The same, the list in memory of the call's own. -/
theorem named_own (A : Option Addr) (cap : Nat) (xs : List KD) (w : World) (hI : RowAt KK w w.heap.size A xs) (hl : xs.length ≤ 2000000) :
    Calls Try.prog 8 #[.slice A xs.length cap] w (RetInts w (keysTo xs 996)) := by
  refine (named_any A cap xs w hI hl).mono ?_
  rintro e w' ⟨v, ss, rfl, hS, hrow, hnil, hb⟩
  have hs := named_sorted hS
  rw [hs] at hrow
  have hlen : ss.length = (keysTo xs 996).length := by rw [← hs, List.length_mergeSort]
  rw [hlen] at hrow
  by_cases h0 : 0 < (keysTo xs 996).length
  · obtain ⟨g, c, hv, _, _⟩ := World.ownsRow.form hrow h0
    subst hv
    exact ⟨_, c, rfl, hrow, hb⟩
  · have e0 : ss = [] := List.length_eq_zero_iff.1 (by omega)
    have hk : keysTo xs 996 = [] := List.length_eq_zero_iff.1 (by omega)
    rw [hnil.2 e0, hk] at hrow
    rw [hnil.2 e0, hk]
    exact ⟨none, 0, rfl, hrow, hb⟩

end Go.Proofs.Ytkicfneikbiklaa
