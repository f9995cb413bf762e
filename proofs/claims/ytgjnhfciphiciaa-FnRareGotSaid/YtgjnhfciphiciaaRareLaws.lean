/- The mathematics of the laws of rarest blocks: the order is by holders and index, it lists what is wanted, the least copies, further peers, further bits, peers the other way round. No conditions. -/
import Derived.Test.YtgjnhfciphiciaaSRarePick
namespace Go.Proofs.Ytgjnhfciphiciaa
open Go.RowKit
set_option linter.unusedVariables false

theorem deci_self (l : List Int) : decide (l = l) = true := by simp
def rarer (ps : List (List Bool)) (x y : Nat) : Prop := cntB ps x < cntB ps y ∨ (cntB ps x = cntB ps y ∧ x < y)
theorem orderK_mem (ps : List (List Bool)) (mine : List Bool) (k : Nat) : k ∈ orderK ps mine ↔ 0 < k / 16 ∧ cntB ps (k % 16) = k / 16 ∧ bth mine (k % 16) = false := by
  unfold orderK orderTo
  rw [List.mem_filter, List.mem_range, ordP_iff]
  constructor
  · exact fun h => h.2
  · intro h
    have := cntB_le ps (k % 16)
    exact ⟨by omega, h⟩
theorem orderN_yes {ps : List (List Bool)} {mine : List Bool} (h : okP ps = true ∧ mine.length ≤ 16) : orderN ps mine = (orderK ps mine).map (· % 16) := by unfold orderN; rw [if_pos h]
theorem orderN_no {ps : List (List Bool)} {mine : List Bool} (h : ¬ (okP ps = true ∧ mine.length ≤ 16)) : orderN ps mine = [] := by unfold orderN; rw [if_neg h]
theorem orderN_some {ps : List (List Bool)} {mine : List Bool} (h : 0 < (orderN ps mine).length) : okP ps = true ∧ mine.length ≤ 16 := by
  by_cases hc : okP ps = true ∧ mine.length ≤ 16
  · exact hc
  · rw [orderN_no hc] at h; simp at h
theorem orderN_pair (ps : List (List Bool)) (mine : List Bool) : (orderN ps mine).Pairwise (rarer ps) := by
  by_cases hc : okP ps = true ∧ mine.length ≤ 16
  · rw [orderN_yes hc, List.pairwise_map]
    refine List.Pairwise.imp_of_mem (R := (· < ·)) ?_ (orderTo_sorted ps mine _)
    intro a b ha hb hlt
    have h1 := (orderK_mem ps mine a).1 ha
    have h2 := (orderK_mem ps mine b).1 hb
    unfold rarer
    omega
  · rw [orderN_no hc]; exact List.Pairwise.nil
theorem rarer_ne {ps : List (List Bool)} {x y : Nat} (h : rarer ps x y) : x ≠ y := by
  intro e; subst e; unfold rarer at h; omega
theorem orderN_nodup (ps : List (List Bool)) (mine : List Bool) : (orderN ps mine).Nodup := (orderN_pair ps mine).imp fun h => rarer_ne h
theorem orderN_lt {ps : List (List Bool)} {mine : List Bool} {b : Nat} (h : b ∈ orderN ps mine) : b < 16 := by
  by_cases hc : okP ps = true ∧ mine.length ≤ 16
  · rw [orderN_yes hc, List.mem_map] at h
    obtain ⟨k, _, rfl⟩ := h
    omega
  · rw [orderN_no hc] at h; cases h
theorem orderN_has {ps : List (List Bool)} {mine : List Bool} (hc : okP ps = true ∧ mine.length ≤ 16) {b : Nat} (hb : b < 16) : b ∈ orderN ps mine ↔ 0 < cntB ps b ∧ bth mine b = false := by
  rw [orderN_yes hc, List.mem_map]
  constructor
  · rintro ⟨k, hk, rfl⟩
    have := (orderK_mem ps mine k).1 hk
    exact ⟨by omega, this.2.2⟩
  · rintro ⟨h1, h2⟩
    refine ⟨cntB ps b * 16 + b, (orderK_mem ps mine _).2 ?_, by omega⟩
    have e1 : (cntB ps b * 16 + b) / 16 = cntB ps b := by omega
    have e2 : (cntB ps b * 16 + b) % 16 = b := by omega
    rw [e1, e2]
    exact ⟨h1, rfl, h2⟩
theorem orderN_next {ps : List (List Bool)} {mine : List Bool} {i : Nat} (hi : i + 1 < (orderN ps mine).length) : rarer ps (orderN ps mine)[i] (orderN ps mine)[i + 1] :=
  List.pairwise_iff_getElem.1 (orderN_pair ps mine) i (i + 1) (by omega) hi (by omega)
theorem orderN_at {ps : List (List Bool)} {mine : List Bool} {i : Nat} (hi : i < (orderN ps mine).length) : (orderN ps mine)[i] < 16 := orderN_lt (List.getElem_mem hi)
theorem ndup_len : ∀ (n : Nat) (l : List Nat), l.Nodup → (∀ x ∈ l, x < n) → l.length ≤ n
  | 0, l, _, h => by
    cases l with
    | nil => simp
    | cons a l => have := h a List.mem_cons_self; omega
  | n + 1, l, hn, h => by
    by_cases hm : n ∈ l
    · have h1 := ndup_len n (l.erase n) (hn.erase n) (fun x hx => by
        have h2 := (hn.mem_erase_iff).1 hx
        have := h x h2.2
        have := h2.1
        omega)
      rw [List.length_erase_of_mem hm] at h1
      omega
    · have := ndup_len n l hn (fun x hx => by
        have := h x hx
        have : x ≠ n := fun e => hm (e ▸ hx)
        omega)
      omega
theorem orderN_len (ps : List (List Bool)) (mine : List Bool) : (orderN ps mine).length ≤ 16 :=
  ndup_len 16 _ (orderN_nodup ps mine) fun x hx => orderN_lt hx
theorem countZ_nat {ps : List (List Bool)} {b : Nat} (h : okP ps = true) (hb : b < 16) : countZ ps (b : Int) = ((cntB ps b : Nat) : Int) := by
  unfold countZ; rw [if_pos ⟨h, by omega, by omega⟩]; rfl
theorem has_int (ks : List Nat) (b : Nat) : decide ((b : Int) ∈ natZ ks) = decide (b ∈ ks) := by
  rw [decide_eq_decide]
  unfold natZ
  rw [List.mem_map]
  constructor
  · rintro ⟨k, hk, e⟩
    have : k = b := by omega
    rw [← this]; exact hk
  · exact fun h => ⟨b, h, rfl⟩

/-- The rarest block of a peer. -/
theorem pick_least {ps : List (List Bool)} {mine : List Bool} {p r : Nat} (h : pickN ps mine p = some r) : okP ps = true ∧ mine.length ≤ 16 ∧ r < 16 ∧ bth (pth ps p) r = true ∧ (p < ps.length → ∀ b, b < 16 → bth (pth ps p) b = true → bth mine b = false → cntB ps r ≤ cntB ps b) := by
  unfold pickN at h
  obtain ⟨hf, ls, bs, he, hn⟩ := List.find?_eq_some_iff_append.1 h
  have hr : r ∈ orderN ps mine := by rw [he]; simp
  have hc := orderN_some (List.length_pos_of_mem hr)
  refine ⟨hc.1, hc.2, orderN_lt hr, hf, fun hp b hb h1 h2 => ?_⟩
  have hpos : 0 < cntB ps b := by
    unfold cntB
    rw [List.countP_pos_iff]
    exact ⟨pth ps p, by rw [pth_eq ps p hp]; exact List.getElem_mem hp, h1⟩
  have hm := (orderN_has hc hb).2 ⟨hpos, h2⟩
  have hpw := orderN_pair ps mine
  rw [he] at hm hpw
  have hpw2 := (List.pairwise_append.1 hpw).2.1
  rcases List.mem_append.1 hm with hm | hm
  · have := hn b hm
    rw [h1] at this
    cases this
  · rcases List.mem_cons.1 hm with rfl | hm
    · exact Nat.le_refl _
    · have := (List.pairwise_cons.1 hpw2).1 b hm
      unfold rarer at this
      omega

theorem least_bound (ps : List (List Bool)) : ∀ m b, b < m → least ps m ≤ cntB ps b
  | 0, b, h => by omega
  | m + 1, b, h => by
    show min (least ps m) (cntB ps m) ≤ _
    by_cases hb : b = m
    · subst hb; exact Nat.min_le_right _ _
    · exact Nat.le_trans (Nat.min_le_left _ _) (least_bound ps m b (by omega))
theorem least_found (ps : List (List Bool)) : ∀ m, 0 < m → ∃ b, b < m ∧ least ps m = cntB ps b
  | 0, h => by omega
  | m + 1, _ => by
    by_cases hm : m = 0
    · subst hm
      refine ⟨0, by omega, ?_⟩
      show min ps.length (cntB ps 0) = _
      have := cntB_le ps 0
      omega
    · obtain ⟨b, hb, e⟩ := least_found ps m (by omega)
      by_cases h : least ps m ≤ cntB ps m
      · exact ⟨b, by omega, by show min _ _ = _; omega⟩
      · exact ⟨m, by omega, by show min _ _ = _; omega⟩
/-- Was the least found among the first blocks? -/
def foundTo (ps : List (List Bool)) (o : Nat) : Nat → Bool
  | 0 => false
  | m + 1 => foundTo ps o m || decide (o = cntB ps m)
theorem foundTo_yes (ps : List (List Bool)) (o : Nat) : ∀ m b, b < m → o = cntB ps b → foundTo ps o m = true
  | 0, b, h, _ => by omega
  | m + 1, b, h, e => by
    show (foundTo ps o m || decide (o = cntB ps m)) = true
    by_cases hb : b = m
    · subst hb; rw [decide_eq_true e]; simp
    · rw [foundTo_yes ps o m b (by omega) e]; rfl
theorem foundTo_all (ps : List (List Bool)) (m : Nat) (h : 0 < m) : foundTo ps (least ps m) m = true := by
  obtain ⟨b, hb, e⟩ := least_found ps m h
  exact foundTo_yes ps _ m b hb e

/-- One more peer. -/
theorem cnt_more (ps : List (List Bool)) (z : List Bool) (b : Nat) : cntB ps b ≤ cntB (ps ++ [z]) b := by rw [cntB_append]; omega
theorem least_more (ps : List (List Bool)) (z : List Bool) : ∀ m, least ps m ≤ least (ps ++ [z]) m
  | 0 => by show ps.length ≤ (ps ++ [z]).length; rw [List.length_append]; omega
  | m + 1 => by
    show min (least ps m) (cntB ps m) ≤ min (least (ps ++ [z]) m) (cntB (ps ++ [z]) m)
    have := least_more ps z m
    have := cnt_more ps z m
    omega
theorem okP_more {ps : List (List Bool)} {z : List Bool} (h : okP ps = true) (hl : ps.length ≤ 5) (hz : z.length ≤ 16) : okP (ps ++ [z]) = true := by
  rw [okP_iff] at h ⊢
  refine ⟨by rw [List.length_append]; simp; omega, fun zs hm => ?_⟩
  rcases List.mem_append.1 hm with hm | hm
  · exact h.2 zs hm
  · rw [List.mem_singleton.1 hm]; exact hz

/-- Who has everything. -/
theorem orderN_all (ps : List (List Bool)) {mine : List Bool} (h : ∀ b, b < 16 → bth mine b = true) : orderN ps mine = [] := by
  by_cases hc : okP ps = true ∧ mine.length ≤ 16
  · refine List.eq_nil_iff_forall_not_mem.2 fun b hb => ?_
    have := ((orderN_has hc (orderN_lt hb)).1 hb).2
    rw [h b (orderN_lt hb)] at this
    cases this
  · exact orderN_no hc

/-- One more block is there. -/
theorem filter_one {l : List Nat} (hn : l.Nodup) {k : Nat} (hk : k < l.length) : l.filter (fun b => !decide (b = l[k])) = l.take k ++ l.drop (k + 1) := by
  have he : l = l.take k ++ l[k] :: l.drop (k + 1) := by
    rw [← List.drop_eq_getElem_cons hk, List.take_append_drop]
  have hn2 := hn
  rw [he] at hn2
  obtain ⟨h1, h2, h3⟩ := List.pairwise_append.1 hn2
  obtain ⟨h4, h5⟩ := List.pairwise_cons.1 h2
  obtain ⟨t, ht⟩ : ∃ t, l[k] = t := ⟨_, rfl⟩
  rw [ht] at he h3 h4 ⊢
  conv => lhs; rw [he]
  rw [List.filter_append, List.filter_cons_of_neg (by simp)]
  congr 1
  · rw [List.filter_eq_self]
    intro a ha
    have := h3 a ha t List.mem_cons_self
    simp [this]
  · rw [List.filter_eq_self]
    intro a ha
    have := h4 a ha
    simp [Ne.symm this]
theorem orderN_put {ps : List (List Bool)} {mine x : List Bool} {t : Nat} (hc : okP ps = true ∧ mine.length ≤ 16) (hx : x.length ≤ 16) (h : ∀ b, b < 16 → bth x b = (bth mine b || decide (b = t))) : orderN ps x = (orderN ps mine).filter (fun b => !decide (b = t)) := by
  rw [orderN_yes ⟨hc.1, hx⟩, orderN_yes hc, List.filter_map]
  congr 1
  unfold orderK orderTo
  rw [List.filter_filter]
  refine List.filter_congr fun k _ => ?_
  unfold ordP
  rw [h (k % 16) (by omega)]
  simp only [Function.comp_apply]
  cases decide (0 < k / 16) <;> cases decide (cntB ps (k % 16) = k / 16) <;> cases bth mine (k % 16) <;> cases decide (k % 16 = t) <;> rfl

/-- Peers the other way round. -/
theorem cntB_back (ps : List (List Bool)) (b : Nat) : cntB ps.reverse b = cntB ps b := cntB_perm (List.reverse_perm ps) b
theorem okP_back (ps : List (List Bool)) : okP ps.reverse = okP ps := by
  unfold okP smallP
  rw [List.length_reverse]
  simp only [List.mem_reverse]
theorem orderN_back (ps : List (List Bool)) (mine : List Bool) : orderN ps.reverse mine = orderN ps mine := by
  have e : orderK ps.reverse mine = orderK ps mine := by
    unfold orderK orderTo ordP
    rw [List.length_reverse]
    simp only [cntB_back]
  unfold orderN
  rw [okP_back, e]
theorem least_back (ps : List (List Bool)) : ∀ m, least ps.reverse m = least ps m
  | 0 => by show ps.reverse.length = ps.length; rw [List.length_reverse]
  | m + 1 => by show min _ _ = min _ _; rw [least_back ps m, cntB_back]
theorem wholeZ_back (ps : List (List Bool)) (l : Int) : wholeZ ps.reverse l = wholeZ ps l := by
  unfold wholeZ; rw [okP_back, least_back]

end Go.Proofs.Ytgjnhfciphiciaa
