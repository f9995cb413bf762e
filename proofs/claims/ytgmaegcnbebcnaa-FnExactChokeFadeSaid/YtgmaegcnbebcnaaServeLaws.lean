/- The mathematics of the laws of serving peers. No conditions. -/
import Derived.Test.YtgmaegcnbebcnaaServeMath
namespace Go.Proofs.Ytgmaegcnbebcnaa
open Go.RowKit
set_option linter.unusedVariables false

theorem deci_mine (l : List Int) : decide (l = l) = true := by simp
theorem sv_yes {gs : List Int} {t : Int} (h : okG gs = true ∧ okT t = true) : servedZ gs t = numZ (servedN gs t.toNat) := by unfold servedZ; rw [if_pos h]
theorem sv_no {gs : List Int} {t : Int} (h : ¬ (okG gs = true ∧ okT t = true)) : servedZ gs t = [] := by unfold servedZ; rw [if_neg h]
theorem servedZ_len (gs : List Int) (t : Int) : (servedZ gs t).length ≤ 4 := by
  by_cases h : okG gs = true ∧ okT t = true
  · rw [sv_yes h, numZ_length, served_length]; omega
  · rw [sv_no h]; simp
theorem servedZ_some {gs : List Int} {t : Int} (h : 0 < (servedZ gs t).length) : okG gs = true ∧ okT t = true := by
  by_cases hc : okG gs = true ∧ okT t = true
  · exact hc
  · rw [sv_no hc] at h; simp at h
theorem served_nat {gs : List Int} {t : Nat} (h : okG gs = true) (k : okT (t : Int) = true) : servedZ gs (t : Int) = numZ (servedN gs t) := by
  have := sv_yes ⟨h, k⟩; rwa [Int.toNat_natCast] at this
theorem turnI_nat {gs : List Int} {t : Nat} (h : okG gs = true) (k : okT (t : Int) = true) : turnI gs (t : Int) = turnZ gs t := by
  unfold turnI; rw [if_pos ⟨h, k⟩, Int.toNat_natCast]
theorem turnI_some {gs : List Int} {t : Int} (h : 0 ≤ turnI gs t) : okG gs = true ∧ okT t = true := by
  by_cases hc : okG gs = true ∧ okT t = true
  · exact hc
  · unfold turnI at h; rw [if_neg hc] at h; omega
theorem served_step {gs : List Int} {t k : Nat} (h : k + 1 < (servedN gs t).length) : nth (numZ (servedN gs t)) k < nth (numZ (servedN gs t)) (k + 1) := by
  rw [nth_num, nth_num, List.getD_eq_getElem?_getD, List.getD_eq_getElem?_getD, List.getElem?_eq_getElem (by omega), List.getElem?_eq_getElem h]
  have := List.pairwise_iff_getElem.1 (served_asc gs t) k (k + 1) (by omega) h (by omega)
  show ((_ : Nat) : Int) < ((_ : Nat) : Int)
  exact Int.ofNat_lt.2 this
/-- The k-th of those that are served. -/
theorem served_at {gs : List Int} {t k : Nat} (h : k < (servedN gs t).length) : ∃ x : Nat, nth (numZ (servedN gs t)) k = ((x : Nat) : Int) ∧ x < gs.length ∧ x ∈ servedN gs t := by
  refine ⟨(servedN gs t)[k], ?_, ?_, List.getElem_mem h⟩
  · rw [nth_num, List.getD_eq_getElem?_getD, List.getElem?_eq_getElem h]; rfl
  · exact (mem_servedN.1 (List.getElem_mem h)).1
theorem has_num (ks : List Nat) (b : Nat) : decide ((b : Int) ∈ numZ ks) = decide (b ∈ ks) := by rw [decide_eq_decide]; exact mem_num ks b

theorem ahead_lt {gs : List Int} {a b : Nat} (ha : a < gs.length) (hb : b < gs.length) (h : bef gs a b) : aheadN gs a < aheadN gs b := by
  have hma : a ∈ rankL gs := (rankL_perm gs).mem_iff.2 (List.mem_range.2 ha)
  have hmb : b ∈ rankL gs := (rankL_perm gs).mem_iff.2 (List.mem_range.2 hb)
  obtain ⟨i, hi, rfl⟩ := List.mem_iff_getElem.1 hma
  obtain ⟨j, hj, rfl⟩ := List.mem_iff_getElem.1 hmb
  rw [ahead_at hi, ahead_at hj]
  by_cases h1 : i < j
  · exact h1
  · by_cases h2 : i = j
    · subst h2; exact absurd h bef_irr
    · exact absurd h (bef_asymm (List.pairwise_iff_getElem.1 (rankL_sorted gs) j i hj hi (by omega)))

/-- How many of the first k other peers gave at least as much. -/
def geN (gs : List Int) (i k : Nat) : Nat := (List.range k).countP (fun j => decide (j ≠ i ∧ nth gs i ≤ nth gs j))
theorem geN_zero (gs : List Int) (i : Nat) : geN gs i 0 = 0 := rfl
theorem geN_yes {gs : List Int} {i k : Nat} (h1 : k ≠ i) (h2 : nth gs i ≤ nth gs k) : geN gs i (k + 1) = geN gs i k + 1 := by
  unfold geN
  rw [List.range_succ, List.countP_append, List.countP_cons_of_pos (by simp [h1, h2])]; rfl
theorem geN_no {gs : List Int} {i k : Nat} (h : ¬ (k ≠ i ∧ nth gs i ≤ nth gs k)) : geN gs i (k + 1) = geN gs i k := by
  unfold geN
  rw [List.range_succ, List.countP_append, List.countP_cons_of_neg (by rw [decide_eq_true_eq]; exact h)]; rfl
theorem geN_le (gs : List Int) (i k : Nat) : geN gs i k ≤ k := by
  unfold geN
  have := List.countP_le_length (p := fun j => decide (j ≠ i ∧ nth gs i ≤ nth gs j)) (l := List.range k)
  rwa [List.length_range] at this
theorem ahead_count (gs : List Int) (i : Nat) : aheadN gs i = (List.range gs.length).countP (fun k => befB gs k i) := by unfold aheadN; rw [List.countP_eq_length_filter]
theorem ahead_ge (gs : List Int) (i : Nat) : aheadN gs i ≤ geN gs i gs.length := by
  rw [ahead_count]
  unfold geN
  refine List.countP_mono_left fun j _ hj => ?_
  have hb := befB_iff.1 hj
  rw [decide_eq_true_eq]
  exact ⟨fun e => by subst e; exact bef_irr hb, bef_given hb⟩
theorem best_served {gs : List Int} {i : Nat} (t : Nat) (hi : i < gs.length) (h : geN gs i gs.length < 3) : i ∈ servedN gs t :=
  mem_servedN.2 ⟨hi, .inl (by have := ahead_ge gs i; omega)⟩

/-- How many of the first k peers gave something. -/
def posN (gs : List Int) (k : Nat) : Nat := (List.range k).countP (fun j => decide (0 < nth gs j))
theorem posN_zero (gs : List Int) : posN gs 0 = 0 := rfl
theorem posN_yes {gs : List Int} {k : Nat} (h : 0 < nth gs k) : posN gs (k + 1) = posN gs k + 1 := by
  unfold posN
  rw [List.range_succ, List.countP_append, List.countP_cons_of_pos (by simp [h])]; rfl
theorem posN_no {gs : List Int} {k : Nat} (h : ¬ 0 < nth gs k) : posN gs (k + 1) = posN gs k := by
  unfold posN
  rw [List.range_succ, List.countP_append, List.countP_cons_of_neg (by rw [decide_eq_true_eq]; exact h)]; rfl
theorem posN_le (gs : List Int) (k : Nat) : posN gs k ≤ k := by
  unfold posN
  have := List.countP_le_length (p := fun j => decide (0 < nth gs j)) (l := List.range k)
  rwa [List.length_range] at this
theorem free_turn {gs : List Int} {t x : Nat} (hp : 3 ≤ posN gs gs.length) (hx : nth gs x = 0) (hs : x ∈ servedN gs t) : turnZ gs t = (x : Int) := by
  have h := (mem_servedN.1 hs).2
  rcases h with h | h
  · exfalso
    have h3 : posN gs gs.length ≤ aheadN gs x := by
      rw [ahead_count]
      unfold posN
      refine List.countP_mono_left fun j _ hj => ?_
      rw [decide_eq_true_eq] at hj
      exact befB_iff.2 (.inl (by omega))
    omega
  · exact h.symm

theorem turn_range (gs : List Int) (t : Nat) : turnZ gs t = -1 ∨ ∃ q : Nat, turnZ gs t = (q : Int) ∧ q < gs.length ∧ 3 ≤ aheadN gs q := by
  by_cases h : gs.length ≤ 3
  · exact .inl (turn_none h t)
  · obtain ⟨q, h1, _, h2⟩ := turn_some (gs := gs) (by omega) t
    exact .inr ⟨q, h1, mem_restN.1 h2⟩
theorem turn_in {gs : List Int} {t : Nat} (h : 3 < gs.length) : ∃ q : Nat, turnZ gs t = (q : Int) ∧ q ∈ servedN gs t := by
  obtain ⟨q, h1, _, h2⟩ := turn_some h t
  exact ⟨q, h1, mem_servedN.2 ⟨(mem_restN.1 h2).1, .inr h1.symm⟩⟩
/-- Who is served for what it gave gave at least as much as who is not served. -/
theorem served_most {gs : List Int} {t i x : Nat} (hi : i < gs.length) (hn : i ∉ servedN gs t) (hx : x ∈ servedN gs t) (ht : ¬ (x : Int) = turnZ gs t) : ¬ nth gs x < nth gs i := by
  intro hlt
  have h := mem_servedN.1 hx
  have h3 : aheadN gs x < 3 := h.2.resolve_right ht
  have hb : bef gs i x := .inl hlt
  have := ahead_lt hi h.1 hb
  exact hn (mem_servedN.2 ⟨hi, .inl (by omega)⟩)
theorem turn_again {gs : List Int} (t : Nat) (h : 3 < gs.length) : turnZ gs (t + (gs.length - 3)) = turnZ gs t := by
  unfold turnZ
  rw [rest_length, Nat.add_mod_right]
theorem served_again {gs : List Int} (t : Nat) (h : 3 < gs.length) : servedN gs (t + (gs.length - 3)) = servedN gs t := by
  unfold servedN
  rw [turn_again t h]
/-- Every peer is served in one of as many turns as there are peers. -/
theorem served_all {gs : List Int} {i : Nat} (t : Nat) (hi : i < gs.length) : ∃ j, j < gs.length ∧ i ∈ servedN gs (t + j) := by
  by_cases h3 : aheadN gs i < 3
  · exact ⟨0, by omega, mem_servedN.2 ⟨hi, .inl h3⟩⟩
  · have hr : i ∈ restN gs := mem_restN.2 ⟨hi, by omega⟩
    obtain ⟨p, hp, hpi⟩ := List.mem_iff_getElem.1 hr
    have hl := rest_length gs
    obtain ⟨m, hm⟩ : ∃ m, gs.length - 3 = m := ⟨_, rfl⟩
    have hm0 : 0 < m := by omega
    have h3n : 3 < gs.length := by omega
    refine ⟨(p + m - t % m) % m, Nat.lt_of_lt_of_le (Nat.mod_lt _ hm0) (by omega), mem_servedN.2 ⟨hi, .inr ?_⟩⟩
    unfold turnZ
    rw [if_neg (rest_some h3n), hl, hm]
    have hlt : t % m < m := Nat.mod_lt _ hm0
    have hmod : (t + (p + m - t % m) % m) % m = p := by
      rw [Nat.add_mod_mod]
      have e : t + (p + m - t % m) = p + m + m * (t / m) := by have := Nat.div_add_mod t m; omega
      rw [e, Nat.add_mul_mod_self_left, Nat.add_mod_right]
      exact Nat.mod_eq_of_lt (by omega)
    rw [hmod, List.getD_eq_getElem?_getD, List.getElem?_eq_getElem hp, hpi]
    rfl
/-- Whether peer i is served in one of k turns. -/
def foundB (gs : List Int) (t i k : Nat) : Bool := (List.range k).any (fun j => decide (i ∈ servedN gs (t + j)))
theorem found_zero (gs : List Int) (t i : Nat) : foundB gs t i 0 = false := rfl
theorem found_step (gs : List Int) (t i k : Nat) : foundB gs t i (k + 1) = (foundB gs t i k || decide (i ∈ servedN gs (t + k))) := by
  unfold foundB; rw [List.range_succ, List.any_append]; simp
theorem found_all {gs : List Int} {t i : Nat} (hi : i < gs.length) : foundB gs t i gs.length = true := by
  obtain ⟨j, hj, hs⟩ := served_all t hi
  unfold foundB
  rw [List.any_eq_true]
  exact ⟨j, List.mem_range.2 hj, decide_eq_true hs⟩

theorem nth_set' (zs : List Int) (k j : Nat) (x : Int) (hk : k < zs.length) : nth (zs.set k x) j = if j = k then x else nth zs j := by
  unfold nth
  rw [List.getD_eq_getElem?_getD, List.getD_eq_getElem?_getD, List.getElem?_set]
  by_cases e : j = k
  · subst e; rw [if_pos rfl, if_pos rfl, if_pos hk]; rfl
  · rw [if_neg (Ne.symm e), if_neg e]
theorem give_ok {gs : List Int} {p : Nat} (h : okG gs = true) (hp : p < gs.length) (hx : nth gs p ≠ 99) : okG (gs.set p (nth gs p + 1)) = true := by
  have h0 := okG_iff.1 h
  have hb := okG_nth h p
  refine okG_iff.2 ⟨by rw [List.length_set]; exact h0.1, fun x hx => ?_⟩
  rcases List.mem_or_eq_of_mem_set hx with e | e
  · exact h0.2 x e
  · omega
theorem give_ahead {gs : List Int} {p : Nat} (hp : p < gs.length) : aheadN (gs.set p (nth gs p + 1)) p ≤ aheadN gs p := by
  rw [ahead_count, ahead_count, List.length_set]
  refine List.countP_mono_left fun j _ hj => ?_
  have hb := befB_iff.1 hj
  refine befB_iff.2 ?_
  by_cases e : j = p
  · subst e; exact absurd hb bef_irr
  · unfold bef at hb ⊢
    rw [nth_set' gs p p _ hp, nth_set' gs p j _ hp, if_pos rfl, if_neg e] at hb
    omega
/-- Who is served for what it gave is so when it gives more. -/
theorem give_best {gs : List Int} {t p : Nat} (hp : p < gs.length) (hs : p ∈ servedN gs t) (ht : ¬ turnZ gs t = (p : Int)) : p ∈ servedN (gs.set p (nth gs p + 1)) t ∧ ¬ turnZ (gs.set p (nth gs p + 1)) t = (p : Int) := by
  have h3 : aheadN gs p < 3 := (mem_servedN.1 hs).2.resolve_right fun e => ht e.symm
  have h4 := give_ahead hp
  refine ⟨mem_servedN.2 ⟨by rw [List.length_set]; exact hp, .inl (by omega)⟩, fun e => ?_⟩
  rcases turn_range (gs.set p (nth gs p + 1)) t with h | ⟨q, h, _, h5⟩
  · omega
  · have : q = p := by omega
    subst this
    omega

/-- How much is left at most when halved so often. -/
def leftN : Nat → Int
  | 0 => 49 | 1 => 24 | 2 => 12 | 3 => 6 | 4 => 3 | 5 => 1 | _ => 0
theorem left_step {k : Nat} {x : Int} (h : x ≤ leftN k) (h0 : 0 ≤ x) : x / 2 ≤ leftN (k + 1) := by
  match k with
  | 0 => simp only [leftN] at *; omega
  | 1 => simp only [leftN] at *; omega
  | 2 => simp only [leftN] at *; omega
  | 3 => simp only [leftN] at *; omega
  | 4 => simp only [leftN] at *; omega
  | 5 => simp only [leftN] at *; omega
  | k + 6 => simp only [leftN] at *; omega
theorem left_49 (k : Nat) : leftN k ≤ 49 := by
  match k with
  | 0 => simp [leftN]
  | 1 => simp [leftN]
  | 2 => simp [leftN]
  | 3 => simp [leftN]
  | 4 => simp [leftN]
  | 5 => simp [leftN]
  | k + 6 => simp [leftN]
theorem nth_half (gs : List Int) (k : Nat) : nth (gs.map (· / 2)) k = nth gs k / 2 := by
  unfold nth
  rw [List.getD_eq_getElem?_getD, List.getD_eq_getElem?_getD, List.getElem?_map]
  cases gs[k]? <;> rfl
theorem okG_of {gs : List Int} (hl : gs.length ≤ 6) (h : ∀ k, k < gs.length → 0 ≤ nth gs k ∧ nth gs k ≤ 99) : okG gs = true := by
  refine okG_iff.2 ⟨hl, fun x hx => ?_⟩
  obtain ⟨j, hj, rfl⟩ := List.mem_iff_getElem.1 hx
  have := h j hj
  unfold nth at this
  rwa [List.getD_eq_getElem?_getD, List.getElem?_eq_getElem hj] at this
theorem fade_yes {gs : List Int} (h : okG gs = true) : fadeZ gs = gs.map (· / 2) := by unfold fadeZ; rw [h]; rfl
theorem fade_some {gs : List Int} (h : 0 < (fadeZ gs).length) : okG gs = true := by
  cases e : okG gs with
  | true => rfl
  | false => unfold fadeZ at h; rw [e] at h; simp at h
theorem fade_len {gs : List Int} : (fadeZ gs).length ≤ gs.length := by
  unfold fadeZ; split
  · rw [List.length_map]; exact Nat.le_refl _
  · simp
theorem give_len (gs : List Int) (p : Int) : (giveZ gs p).length ≤ gs.length := by
  unfold giveZ
  split
  · split
    · exact Nat.le_refl _
    · rw [List.length_set]; exact Nat.le_refl _
  · simp

end Go.Proofs.Ytgmaegcnbebcnaa
