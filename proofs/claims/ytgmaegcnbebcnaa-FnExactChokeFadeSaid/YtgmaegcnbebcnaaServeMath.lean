/- The mathematics of serving peers: ranks by what peers gave, the best, the others in ascending order, the one by turns. No conditions. -/
import Derived.Test.YtgmaegcnbebcnaaBaseA
namespace Go.Proofs.Ytgmaegcnbebcnaa
open Go.RowKit
set_option linter.unusedVariables false

def numZ (ks : List Nat) : List Int := ks.map (fun (k : Nat) => (k : Int))
theorem numZ_length (ks : List Nat) : (numZ ks).length = ks.length := List.length_map _
theorem numZ_append (a b : List Nat) : numZ (a ++ b) = numZ a ++ numZ b := List.map_append
theorem nth_num (ks : List Nat) (k : Nat) : nth (numZ ks) k = ((ks.getD k 0 : Nat) : Int) := by
  unfold nth numZ
  rw [List.getD_eq_getElem?_getD, List.getD_eq_getElem?_getD, List.getElem?_map]
  cases ks[k]? <;> rfl
theorem mem_num (ks : List Nat) (b : Nat) : (b : Int) ∈ numZ ks ↔ b ∈ ks := by
  unfold numZ
  rw [List.mem_map]
  constructor
  · rintro ⟨k, hk, e⟩
    have : k = b := by omega
    exact this ▸ hk
  · exact fun h => ⟨b, h, rfl⟩

/-- Peer a is better than peer b. -/
def bef (gs : List Int) (a b : Nat) : Prop := nth gs b < nth gs a ∨ (nth gs a = nth gs b ∧ a < b)
def befB (gs : List Int) (a b : Nat) : Bool := decide (nth gs b < nth gs a ∨ (nth gs a = nth gs b ∧ a < b))
section
variable {gs : List Int} {a b c : Nat}
theorem befB_iff : befB gs a b = true ↔ bef gs a b := by unfold befB bef; simp
theorem befB_no : befB gs a b = false ↔ ¬ bef gs a b := by unfold befB bef; simp
theorem bef_irr : ¬ bef gs a a := by unfold bef; omega
theorem bef_trans (h : bef gs a b) (k : bef gs b c) : bef gs a c := by unfold bef at *; omega
theorem bef_asymm (h : bef gs a b) : ¬ bef gs b a := by unfold bef at *; omega
theorem bef_or (gs : List Int) (h : a ≠ b) : bef gs a b ∨ bef gs b a := by unfold bef; omega
theorem bef_given (h : bef gs a b) : nth gs b ≤ nth gs a := by unfold bef at h; omega
end

/-- The peers, the best first. -/
def rankL (gs : List Int) : List Nat := (List.range gs.length).mergeSort (fun a b => !befB gs b a)
theorem rankL_perm (gs : List Int) : (rankL gs).Perm (List.range gs.length) := List.mergeSort_perm _ _
theorem rankL_length (gs : List Int) : (rankL gs).length = gs.length := by rw [(rankL_perm gs).length_eq, List.length_range]
theorem rankL_nodup (gs : List Int) : (rankL gs).Nodup := (rankL_perm gs).nodup_iff.2 List.nodup_range
theorem rankL_sorted (gs : List Int) : (rankL gs).Pairwise (bef gs) := by
  have h1 : (rankL gs).Pairwise (fun a b => (!befB gs b a) = true) := by
    refine List.pairwise_mergeSort ?_ ?_ _
    · intro a b c h k
      rw [Bool.not_eq_true', befB_no] at h k ⊢
      unfold bef at *; omega
    · intro a b
      rw [Bool.or_eq_true, Bool.not_eq_true', Bool.not_eq_true', befB_no, befB_no]
      unfold bef; omega
  refine (h1.and (rankL_nodup gs)).imp ?_
  rintro a b ⟨h, hne⟩
  rw [Bool.not_eq_true', befB_no] at h
  exact (bef_or gs hne).resolve_right h
theorem rank_unique {gs : List Int} {R : List Nat} (hp : R.Perm (List.range gs.length)) (hs : R.Pairwise (bef gs)) : R = rankL gs :=
  List.Perm.eq_of_pairwise (le := bef gs) (fun a b _ _ h1 h2 => absurd h2 (bef_asymm h1)) hs (rankL_sorted gs) (hp.trans (rankL_perm gs).symm)
theorem rank_lt {gs : List Int} {x : Nat} (h : x ∈ rankL gs) : x < gs.length := List.mem_range.1 ((rankL_perm gs).mem_iff.1 h)

/-- How many peers are better than peer i. -/
def aheadN (gs : List Int) (i : Nat) : Nat := ((List.range gs.length).filter (fun k => befB gs k i)).length
theorem filter_bef {gs : List Int} : ∀ (R : List Nat), R.Pairwise (bef gs) → ∀ i (hi : i < R.length), (R.filter (fun k => befB gs k R[i])).length = i
  | [], _, i, hi => by simp at hi
  | a :: R, h, 0, hi => by
    have h1 := (List.pairwise_cons.1 h).1
    simp only [List.getElem_cons_zero]
    have : (a :: R).filter (fun k => befB gs k a) = [] := by
      rw [List.filter_eq_nil_iff]
      intro x hx hb
      have hb := befB_iff.1 hb
      rcases List.mem_cons.1 hx with rfl | hx
      · exact bef_irr hb
      · exact bef_asymm (h1 x hx) hb
    rw [this]; rfl
  | a :: R, h, i + 1, hi => by
    have h1 := List.pairwise_cons.1 h
    have hi' : i < R.length := by simpa using hi
    simp only [List.getElem_cons_succ]
    have hp : (fun k => befB gs k R[i]) a = true := befB_iff.2 (h1.1 _ (List.getElem_mem hi'))
    rw [List.filter_cons_of_pos (p := fun k => befB gs k R[i]) hp, List.length_cons, filter_bef R h1.2 i hi']
theorem ahead_at {gs : List Int} {i : Nat} (hi : i < (rankL gs).length) : aheadN gs (rankL gs)[i] = i := by
  unfold aheadN
  rw [((rankL_perm gs).symm.filter (fun k => befB gs k (rankL gs)[i])).length_eq]
  exact filter_bef _ (rankL_sorted gs) i hi
theorem mem_best {gs : List Int} {k x : Nat} : x ∈ (rankL gs).take k ↔ x < gs.length ∧ aheadN gs x < k := by
  constructor
  · intro h
    obtain ⟨i, hi, rfl⟩ := List.mem_iff_getElem.1 h
    rw [List.length_take] at hi
    rw [List.getElem_take, ahead_at]
    exact ⟨rank_lt (List.getElem_mem _), by omega⟩
  · rintro ⟨h1, h2⟩
    have hm : x ∈ rankL gs := (rankL_perm gs).mem_iff.2 (List.mem_range.2 h1)
    obtain ⟨i, hi, rfl⟩ := List.mem_iff_getElem.1 hm
    rw [ahead_at] at h2
    rw [List.mem_iff_getElem]
    exact ⟨i, by rw [List.length_take]; omega, List.getElem_take⟩
theorem mem_late {gs : List Int} {k x : Nat} : x ∈ (rankL gs).drop k ↔ x < gs.length ∧ k ≤ aheadN gs x := by
  constructor
  · intro h
    obtain ⟨i, hi, rfl⟩ := List.mem_iff_getElem.1 h
    rw [List.length_drop] at hi
    rw [List.getElem_drop, ahead_at]
    exact ⟨rank_lt (List.getElem_mem _), by omega⟩
  · rintro ⟨h1, h2⟩
    have hm : x ∈ rankL gs := (rankL_perm gs).mem_iff.2 (List.mem_range.2 h1)
    obtain ⟨i, hi, rfl⟩ := List.mem_iff_getElem.1 hm
    rw [ahead_at] at h2
    rw [List.mem_iff_getElem]
    exact ⟨i - k, by rw [List.length_drop]; omega, by rw [List.getElem_drop]; exact getElem_congr_idx (by omega)⟩

/-- The best peers, the others. -/
def bestN (gs : List Int) : List Nat := (rankL gs).take 3
def restN (gs : List Int) : List Nat := (List.range gs.length).filter (fun i => decide (3 ≤ aheadN gs i))
theorem mem_bestN {gs : List Int} {x : Nat} : x ∈ bestN gs ↔ x < gs.length ∧ aheadN gs x < 3 := mem_best
theorem mem_restN {gs : List Int} {x : Nat} : x ∈ restN gs ↔ x < gs.length ∧ 3 ≤ aheadN gs x := by
  unfold restN; rw [List.mem_filter, List.mem_range, decide_eq_true_eq]
theorem rest_asc (gs : List Int) : (restN gs).Pairwise (· < ·) := List.pairwise_lt_range.filter _
theorem rest_nodup (gs : List Int) : (restN gs).Nodup := List.nodup_range.filter _
theorem best_nodup (gs : List Int) : (bestN gs).Nodup := (rankL_nodup gs).sublist (List.take_sublist _ _)
theorem best_length (gs : List Int) : (bestN gs).length = min 3 gs.length := by unfold bestN; rw [List.length_take, rankL_length]
theorem rest_perm (gs : List Int) : ((rankL gs).drop 3).Perm (restN gs) :=
  (List.perm_ext_iff_of_nodup ((rankL_nodup gs).sublist (List.drop_sublist _ _)) (rest_nodup gs)).2 fun x => by rw [mem_late, mem_restN]
theorem rest_length (gs : List Int) : (restN gs).length = gs.length - 3 := by rw [← (rest_perm gs).length_eq, List.length_drop, rankL_length]
theorem sort_num {l m : List Nat} (hp : l.Perm m) (hm : m.Pairwise (· < ·)) : (numZ l).mergeSort (fun x y => decide (x ≤ y)) = numZ m := by
  refine List.Perm.eq_of_pairwise (le := fun (a b : Int) => a ≤ b) (fun a b _ _ h1 h2 => by omega) ?_ ?_ ((List.mergeSort_perm _ _).trans (hp.map _))
  · have h := List.pairwise_mergeSort (le := fun (x y : Int) => decide (x ≤ y)) (fun a b c h k => by rw [decide_eq_true_eq] at *; omega) (fun a b => by rw [Bool.or_eq_true, decide_eq_true_eq, decide_eq_true_eq]; omega) (numZ l)
    exact h.imp fun h => by rwa [decide_eq_true_eq] at h
  · unfold numZ; rw [List.pairwise_map]; exact hm.imp fun h => by omega

/-- The peer that is served by turns; those that are served, ascending. -/
def turnZ (gs : List Int) (t : Nat) : Int := if restN gs = [] then -1 else (((restN gs).getD (t % (restN gs).length) 0 : Nat) : Int)
def servedN (gs : List Int) (t : Nat) : List Nat := (List.range gs.length).filter (fun i => decide (aheadN gs i < 3 ∨ (i : Int) = turnZ gs t))
theorem mem_servedN {gs : List Int} {t x : Nat} : x ∈ servedN gs t ↔ x < gs.length ∧ (aheadN gs x < 3 ∨ (x : Int) = turnZ gs t) := by
  unfold servedN; rw [List.mem_filter, List.mem_range, decide_eq_true_eq]
theorem served_asc (gs : List Int) (t : Nat) : (servedN gs t).Pairwise (· < ·) := List.pairwise_lt_range.filter _
theorem served_nodup (gs : List Int) (t : Nat) : (servedN gs t).Nodup := List.nodup_range.filter _
theorem rest_none {gs : List Int} (h : gs.length ≤ 3) : restN gs = [] := List.eq_nil_of_length_eq_zero (by rw [rest_length]; omega)
theorem rest_some {gs : List Int} (h : 3 < gs.length) : restN gs ≠ [] := fun e => by
  have := rest_length gs; rw [e] at this; simp at this; omega
theorem turn_none {gs : List Int} (h : gs.length ≤ 3) (t : Nat) : turnZ gs t = -1 := by unfold turnZ; rw [if_pos (rest_none h)]
theorem turn_some {gs : List Int} (h : 3 < gs.length) (t : Nat) : ∃ q, turnZ gs t = ((q : Nat) : Int) ∧ q = (restN gs).getD (t % (gs.length - 3)) 0 ∧ q ∈ restN gs := by
  refine ⟨_, by unfold turnZ; rw [if_neg (rest_some h), rest_length], rfl, ?_⟩
  have hl : t % (gs.length - 3) < (restN gs).length := by rw [rest_length]; exact Nat.mod_lt _ (by omega)
  rw [List.getD_eq_getElem?_getD, List.getElem?_eq_getElem hl]
  exact List.getElem_mem hl
theorem served_none {gs : List Int} (h : gs.length ≤ 3) (t : Nat) : (bestN gs).Perm (servedN gs t) :=
  (List.perm_ext_iff_of_nodup (best_nodup gs) (served_nodup gs t)).2 fun x => by
    rw [mem_bestN, mem_servedN, turn_none h]
    constructor
    · exact fun h => ⟨h.1, .inl h.2⟩
    · rintro ⟨h1, h2 | h2⟩
      · exact ⟨h1, h2⟩
      · omega
theorem served_some {gs : List Int} {t q : Nat} (h : turnZ gs t = ((q : Nat) : Int)) (hq : q ∈ restN gs) : (bestN gs ++ [q]).Perm (servedN gs t) := by
  have hr := mem_restN.1 hq
  refine (List.perm_ext_iff_of_nodup ?_ (served_nodup gs t)).2 fun x => ?_
  · rw [List.nodup_append]
    refine ⟨best_nodup gs, List.nodup_cons.2 ⟨by simp, List.nodup_nil⟩, ?_⟩
    intro a ha b hb
    rw [List.mem_singleton] at hb
    subst hb
    intro e
    subst e
    have := (mem_bestN.1 ha).2
    omega
  · rw [List.mem_append, mem_bestN, mem_servedN, List.mem_singleton, h]
    constructor
    · rintro (h | rfl)
      · exact ⟨h.1, .inl h.2⟩
      · exact ⟨hr.1, .inr rfl⟩
    · rintro ⟨h1, h2 | h2⟩
      · exact .inl ⟨h1, h2⟩
      · exact .inr (by omega)
theorem served_length (gs : List Int) (t : Nat) : (servedN gs t).length = min gs.length 4 := by
  by_cases h : gs.length ≤ 3
  · rw [← (served_none h t).length_eq, best_length]; omega
  · obtain ⟨q, h1, _, h2⟩ := turn_some (gs := gs) (by omega) t
    rw [← (served_some h1 h2).length_eq, List.length_append, best_length, List.length_singleton]; omega

def okG (gs : List Int) : Bool := decide (gs.length ≤ 6) && gs.all (fun x => decide (0 ≤ x) && decide (x ≤ 99))
def okT (t : Int) : Bool := decide (0 ≤ t) && decide (t ≤ 999)
theorem okG_iff {gs : List Int} : okG gs = true ↔ gs.length ≤ 6 ∧ ∀ x ∈ gs, 0 ≤ x ∧ x ≤ 99 := by
  unfold okG
  rw [Bool.and_eq_true, decide_eq_true_eq, List.all_eq_true]
  simp only [Bool.and_eq_true, decide_eq_true_eq]
theorem okT_iff {t : Int} : okT t = true ↔ 0 ≤ t ∧ t ≤ 999 := by unfold okT; rw [Bool.and_eq_true, decide_eq_true_eq, decide_eq_true_eq]
theorem okG_nth {gs : List Int} (h : okG gs = true) (k : Nat) : 0 ≤ nth gs k ∧ nth gs k ≤ 99 := by
  unfold nth
  rw [List.getD_eq_getElem?_getD]
  by_cases hk : k < gs.length
  · rw [List.getElem?_eq_getElem hk]; exact (okG_iff.1 h).2 _ (List.getElem_mem hk)
  · rw [List.getElem?_eq_none (by omega)]; exact ⟨by decide, by decide⟩
def servedZ (gs : List Int) (t : Int) : List Int := if okG gs = true ∧ okT t = true then numZ (servedN gs t.toNat) else []
def turnI (gs : List Int) (t : Int) : Int := if okG gs = true ∧ okT t = true then turnZ gs t.toNat else -1
def peerB (gs : List Int) (p : Int) : Bool := decide (0 ≤ p) && decide (p < (gs.length : Int))
def giveZ (gs : List Int) (p : Int) : List Int := if okG gs = true ∧ peerB gs p = true then (if nth gs p.toNat = 99 then gs else gs.set p.toNat (nth gs p.toNat + 1)) else []
def giveB (gs : List Int) (p : Int) : Bool := okG gs && (peerB gs p && !decide (nth gs p.toNat = 99))
def fadeZ (gs : List Int) : List Int := if okG gs = true then gs.map (· / 2) else []

end Go.Proofs.Ytgmaegcnbebcnaa
