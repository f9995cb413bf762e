/- A directory as an array of times, one for each node that there can be: as data, in memory, and how listing, sweeping and putting read there. No conditions. -/
import Derived.Test.YtjefkpjjdloodaaSDir3
import Derived.Deep.WholeRow
namespace Go.Proofs.Ytjefkpjjdloodaa
open Go.RowKit
set_option linter.unusedVariables false

/-! ### the array -/
def arrD (f : Nat → Int) : Array Value := ((List.range 100).map (fun i => Value.int .i64 (f i))).toArray
theorem arrD_size (f : Nat → Int) : (arrD f).size = 100 := by
  unfold arrD; rw [List.size_toArray, List.length_map, List.length_range]
theorem arrD_get (f : Nat → Int) (i : Nat) (h : i < 100) : (arrD f)[i]? = some (.int .i64 (f i)) := by
  unfold arrD; rw [List.getElem?_toArray, List.getElem?_map, List.getElem?_range h]; rfl
def updF (f : Nat → Int) (i : Nat) (v : Int) : Nat → Int := fun j => if j = i then v else f j
theorem arrD_ext {f g : Nat → Int} (h : ∀ i, i < 100 → f i = g i) : arrD f = arrD g := by
  unfold arrD
  congr 1
  exact List.map_congr_left fun i hi => by rw [h i (List.mem_range.1 hi)]
theorem arrD_set (f : Nat → Int) (i : Nat) (v : Int) : (arrD f).setIfInBounds i (.int .i64 v) = arrD (updF f i v) := by
  apply Array.ext_getElem?
  intro j
  rw [Array.getElem?_setIfInBounds, arrD_size]
  by_cases hj : j < 100
  · have e1 : (arrD (updF f i v))[j]? = some (.int .i64 (if j = i then v else f j)) := arrD_get _ j hj
    rw [e1]
    by_cases hi : i = j
    · subst hi; rw [if_pos rfl, if_pos hj, if_pos rfl]
    · rw [if_neg hi, if_neg (fun e => hi e.symm), arrD_get f j hj]
  · have h1 : (arrD f)[j]? = none := Array.getElem?_eq_none (by rw [arrD_size]; omega)
    have h2 : (arrD (updF f i v))[j]? = none := Array.getElem?_eq_none (by rw [arrD_size]; omega)
    rw [h1, h2]
    split
    · rename_i e; subst e; rw [if_neg hj]
    · rfl
theorem arrD_one (f : Nat → Int) : (arrD f).all (·.oneCell') = true := by
  rw [Array.all_eq_true_iff_forall_mem]
  intro v hv
  unfold arrD at hv
  rw [List.mem_toArray, List.mem_map] at hv
  obtain ⟨i, _, rfl⟩ := hv
  rfl
theorem arrD_zero : Array.replicate 100 (Value.int .i64 0) = arrD (fun _ => 0) := by
  apply Array.ext_getElem?
  intro j
  by_cases hj : j < 100
  · rw [arrD_get _ j hj, Array.getElem?_replicate, if_pos hj]
  · rw [Array.getElem?_eq_none (xs := Array.replicate 100 (Value.int .i64 0)) (by rw [Array.size_replicate]; omega), Array.getElem?_eq_none (by rw [arrD_size]; omega)]
/-- What marking every node as not listed has done behind k rounds. -/
def fillF (k i : Nat) : Int := if i < k then -1 else 0
theorem fillF_zero : arrD (fillF 0) = arrD (fun _ => 0) := arrD_ext fun i _ => by unfold fillF; rw [if_neg (Nat.not_lt_zero _)]
theorem fillF_succ (k : Nat) : (arrD (fillF k)).setIfInBounds k (.int .i64 (-1)) = arrD (fillF (k + 1)) := by
  rw [arrD_set]
  refine arrD_ext fun i _ => ?_
  unfold updF fillF
  by_cases e : i = k
  · rw [if_pos e, if_pos (show i < k + 1 by omega)]
  · rw [if_neg e]
    by_cases e2 : i < k
    · rw [if_pos e2, if_pos (show i < k + 1 by omega)]
    · rw [if_neg e2, if_neg (show ¬ i < k + 1 by omega)]
theorem fillF_all : arrD (fillF 100) = arrD (fun _ => -1) := arrD_ext fun i h => by unfold fillF; rw [if_pos h]
/-- The times of a list of nodes. -/
def tmF (xs : List LD) (i : Nat) : Int := timeB xs (i : Int)
abbrev arrT (xs : List LD) : Array Value := arrD (tmF xs)

/-! ### what is listed -/
def oneF (f : Nat → Int) (i : Nat) : List LD := if f i = -1 then [] else [⟨(i : Int), f i⟩]
def listK (f : Nat → Int) : Nat → List LD
  | 0 => []
  | k + 1 => listK f k ++ oneF f k
theorem listK_mem {f : Nat → Int} {x : LD} (k : Nat) : x ∈ listK f k ↔ ∃ i, i < k ∧ f i ≠ -1 ∧ x = ⟨(i : Int), f i⟩ := by
  induction k with
  | zero =>
    constructor
    · intro h; cases h
    · rintro ⟨i, h, _⟩; exact absurd h (Nat.not_lt_zero _)
  | succ k ih =>
    show x ∈ listK f k ++ oneF f k ↔ _
    rw [List.mem_append, ih]
    unfold oneF
    constructor
    · rintro (⟨i, h, h1, h2⟩ | h)
      · exact ⟨i, by omega, h1, h2⟩
      · split at h
        · cases h
        · rename_i hk
          exact ⟨k, by omega, hk, List.mem_singleton.1 h⟩
    · rintro ⟨i, h, h1, h2⟩
      rcases Nat.lt_or_ge i k with hi | hi
      · exact .inl ⟨i, hi, h1, h2⟩
      · have : i = k := by omega
        subst this
        right
        rw [if_neg h1]
        exact List.mem_singleton.2 h2
theorem listK_asc (f : Nat → Int) (k : Nat) : (listK f k).Pairwise (fun a b => a.n < b.n) := by
  induction k with
  | zero => exact .nil
  | succ k ih =>
    show (listK f k ++ oneF f k).Pairwise _
    rw [List.pairwise_append]
    refine ⟨ih, ?_, fun a ha b hb => ?_⟩
    · unfold oneF; split
      · exact .nil
      · exact List.pairwise_singleton _ _
    · obtain ⟨i, hi, _, rfl⟩ := (listK_mem k).1 ha
      unfold oneF at hb
      split at hb
      · cases hb
      · rw [List.mem_singleton] at hb
        subst hb
        show (i : Int) < (k : Int)
        omega
theorem listK_length (f : Nat → Int) (k : Nat) : (listK f k).length ≤ k := by
  induction k with
  | zero => exact Nat.le_refl _
  | succ k ih =>
    show (listK f k ++ oneF f k).length ≤ _
    rw [List.length_append]
    have : (oneF f k).length ≤ 1 := by unfold oneF; split <;> simp
    omega
/-- Two ascending lists with the same members are the same. -/
theorem asc_ext {xs ys : List LD} (hx : xs.Pairwise (fun a b => a.n < b.n)) (hy : ys.Pairwise (fun a b => a.n < b.n)) (h : ∀ x, x ∈ xs ↔ x ∈ ys) : xs = ys := by
  induction xs generalizing ys with
  | nil =>
    cases ys with
    | nil => rfl
    | cons y ys => exact absurd ((h y).2 List.mem_cons_self) (by simp)
  | cons x xs ih =>
    cases ys with
    | nil => exact absurd ((h x).1 List.mem_cons_self) (by simp)
    | cons y ys =>
      rw [List.pairwise_cons] at hx hy
      have hxy : x = y := by
        have h1 := (h x).1 List.mem_cons_self
        have h2 := (h y).2 List.mem_cons_self
        rcases List.mem_cons.1 h1 with e | h1
        · exact e
        · rcases List.mem_cons.1 h2 with e | h2
          · exact e.symm
          · have a := hy.1 x h1
            have b := hx.1 y h2
            omega
      subst hxy
      rw [ih hx.2 hy.2 fun z => ?_]
      constructor
      · intro hz
        rcases List.mem_cons.1 ((h z).1 (List.mem_cons_of_mem _ hz)) with e | hz'
        · subst e; have := hx.1 z hz; omega
        · exact hz'
      · intro hz
        rcases List.mem_cons.1 ((h z).2 (List.mem_cons_of_mem _ hz)) with e | hz'
        · subst e; have := hy.1 z hz; omega
        · exact hz'

/-! ### times of lists -/
theorem time_case {xs : List LD} (h : DirP xs) (v : Int) : (∃ x, x ∈ xs ∧ x.n = v ∧ timeB xs v = x.t ∧ 0 ≤ x.t ∧ x.t ≤ 999 ∧ 0 ≤ v ∧ v ≤ 99) ∨ ((∀ x ∈ xs, x.n ≠ v) ∧ timeB xs v = -1) := by
  cases k : hasN xs v with
  | true =>
    obtain ⟨x, hx, rfl⟩ := (hasN_iff xs v).1 k
    have := h.ok x hx
    exact .inl ⟨x, hx, rfl, timeB_mem h hx, this.2.1, this.2.2, this.1.1, this.1.2⟩
  | false => exact .inr ⟨not_has k, timeB_no (not_has k)⟩
theorem time_ge {xs : List LD} (h : DirP xs) (v : Int) : -1 ≤ timeB xs v ∧ timeB xs v ≤ 999 := by
  rcases time_case h v with ⟨x, _, _, e, h1, h2, _⟩ | ⟨_, e⟩ <;> rw [e] <;> omega
/-- A directory is what its array lists. -/
theorem list_of_dir {xs : List LD} (h : DirP xs) : listK (tmF xs) 100 = xs := by
  refine asc_ext (listK_asc _ _) h.asc fun x => ?_
  rw [listK_mem]
  constructor
  · rintro ⟨i, hi, h1, rfl⟩
    unfold tmF at h1 ⊢
    rcases time_case h (i : Int) with ⟨x, hx, e, e2, _⟩ | ⟨_, e⟩
    · have : x = ⟨(i : Int), timeB xs (i : Int)⟩ := LD.same e e2.symm
      rw [← this]; exact hx
    · exact absurd e h1
  · intro hx
    have h0 := h.ok x hx
    have e := timeB_mem h hx
    refine ⟨x.n.toNat, by omega, ?_, ?_⟩
    · unfold tmF
      rw [show ((x.n.toNat : Nat) : Int) = x.n by omega, e]
      omega
    · unfold tmF
      rw [show ((x.n.toNat : Nat) : Int) = x.n by omega, e]
theorem arrT_nil : arrT [] = arrD (fun _ => -1) := rfl
theorem DirP.first {xs : List LD} (h : DirP xs) (k : Nat) : DirP (xs.take k) := h.sub (List.take_sublist _ _)
/-- One node more. -/
theorem arrT_step {xs : List LD} (h : DirP xs) (k : Nat) (hk : k < xs.length) : (arrT (xs.take k)).setIfInBounds (lth xs k).n.toNat (.int .i64 (lth xs k).t) = arrT (xs.take (k + 1)) := by
  rw [arrD_set]
  refine arrD_ext fun i hi => ?_
  have h0 := h.ok _ (lth_mem xs k hk)
  have hm : lth xs k ∈ xs.take (k + 1) := by rw [take_lth xs k hk]; exact List.mem_append_right _ (List.mem_singleton.2 rfl)
  unfold updF tmF
  by_cases e : i = (lth xs k).n.toNat
  · rw [if_pos e, show ((i : Nat) : Int) = (lth xs k).n by omega, timeB_mem (h.first _) hm]
  · rw [if_neg e]
    rcases time_case (h.first k) (i : Int) with ⟨x, hx, e1, e2, _⟩ | ⟨h1, e1⟩
    · have hx2 : x ∈ xs.take (k + 1) := by rw [take_lth xs k hk]; exact List.mem_append_left _ hx
      rw [e2, ← e1, timeB_mem (h.first _) hx2]
    · rw [e1, timeB_no]
      intro x hx
      rw [take_lth xs k hk] at hx
      rcases List.mem_append.1 hx with hx | hx
      · exact h1 x hx
      · rw [List.mem_singleton] at hx
        subst hx
        omega
/-- Sweeping. -/
theorem time_sweep {xs : List LD} (h : DirP xs) (now v : Int) (hn : 0 ≤ now) : timeB (sweepL now xs) v = if timeB xs v + 10 < now then -1 else timeB xs v := by
  have hs := h.sub (sweep_sub now xs)
  rcases time_case h v with ⟨x, hx, e1, e2, h1, _⟩ | ⟨h1, e1⟩
  · rw [e2]
    by_cases hf : now ≤ x.t + 10
    · rw [if_neg (by omega), ← e1, timeB_mem hs (mem_sweep.2 ⟨hx, hf⟩)]
    · rw [if_pos (by omega), timeB_no]
      intro y hy e
      have hy' := mem_sweep.1 hy
      have := h.uniq hy'.1 hx (e.trans e1.symm)
      subst this
      exact hf hy'.2
  · rw [e1, timeB_no fun y hy => h1 y (mem_sweep.1 hy).1]
    split <;> rfl
/-- What sweeping has done behind k rounds. -/
def swF (f : Nat → Int) (now : Int) (k : Nat) : Nat → Int := fun i => if i < k then (if f i + 10 < now then -1 else f i) else f i
theorem swF_zero (f : Nat → Int) (now : Int) : arrD (swF f now 0) = arrD f := arrD_ext fun i _ => by unfold swF; rw [if_neg (Nat.not_lt_zero _)]
theorem swF_old {f : Nat → Int} {now : Int} {k : Nat} (h : f k + 10 < now) : arrD (updF (swF f now k) k (-1)) = arrD (swF f now (k + 1)) := arrD_ext fun i _ => by
  unfold updF swF
  by_cases e : i = k
  · subst e; rw [if_pos rfl, if_pos (Nat.lt_succ_self _), if_pos h]
  · rw [if_neg e]
    by_cases e2 : i < k
    · rw [if_pos e2, if_pos (show i < k + 1 by omega)]
    · rw [if_neg e2, if_neg (show ¬ i < k + 1 by omega)]
theorem swF_new {f : Nat → Int} {now : Int} {k : Nat} (h : ¬ f k + 10 < now) : arrD (swF f now k) = arrD (swF f now (k + 1)) := arrD_ext fun i _ => by
  unfold swF
  by_cases e : i = k
  · subst e; rw [if_neg (Nat.lt_irrefl _), if_pos (Nat.lt_succ_self _), if_neg h]
  · by_cases e2 : i < k
    · rw [if_pos e2, if_pos (show i < k + 1 by omega)]
    · rw [if_neg e2, if_neg (show ¬ i < k + 1 by omega)]
theorem swF_at (f : Nat → Int) (now : Int) (k : Nat) : swF f now k k = f k := by unfold swF; rw [if_neg (Nat.lt_irrefl _)]
theorem swF_all {xs : List LD} (h : DirP xs) (now : Int) (hn : 0 ≤ now) : arrD (swF (tmF xs) now 100) = arrT (sweepL now xs) := arrD_ext fun i hi => by
  unfold swF tmF
  rw [if_pos hi, time_sweep h now _ hn]
/-- Putting: a node that is listed. -/
theorem arrT_set {xs : List LD} (h : DirP xs) {node now : Int} (hk : hasN xs node = true) (hn : 0 ≤ now ∧ now ≤ 999) : (arrT xs).setIfInBounds node.toNat (.int .i64 (max (timeB xs node) now)) = arrT (setL xs node now) := by
  rw [arrD_set]
  obtain ⟨x, hx, rfl⟩ := (hasN_iff xs node).1 hk
  have h0 := h.ok x hx
  have hs := h.set (node := x.n) hn
  refine arrD_ext fun i hi => ?_
  unfold updF tmF
  by_cases e : i = x.n.toNat
  · rw [if_pos e, show ((i : Nat) : Int) = x.n by omega, timeB_mem h hx]
    have hm : (⟨x.n, max x.t now⟩ : LD) ∈ setL xs x.n now := by
      have : newer x.n now x ∈ setL xs x.n now := List.mem_map_of_mem hx
      unfold newer at this
      rwa [if_pos rfl] at this
    exact (timeB_mem hs hm).symm
  · rw [if_neg e]
    rcases time_case h (i : Int) with ⟨y, hy, e1, e2, _⟩ | ⟨h1, e1⟩
    · have hm : newer x.n now y ∈ setL xs x.n now := List.mem_map_of_mem hy
      unfold newer at hm
      rw [if_neg (by omega)] at hm
      rw [e2, ← e1, timeB_mem hs hm]
    · rw [e1, timeB_no]
      intro y hy
      unfold setL at hy
      obtain ⟨z, hz, rfl⟩ := List.mem_map.1 hy
      rw [newer_n]
      exact h1 z hz
theorem mem_ins_iff {xs : List LD} {node now : Int} {x : LD} : x ∈ insL xs node now ↔ x = ⟨node, now⟩ ∨ x ∈ xs := by
  constructor
  · intro h
    unfold insL at h
    rcases List.mem_append.1 h with h | h
    · exact .inr ((List.takeWhile_sublist _).subset h)
    · rcases List.mem_cons.1 h with h | h
      · exact .inl h
      · exact .inr ((List.dropWhile_sublist _).subset h)
  · rintro (rfl | h)
    · exact ins_self _ _ _
    · exact mem_ins h
/-- Putting: a node that is not listed. -/
theorem arrT_ins {xs : List LD} (h : DirP xs) {node now : Int} (hl : xs.length < 8) (hno : ∀ x ∈ xs, x.n ≠ node) (h1 : 0 ≤ node ∧ node ≤ 99) (h2 : 0 ≤ now ∧ now ≤ 999) : (arrT xs).setIfInBounds node.toNat (.int .i64 now) = arrT (insL xs node now) := by
  rw [arrD_set]
  have hs := h.ins hl hno h1 h2
  refine arrD_ext fun i hi => ?_
  unfold updF tmF
  by_cases e : i = node.toNat
  · rw [if_pos e, show ((i : Nat) : Int) = node by omega]
    exact (timeB_mem hs (ins_self xs node now)).symm
  · rw [if_neg e]
    rcases time_case h (i : Int) with ⟨y, hy, e1, e2, _⟩ | ⟨k1, e1⟩
    · rw [e2, ← e1, timeB_mem hs (mem_ins hy)]
    · rw [e1, timeB_no]
      intro y hy
      rcases mem_ins_iff.1 hy with rfl | hy
      · show node ≠ _
        omega
      · exact k1 y hy

/-! ### in memory -/
/-- The array of a directory lies whole in block g. -/
abbrev DirAt (w : World) (g : Nat) (xs : List LD) : Prop := Blk w g 47 (arrT xs)
theorem arr_cell {w : World} {g : Nat} {f : Nat → Int} (h : Blk w g 47 (arrD f)) (i : Nat) (hi : i < 100) : w.cell? ⟨g, i, none⟩ = some (.int .i64 (f i)) := by
  rw [h.cell, arrD_get f i hi]
end Go.Proofs.Ytjefkpjjdloodaa
