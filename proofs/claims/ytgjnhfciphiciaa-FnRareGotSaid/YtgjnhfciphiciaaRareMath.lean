/- The mathematics of rarest blocks: how many peers have a block, the order of the blocks, the rarest of a peer, complete copies. No conditions. -/
import Derived.Test.YtgjnhfciphiciaaHeapQ
import Derived.Test.YtgjnhfciphiciaaBaseD
namespace Go.Proofs.Ytgjnhfciphiciaa
open Go.RowKit
set_option linter.unusedVariables false

/-- How many peers have a block. -/
def cntB (ps : List (List Bool)) (b : Nat) : Nat := ps.countP (fun zs => bth zs b)
theorem cntB_le (ps : List (List Bool)) (b : Nat) : cntB ps b ≤ ps.length := List.countP_le_length
theorem cntB_append (a c : List (List Bool)) (b : Nat) : cntB (a ++ c) b = cntB a b + cntB c b := List.countP_append
theorem cntB_perm {a c : List (List Bool)} (h : a.Perm c) (b : Nat) : cntB a b = cntB c b := h.countP_eq _
theorem cntB_one (zs : List Bool) (b : Nat) : cntB [zs] b = if bth zs b = true then 1 else 0 := by
  unfold cntB; rw [List.countP_cons, List.countP_nil, Nat.zero_add]
/-- The bits of the i-th peer. -/
def pth (ps : List (List Bool)) (i : Nat) : List Bool := ps.getD i []
theorem pth_get (ps : List (List Bool)) (i : Nat) (h : i < ps.length) : ps[i]? = some (pth ps i) := by
  unfold pth; rw [List.getD_eq_getElem?_getD, List.getElem?_eq_getElem h]; rfl
theorem pth_eq (ps : List (List Bool)) (i : Nat) (h : i < ps.length) : pth ps i = ps[i] := by
  have := pth_get ps i h
  rw [List.getElem?_eq_getElem h] at this
  injection this with this; exact this.symm
theorem take_pth (ps : List (List Bool)) (k : Nat) (h : k < ps.length) : ps.take (k + 1) = ps.take k ++ [pth ps k] := by
  rw [List.take_succ_eq_append_getElem h, pth_eq ps k h]
theorem cntB_take (ps : List (List Bool)) (i b : Nat) (h : i < ps.length) : cntB (ps.take (i + 1)) b = cntB (ps.take i) b + if bth (pth ps i) b = true then 1 else 0 := by
  rw [take_pth ps i h, cntB_append, cntB_one]

/-- Are the bits of the peers valid? -/
def smallP (ps : List (List Bool)) : Bool := decide (∀ zs ∈ ps, zs.length ≤ 16)
def okP (ps : List (List Bool)) : Bool := decide (ps.length ≤ 6) && smallP ps
theorem okP_iff (ps : List (List Bool)) : okP ps = true ↔ ps.length ≤ 6 ∧ ∀ zs ∈ ps, zs.length ≤ 16 := by unfold okP smallP; simp
theorem okP_no (ps : List (List Bool)) (h : ¬ (ps.length ≤ 6 ∧ ∀ zs ∈ ps, zs.length ≤ 16)) : okP ps = false := by
  rw [Bool.eq_false_iff]; exact fun e => h ((okP_iff ps).1 e)
theorem smallP_iff (ps : List (List Bool)) : smallP ps = true ↔ ∀ i, i < ps.length → (pth ps i).length ≤ 16 := by
  unfold smallP
  rw [decide_eq_true_eq]
  exact ⟨fun h i hi => by rw [pth_eq ps i hi]; exact h _ (List.getElem_mem hi), fun h zs hz => by
    obtain ⟨i, hi, rfl⟩ := List.getElem_of_mem hz
    rw [← pth_eq ps i hi]; exact h i hi⟩
theorem smallP_no {ps : List (List Bool)} {i : Nat} (hi : i < ps.length) (h : ¬ (pth ps i).length ≤ 16) : smallP ps = false := by
  rw [Bool.eq_false_iff]; exact fun e => h ((smallP_iff ps).1 e i hi)

def wantB (ps : List (List Bool)) (mine : List Bool) (b : Nat) : Bool := decide (0 < cntB ps b) && !bth mine b
def keyOf (ps : List (List Bool)) (b : Nat) : Nat := cntB ps b * 16 + b
def wantK (ps : List (List Bool)) (mine : List Bool) (m : Nat) : List Nat := ((List.range m).filter (wantB ps mine)).map (keyOf ps)
theorem wantK_zero (ps : List (List Bool)) (mine : List Bool) : wantK ps mine 0 = [] := rfl
theorem wantK_yes {ps : List (List Bool)} {mine : List Bool} {m : Nat} (h : wantB ps mine m = true) : wantK ps mine (m + 1) = wantK ps mine m ++ [keyOf ps m] := by
  unfold wantK; rw [List.range_succ, List.filter_append, List.map_append, List.filter_cons_of_pos h]; rfl
theorem wantK_no {ps : List (List Bool)} {mine : List Bool} {m : Nat} (h : wantB ps mine m = false) : wantK ps mine (m + 1) = wantK ps mine m := by
  unfold wantK; rw [List.range_succ, List.filter_append, List.filter_cons_of_neg (by rw [h]; decide), List.filter_nil, List.append_nil]
theorem wantK_len (ps : List (List Bool)) (mine : List Bool) (m : Nat) : (wantK ps mine m).length ≤ m := by
  unfold wantK; rw [List.length_map]
  exact Nat.le_trans (List.length_filter_le _ _) (by rw [List.length_range]; exact Nat.le_refl _)
def ordP (ps : List (List Bool)) (mine : List Bool) (k : Nat) : Bool := decide (0 < k / 16) && (decide (cntB ps (k % 16) = k / 16) && !bth mine (k % 16))
theorem ordP_iff (ps : List (List Bool)) (mine : List Bool) (k : Nat) : ordP ps mine k = true ↔ 0 < k / 16 ∧ cntB ps (k % 16) = k / 16 ∧ bth mine (k % 16) = false := by unfold ordP; simp
def orderTo (ps : List (List Bool)) (mine : List Bool) (m : Nat) : List Nat := (List.range m).filter (ordP ps mine)
/-- The wanted blocks as numbers of holders and indexes, ascending. -/
def orderK (ps : List (List Bool)) (mine : List Bool) : List Nat := orderTo ps mine ((ps.length + 1) * 16)
theorem orderTo_yes {ps : List (List Bool)} {mine : List Bool} {m : Nat} (h : ordP ps mine m = true) : orderTo ps mine (m + 1) = orderTo ps mine m ++ [m] := by
  unfold orderTo; rw [List.range_succ, List.filter_append, List.filter_cons_of_pos h]; rfl
theorem orderTo_no {ps : List (List Bool)} {mine : List Bool} {m : Nat} (h : ordP ps mine m = false) : orderTo ps mine (m + 1) = orderTo ps mine m := by
  unfold orderTo; rw [List.range_succ, List.filter_append, List.filter_cons_of_neg (by rw [h]; decide), List.filter_nil, List.append_nil]
theorem orderTo_first (ps : List (List Bool)) (mine : List Bool) : orderTo ps mine 16 = [] := by
  unfold orderTo
  rw [List.filter_eq_nil_iff]
  intro k hk h
  have h1 := List.mem_range.1 hk
  have h2 := ((ordP_iff ps mine k).1 h).1
  omega
theorem orderTo_sorted (ps : List (List Bool)) (mine : List Bool) (m : Nat) : (orderTo ps mine m).Pairwise (· < ·) := List.Pairwise.filter _ List.pairwise_lt_range
theorem want_order (ps : List (List Bool)) (mine : List Bool) : (wantK ps mine 16).Perm (orderK ps mine) := by
  have n1 : (orderK ps mine).Nodup := (orderTo_sorted ps mine _).imp fun h => Nat.ne_of_lt h
  have n2 : (wantK ps mine 16).Nodup := by
    unfold wantK
    refine List.pairwise_map.2 ?_
    refine List.Pairwise.imp_of_mem (R := (· < ·)) ?_ (List.Pairwise.filter _ List.pairwise_lt_range)
    intro a b ha hb hlt
    have h1 := List.mem_range.1 ((List.mem_filter.1 ha).1)
    have h2 := List.mem_range.1 ((List.mem_filter.1 hb).1)
    unfold keyOf
    omega
  rw [List.perm_ext_iff_of_nodup n2 n1]
  intro k
  unfold wantK orderK orderTo
  rw [List.mem_map, List.mem_filter, List.mem_range, ordP_iff]
  constructor
  · rintro ⟨b, hb, rfl⟩
    rw [List.mem_filter, List.mem_range] at hb
    obtain ⟨hb, hw⟩ := hb
    unfold wantB at hw
    simp only [Bool.and_eq_true, decide_eq_true_eq, Bool.not_eq_true'] at hw
    have hle := cntB_le ps b
    have e1 : keyOf ps b / 16 = cntB ps b := by unfold keyOf; omega
    have e2 : keyOf ps b % 16 = b := by unfold keyOf; omega
    rw [e1, e2]
    exact ⟨by unfold keyOf; omega, hw.1, rfl, hw.2⟩
  · rintro ⟨hk, h1, h2, h3⟩
    refine ⟨k % 16, ?_, by unfold keyOf; omega⟩
    rw [List.mem_filter, List.mem_range]
    refine ⟨by omega, ?_⟩
    unfold wantB
    simp only [Bool.and_eq_true, decide_eq_true_eq, Bool.not_eq_true']
    exact ⟨by omega, h3⟩
/-- What is taken off one after another is the order. -/
theorem drained {ps : List (List Bool)} {mine : List Bool} {qs : List Nat} (hp : qs.Perm (wantK ps mine 16)) (hs : qs.Pairwise (· ≤ ·)) : qs = orderK ps mine :=
  List.Perm.eq_of_pairwise (le := (· ≤ ·)) (fun a b _ _ h1 h2 => Nat.le_antisymm h1 h2) hs ((orderTo_sorted ps mine _).imp fun h => Nat.le_of_lt h) (hp.trans (want_order ps mine))
/-- One more is taken off. -/
theorem drain_step {qs xs ys : List Nat} {x : Nat} (hs : qs.Pairwise (· ≤ ·)) (hb : ∀ q ∈ qs, ∀ y ∈ xs, q ≤ y) (hp : (x :: ys).Perm xs) (hm : ∀ y ∈ xs, x ≤ y) : (qs ++ [x]).Pairwise (· ≤ ·) ∧ (∀ q ∈ qs ++ [x], ∀ y ∈ ys, q ≤ y) ∧ ((qs ++ [x]) ++ ys).Perm (qs ++ xs) := by
  have hx : x ∈ xs := hp.mem_iff.1 List.mem_cons_self
  have hy : ∀ y ∈ ys, y ∈ xs := fun y h => hp.mem_iff.1 (List.mem_cons_of_mem _ h)
  refine ⟨?_, ?_, ?_⟩
  · rw [List.pairwise_append]
    exact ⟨hs, List.pairwise_singleton _ _, fun a ha b hb' => by rw [List.mem_singleton.1 hb']; exact hb a ha x hx⟩
  · intro q hq y hyy
    rcases List.mem_append.1 hq with h | h
    · exact hb q h y (hy y hyy)
    · rw [List.mem_singleton.1 h]; exact hm y (hy y hyy)
  · rw [List.append_assoc]
    exact List.Perm.append_left qs hp

/-- The indexes of the wanted blocks, the rarest first. -/
def orderN (ps : List (List Bool)) (mine : List Bool) : List Nat := if okP ps = true ∧ mine.length ≤ 16 then (orderK ps mine).map (· % 16) else []
def natZ (ks : List Nat) : List Int := ks.map (fun (k : Nat) => (k : Int))
theorem natZ_length (ks : List Nat) : (natZ ks).length = ks.length := List.length_map _
theorem blk_order (ks : List Nat) : ks.map blkZ = natZ (ks.map (· % 16)) := by
  unfold natZ; rw [List.map_map]; rfl
/-- The rarest block of a peer. -/
def pickN (ps : List (List Bool)) (mine : List Bool) (p : Nat) : Option Nat := (orderN ps mine).find? (fun b => bth (pth ps p) b)
def pickZ (ps : List (List Bool)) (mine : List Bool) (p : Int) : Int := if 0 ≤ p ∧ p < ps.length then (match pickN ps mine p.toNat with | some b => (b : Int) | none => -1) else -1
def least (ps : List (List Bool)) : Nat → Nat
  | 0 => ps.length
  | m + 1 => min (least ps m) (cntB ps m)
def wholeZ (ps : List (List Bool)) (l : Int) : Int := if okP ps = true ∧ 0 ≤ l ∧ l ≤ 16 then ((least ps l.toNat : Nat) : Int) else -1
def countZ (ps : List (List Bool)) (b : Int) : Int := if okP ps = true ∧ 0 ≤ b ∧ b < 16 then ((cntB ps b.toNat : Nat) : Int) else -1
theorem least_le (ps : List (List Bool)) : ∀ m, least ps m ≤ ps.length
  | 0 => Nat.le_refl _
  | m + 1 => Nat.le_trans (Nat.min_le_left _ _) (least_le ps m)

end Go.Proofs.Ytgjnhfciphiciaa
