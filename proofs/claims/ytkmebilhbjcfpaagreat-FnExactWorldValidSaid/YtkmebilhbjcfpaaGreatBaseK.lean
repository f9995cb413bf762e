/- Contract of bits.TrailingZeros at the powers of two up to 16. Condition: the table of the package holds what its text lays. Contract of climbTree: the tree above a leaf. Conditions: the leaf and its at most 4 siblings are digests. Contract of slices.Insert of one pointer into a slice of the call's own. Conditions: the index is in order; the pointer lies in a block of its own. Contract of TreeCheck -/
import Derived.Test.YtkmebilhbjcfpaaGreatBaseA
import Derived.Test.YtkmebilhbjcfpaaGreatBaseF
import Derived.Test.YtkmebilhbjcfpaaGreatBaseB
import Derived.Shelf.Spec.SlicesInsertGrow
namespace Go.Proofs.YtkmebilhbjcfpaaGreat
open Go.RowKit
set_option linter.unusedVariables false

/-- The cells of the table that are read. -/
structure Tab (w : World) : Prop where
  t0 : w.cell? ⟨1, 0, none⟩ = some (.int .u8 0)
  t1 : w.cell? ⟨1, 1, none⟩ = some (.int .u8 1)
  t3 : w.cell? ⟨1, 3, none⟩ = some (.int .u8 2)
  t7 : w.cell? ⟨1, 7, none⟩ = some (.int .u8 3)
  t15 : w.cell? ⟨1, 15, none⟩ = some (.int .u8 4)
theorem Tab.lt {w : World} (h : Tab w) : 1 < w.heap.size := World.block_lt_of_cell? w _ h.t0
theorem Tab.keep {w w' : World} (h : Tab w) (hk : ∀ j, w'.cell? ⟨1, j, none⟩ = w.cell? ⟨1, j, none⟩) : Tab w' :=
  ⟨(hk 0).trans h.t0, (hk 1).trans h.t1, (hk 3).trans h.t3, (hk 7).trans h.t7, (hk 15).trans h.t15⟩
theorem Tab.below {w w' : World} (h : Tab w) (hb : Below w.heap.size w w') : Tab w' := h.keep fun j => hb.cell (p := ⟨1, j, none⟩) h.lt
theorem Tab.belowAt {w w' : World} {B : Nat} (h : Tab w) (hb : Below B w w') (hB : 1 < B) : Tab w' := h.keep fun j => hb.cell (p := ⟨1, j, none⟩) hB
theorem Tab.alloc {w : World} (h : Tab w) (o : Obj) : Tab (w.alloc o) := h.keep fun j => World.cell?_alloc_lt w o _ h.lt





end Go.Proofs.YtkmebilhbjcfpaaGreat

namespace Go.Proofs.YtkmebilhbjcfpaaGreat
open Go.RowKit
set_option linter.unusedVariables false

/-- What climbTree hands back. -/
def Climbed (w : World) (r : Int) (s : Nat) (e : Ending) (w' : World) : Prop :=
  ∃ g x y, e = .returned (.pointer (some ⟨g, 0, none⟩)) ∧ Node w' g r (s : Int) x y ∧ Below w.heap.size w w'

/-- Where the loop stands. -/
structure ClimbAt (w : World) (ss : List Int) (i : Nat) (leaf : Int) (g k s : Nat) (t : Int) (w' : World) : Prop where
  node : ∃ x y, Node w' g t (s : Int) x y
  below : Below w.heap.size w w'
  rest : climbG pairZ (ss.drop k) s i t = climbG pairZ ss 1 i leaf
  pow : s = 2 ^ k
  bd : 0 ≤ t ∧ t < 991

theorem climb_bd : ∀ (ss : List Int) (s i : Nat) (t : Int), 0 ≤ t ∧ t < 991 → 0 ≤ climbG pairZ ss s i t ∧ climbG pairZ ss s i t < 991 := by
  intro ss
  induction ss with
  | nil => intro s i t h; exact h
  | cons r rs ih =>
    intro s i t h
    have e : climbG pairZ (r :: rs) s i t = climbG pairZ rs (2 * s) i (if i &&& s = 0 then pairZ t r else pairZ r t) := rfl
    rw [e]
    by_cases c : i &&& s = 0
    · rw [if_pos c]; exact ih _ _ _ (pairZ_bd _ _)
    · rw [if_neg c]; exact ih _ _ _ (pairZ_bd _ _)



end Go.Proofs.YtkmebilhbjcfpaaGreat

namespace Go.Proofs.YtkmebilhbjcfpaaGreat
open Go.RowKit
set_option linter.unusedVariables false

/-- What slices.Insert hands back. -/
def Inserted (w : World) (base : Nat) (gs : List Nat) (e : Ending) (w' : World) : Prop :=
  ∃ A c, e = .returned (.slice A gs.length c) ∧ OwnPtrs w' base A c gs ∧ Below base w w' ∧ Kept w w'

theorem insert_split {α : Type} (a : α) : ∀ (l : List α) (p : Nat), p ≤ l.length → l.insertIdx p a = l.take p ++ a :: l.drop p := by
  intro l
  induction l with
  | nil =>
    intro p hp
    have : p = 0 := by simpa using hp
    subst this
    rfl
  | cons b l ih =>
    intro p hp
    cases p with
    | zero => rfl
    | succ p =>
      rw [List.insertIdx_succ_cons, ih p (by simpa using hp)]
      rfl
theorem insert_ptrs (gs : List Nat) (p g : Nat) (hp : p ≤ gs.length) : (ptrs gs).take p ++ [ptr g] ++ (ptrs gs).drop p = ptrs (gs.insertIdx p g) := by
  unfold ptrs
  rw [insert_split g gs p hp, ← List.map_take, ← List.map_drop]
  simp
theorem setCells_drew (b : Nat) : ∀ (vs : List Value) (o : Nat) (w : World), (w.drew.setCells b o vs).heap = (w.setCells b o vs).heap := by
  intro vs
  induction vs with
  | nil => intro o w; rfl
  | cons v r ih => intro o w; exact ih (o + 1) (w.setCell ⟨b, o, none⟩ v)

theorem setCells_rest (b : Nat) : ∀ (vs : List Value) (o : Nat) (w : World), (w.setCells b o vs).os = w.os ∧ (w.setCells b o vs).tape = w.tape ∧ (w.setCells b o vs).output = w.output := by
  intro vs
  induction vs with
  | nil => intro o w; exact ⟨rfl, rfl, rfl⟩
  | cons v r ih => intro o w; exact ih (o + 1) (w.setCell ⟨b, o, none⟩ v)



/-- One element more of a row that has room. -/
theorem own_more {w : World} {base g n cap : Nat} {e : TypeId} {xs : List Value} (h : w.ownsRow base e 1 (.slice (some ⟨g, 0, none⟩) n cap) n xs) (hr : n + 1 ≤ cap) : ∃ u, w.ownsRow base e 1 (.slice (some ⟨g, 0, none⟩) (n + 1) cap) (n + 1) (xs ++ [u]) := by
  have h0 := h.1
  rcases h.2 with ⟨hv, _⟩ | ⟨g', c, cur, hv, hb, hh, h1, h2, h3, h4⟩
  · injection hv with hA _ _; cases hA
  · injection hv with hA _ hc
    injection hA with hA
    injection hA with hA _ _
    subst hA hc
    have hn : n < cur.toList.length := by rw [Array.length_toList]; omega
    refine ⟨cur.toList[n], by rw [List.length_append, h0]; simp, .inr ⟨g, cap, cur, rfl, hb, hh, hr, h2, h3, ?_⟩⟩
    rw [Nat.mul_one] at h4 ⊢
    rw [List.take_succ_eq_append_getElem hn, h4]

theorem list_shift {α : Type} (xs : List α) (u v : α) (p n : Nat) (hx : xs.length = n) (hp : p < n) :
    (((xs ++ [u]).take (p + 1) ++ xs.drop p ++ (xs ++ [u]).drop (p + 1 + (xs.drop p).length)).take p ++ [v] ++ ((xs ++ [u]).take (p + 1) ++ xs.drop p ++ (xs ++ [u]).drop (p + 1 + (xs.drop p).length)).drop (p + 1)) = xs.take p ++ [v] ++ xs.drop p := by
  have h1 : (xs ++ [u]).drop (p + 1 + (xs.drop p).length) = [] := List.drop_eq_nil_of_le (by simp; omega)
  have h2 : ((xs ++ [u]).take (p + 1)).length = p + 1 := by simp; omega
  rw [h1, List.append_nil, List.take_append_of_le_length (by omega), List.take_take, Nat.min_eq_left (by omega), List.take_append_of_le_length (by omega)]
  have h3 : ((xs ++ [u]).take (p + 1) ++ xs.drop p).drop (p + 1) = xs.drop p := by
    have := List.drop_left (l₁ := (xs ++ [u]).take (p + 1)) (l₂ := xs.drop p)
    rw [h2] at this
    exact this
  rw [h3]




theorem nilCells (k : Nat) : (Builtin.zeroCells (Value.pointer none).cells k) = (List.replicate k (Value.pointer none)).toArray := by
  apply Array.ext'
  simp [Builtin.zeroCells, Value.cells]
  apply List.ext_getElem
  · simp
  · intro i h1 h2
    simp [Nat.mod_one]
theorem list_grow {α : Type} (xs zs : List α) (v : α) (p n : Nat) (hx : xs.length = n) (hp : p < n) (hz : zs.length = n + 1 - p) :
    ((xs.take p ++ zs).take p ++ [v] ++ (xs.take p ++ zs).drop (p + 1)).take (p + 1) ++ xs.drop p ++ ((xs.take p ++ zs).take p ++ [v] ++ (xs.take p ++ zs).drop (p + 1)).drop (p + 1 + (xs.drop p).length) = xs.take p ++ [v] ++ xs.drop p := by
  have h1 : (xs.take p).length = p := by rw [List.length_take]; omega
  have h2 : (xs.take p ++ zs).take p = xs.take p := by
    have := List.take_left (l₁ := xs.take p) (l₂ := zs)
    rw [h1] at this
    exact this
  rw [h2]
  have h3 : (xs.take p ++ [v]).length = p + 1 := by rw [List.length_append, h1]; rfl
  have h4 : (xs.take p ++ [v] ++ (xs.take p ++ zs).drop (p + 1)).take (p + 1) = xs.take p ++ [v] := by
    have := List.take_left (l₁ := xs.take p ++ [v]) (l₂ := (xs.take p ++ zs).drop (p + 1))
    rw [h3] at this
    exact this
  rw [h4]
  have h5 : (xs.take p ++ [v] ++ (xs.take p ++ zs).drop (p + 1)).drop (p + 1 + (xs.drop p).length) = [] := by
    apply List.drop_eq_nil_of_le
    rw [List.length_append, h3, List.length_drop, List.length_append, h1, hz, List.length_drop]
    omega
  rw [h5, List.append_nil]





end Go.Proofs.YtkmebilhbjcfpaaGreat

namespace Go.Proofs.YtkmebilhbjcfpaaGreat
open Go.RowKit
set_option linter.unusedVariables false

/-- The arguments of a check that can be right. -/
def treeIn (n i leaf : Int) (zs : List Int) : Prop := (1 ≤ n ∧ n ≤ 16) ∧ (0 ≤ i ∧ i < n) ∧ (0 ≤ leaf ∧ leaf < 991) ∧ digB zs = true
def treeOk (digest n i leaf : Int) (zs : List Int) : Prop := treeIn n i leaf zs ∧ zs.length = proofLen n.toNat i.toNat ∧ checkZ n.toNat i.toNat leaf zs = digest
instance (n i leaf : Int) (zs : List Int) : Decidable (treeIn n i leaf zs) := by unfold treeIn; infer_instance
instance (digest n i leaf : Int) (zs : List Int) : Decidable (treeOk digest n i leaf zs) := by unfold treeOk; infer_instance
def treeOkB (digest n i leaf : Int) (zs : List Int) : Bool := decide (treeOk digest n i leaf zs)
theorem treeOkB_iff (digest n i leaf : Int) (zs : List Int) : treeOkB digest n i leaf zs = true ↔ treeOk digest n i leaf zs := by unfold treeOkB; rw [decide_eq_true_eq]
theorem treeOkB_no {digest n i leaf : Int} {zs : List Int} (h : ¬ treeOk digest n i leaf zs) : treeOkB digest n i leaf zs = false := by
  rw [Bool.eq_false_iff]; exact fun e => h ((treeOkB_iff _ _ _ _ _).1 e)



theorem RootsAt.insert {w : World} {gs : List Nat} {rs : List Int} (h : RootsAt w gs rs) (p g : Nat) (r : Int) (hp : p ≤ gs.length) (hn : ∃ s x y, Node w g r s x y) : RootsAt w (gs.insertIdx p g) (rs.insertIdx p r) := by
  have hs := h.same
  refine ⟨by rw [List.length_insertIdx_of_le_length hp, List.length_insertIdx_of_le_length (by omega), hs], fun k hk => ?_⟩
  rw [List.length_insertIdx_of_le_length hp] at hk
  rw [insert_split g gs p hp, insert_split r rs p (by omega)]
  have hl1 : (gs.take p).length = p := by rw [List.length_take]; omega
  have hl2 : (rs.take p).length = p := by rw [List.length_take]; omega
  unfold gth nth
  rw [List.getD_eq_getElem?_getD, List.getD_eq_getElem?_getD]
  by_cases c : k < p
  · rw [List.getElem?_append_left (by omega), List.getElem?_append_left (by omega), List.getElem?_take_of_lt c, List.getElem?_take_of_lt c]
    have := h.node k (by omega)
    unfold gth nth at this
    rw [List.getD_eq_getElem?_getD, List.getD_eq_getElem?_getD] at this
    exact this
  · rw [List.getElem?_append_right (by omega), List.getElem?_append_right (by omega), hl1, hl2]
    by_cases e : k = p
    · rw [e, Nat.sub_self]
      exact hn
    · obtain ⟨j, hj⟩ : ∃ j, k - p = j + 1 := ⟨k - p - 1, by omega⟩
      rw [hj, List.getElem?_cons_succ, List.getElem?_cons_succ, List.getElem?_drop, List.getElem?_drop]
      have := h.node (p + j) (by omega)
      unfold gth nth at this
      rw [List.getD_eq_getElem?_getD, List.getD_eq_getElem?_getD] at this
      exact this



theorem look_depth : allNI (fun n i => decide ((peakOf n i).2 = 2 ^ depthOf n i) && decide (depthOf n i ≤ 4) && decide (depthOf n i ≤ proofLen n i)) = true := by decide +kernel
theorem depth_facts {n i : Nat} (h : n ≤ 16) (hi : i < n) : (peakOf n i).2 = 2 ^ depthOf n i ∧ depthOf n i ≤ 4 ∧ depthOf n i ≤ proofLen n i := by
  have := allNI_get look_depth h hi
  simp only [Bool.and_eq_true, decide_eq_true_eq] at this
  exact ⟨this.1.1, this.1.2, this.2⟩





end Go.Proofs.YtkmebilhbjcfpaaGreat

namespace Go.Proofs.YtkmebilhbjcfpaaGreat
open Go.RowKit
set_option linter.unusedVariables false



end Go.Proofs.YtkmebilhbjcfpaaGreat

namespace Go.Proofs.YtkmebilhbjcfpaaGreat
open Go.RowKit
set_option linter.unusedVariables false

theorem drop_cons_nth (zs : List Int) (u : Nat) (h : u < zs.length) : zs.drop u = nth zs u :: zs.drop (u + 1) := by
  rw [List.drop_eq_getElem_cons h, nth, List.getD_eq_getElem?_getD, List.getElem?_eq_getElem h]
  rfl
theorem climbS_step {i size f st : Nat} {t p : Int} {ps : List Int} (h : st < size) : climbS pairZ i size (f + 1) st t (p :: ps) = climbS pairZ i size f (2 * st) (if i / st % 2 = 0 then pairZ t p else pairZ p t) ps := by
  show (if _ then _ else _) = _
  rw [if_pos h]
theorem climbS_none {i size f st : Nat} {t : Int} (h : st < size) : climbS pairZ i size (f + 1) st t [] = none := by
  show (if _ then _ else _) = _
  rw [if_pos h]
theorem climbS_stop {i size f st : Nat} {t : Int} {ps : List Int} (h : ¬ st < size) : climbS pairZ i size f st t ps = some (t, ps) := by
  cases f with
  | zero => rfl
  | succ f => show (if _ then _ else _) = _; rw [if_neg h]

/-- Where the first loop stands. -/
structure ClimbSAt (zs : List Int) (i size : Nat) (leaf t : Int) (u st f : Nat) : Prop where
  rest : climbS pairZ i size f st t (zs.drop u) = climbS pairZ i size 5 1 leaf zs
  form : (st = 1 ∧ f = 5) ∨ (st = 2 ∧ f = 4) ∨ (st = 4 ∧ f = 3) ∨ (st = 8 ∧ f = 2) ∨ (st = 16 ∧ f = 1)
  bd : 0 ≤ t ∧ t < 991
/-- Where the second loop stands. -/
structure OutSAt (zs : List Int) (n i : Nat) (leaf : Int) (at_ : Nat) (root o : Int) (u s f : Nat) : Prop where
  rest : outS pairZ at_ root (placesGo f s n) o (zs.drop u) = checkS pairZ n n i leaf zs
  fuel : n < s + f
  bd : 0 ≤ o ∧ o < 991



theorem check_dec (digest leaf : Int) (n i : Nat) (zs : List Int) (h16 : n ≤ 16) (hi : i < n) (hin : treeIn n i leaf zs) : decide (checkS pairZ n n i leaf zs = some (digest, [])) = treeOkB digest n i leaf zs := by
  rw [Bool.eq_iff_iff, decide_eq_true_eq, treeOkB_iff]
  unfold treeOk
  rw [Int.toNat_natCast, Int.toNat_natCast]
  by_cases hl : zs.length = proofLen n i
  · rw [check_same n i leaf zs h16 hi hl]
    exact ⟨fun h => ⟨hin, hl, by injection h with h; injection h⟩, fun h => by rw [h.2.2]⟩
  · exact ⟨fun h => absurd h (check_short n i leaf zs h16 hi hl digest), fun h => absurd h.2.1 hl⟩







end Go.Proofs.YtkmebilhbjcfpaaGreat
