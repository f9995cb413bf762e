/- Short forms of the steps of a region whose operations come up in any order. No conditions. Contracts of chapter 1 (digests) and of its models: what each function returns, and that it leaves the world as it was. Conditions: the arguments of the combining functions are digests. The plain mathematics of trees over digests: sizes, roots, covers, proofs, checks and merges, over any kind of digests; wha -/
import Derived.Test.YtkmebilhbjcfpaaGreatRows
import Derived.WalkKit
import Derived.OrdersHeld
import Derived.ProofKit
import Derived.OpenShut
import Derived.ShutString
import Derived.ChangeOld
import Derived.Below
import Derived.Lib.Hide
import Derived.Laws.OwnMore
import Derived.OwnWalk
import Derived.Deep.Draws
import Derived.Deep.AppendLies
import Derived.Maps.AppendAt
import Derived.Laws.Rows
import Derived.Deep.QuietTactic
import Derived.BigQuiet
import Derived.RegionTactic
import Derived.Lib.AppendZerosOnto
import Derived.IntWalk
namespace Go.Proofs.YtkmebilhbjcfpaaGreat
open Go.RowKit
theorem wtk {P : Program} {md : Region.Mode} {ops : Array Oper} {Q : Exit → Act → World → Prop} {S : World → Prop} {oi : Oper} {fuel : Nat} {listed : Array Bool} {a : Act} {w : World} (i : Nat) (v : Value) (k : Nat)
    (hi : ops[i]? = some oi) (hd : oi.dst = some k) (hs : (Region.noSelect ops && Region.free md ops listed i && (Region.ready md ops listed).contains i) = true)
    (hQ : ∀ c a w, Q (.panic c) (a.put oi.dst v) w → Q (.panic c) a w) (hy : Region.wanted oi (yielded ops a.tmps) = true) (hv : ∀ w, S w → (execOp a.eval oi).run P w = .ok (.value v) w) (hS : S w)
    (h : wpAnyH P md ops Q S fuel (listed.setIfInBounds i true) (a.put (some k) v) w) : wpAnyH P md ops Q S (fuel + 1) listed a w := by
  simp only [Bool.and_eq_true] at hs
  exact wpAnyH_take hi hs.1.1 hs.1.2 hs.2 hQ (Or.inl ⟨hy, hv⟩) hS (hd ▸ h)
theorem wtu {P : Program} {md : Region.Mode} {ops : Array Oper} {Q : Exit → Act → World → Prop} {S : World → Prop} {oi : Oper} {fuel : Nat} {listed : Array Bool} {a : Act} {w : World} (i : Nat) (k : Nat)
    (hi : ops[i]? = some oi) (hd : oi.dst = some k) (hs : (Region.noSelect ops && Region.free md ops listed i && (Region.ready md ops listed).contains i) = true)
    (hQ : ∀ c a w, Q (.panic c) (a.put oi.dst undef) w → Q (.panic c) a w) (hy : Region.wanted oi (yielded ops a.tmps) = false) (hS : S w)
    (h : wpAnyH P md ops Q S fuel (listed.setIfInBounds i true) (a.put (some k) undef) w) : wpAnyH P md ops Q S (fuel + 1) listed a w := by
  simp only [Bool.and_eq_true] at hs
  exact wpAnyH_take hi hs.1.1 hs.1.2 hs.2 hQ (Or.inr ⟨hy, rfl⟩) hS (hd ▸ h)
theorem aput {α : Type _} : (∀ (l : List α) (i : Nat) (a : α), l.toArray.setIfInBounds i a = (l.set i a).toArray) ∧ (∀ (x : α) (xs : List α) (a : α), (x :: xs).set 0 a = a :: xs) ∧ (∀ (x : α) (xs : List α) (n : Nat) (a : α), (x :: xs).set (n + 1) a = x :: xs.set n a) :=
  ⟨fun _ _ _ => List.setIfInBounds_toArray .., fun _ _ _ => rfl, fun _ _ _ _ => rfl⟩
end Go.Proofs.YtkmebilhbjcfpaaGreat

namespace Go.Proofs.YtkmebilhbjcfpaaGreat
open Go.RowKit

theorem ret_int {k : IntKind} {a b : Int} (h : a = b) : Ending.returned (.int k a) = .returned (.int k b) := by rw [h]
theorem ret_bool {a b : Bool} (h : a = b) : Ending.returned (.bool a) = .returned (.bool b) := by rw [h]

def validB (a : Int) : Bool := decide (0 ≤ a) && decide (a < 991)
def pairZ (a b : Int) : Int := (31 * a + 17 * b + 5) % 991
def byteZ (d b : Int) : Int := (d * 257 + b + 1) % 991
theorem validB_iff (a : Int) : validB a = true ↔ 0 ≤ a ∧ a < 991 := by simp [validB]
theorem validB_not (a : Int) : validB a = false ↔ ¬ (0 ≤ a ∧ a < 991) := by rw [← validB_iff]; simp

set_option maxHeartbeats 400000 in
theorem valid_yes (a : Int) (w : World) (h0 : 0 ≤ a) (h1 : a < 991) :
    Calls Tryz.prog 171 #[.int .i64 a] w fun e w' => e = .returned (.bool true) ∧ w = w' := by
  go_enter Tryz.func171, Tryz.ntmps171
  go_wp2
  go_ret
  exact ⟨rfl, rfl⟩

set_option maxHeartbeats 400000 in
theorem valid_no (a : Int) (w : World) (h : ¬ (0 ≤ a ∧ a < 991)) :
    Calls Tryz.prog 171 #[.int .i64 a] w fun e w' => e = .returned (.bool false) ∧ w = w' := by
  by_cases h0 : 0 ≤ a
  · have h1 : ¬ a < 991 := by omega
    clear h
    go_enter Tryz.func171, Tryz.ntmps171
    go_wp2
    go_ret
    exact ⟨rfl, rfl⟩
  · clear h
    go_enter Tryz.func171, Tryz.ntmps171
    go_wp2
    go_ret
    exact ⟨rfl, rfl⟩

set_option maxHeartbeats 400000 in
theorem in_yes (a lo hi : Int) (w : World) (h0 : lo ≤ a) (h1 : a ≤ hi) :
    Calls Tryz.prog 51 #[.int .i64 a, .int .i64 lo, .int .i64 hi] w fun e w' => e = .returned (.bool true) ∧ w = w' := by
  go_enter Tryz.func51, Tryz.ntmps51
  go_wp2
  go_ret
  exact ⟨rfl, rfl⟩

set_option maxHeartbeats 400000 in
theorem in_no (a lo hi : Int) (w : World) (h : ¬ (lo ≤ a ∧ a ≤ hi)) :
    Calls Tryz.prog 51 #[.int .i64 a, .int .i64 lo, .int .i64 hi] w fun e w' => e = .returned (.bool false) ∧ w = w' := by
  by_cases h0 : lo ≤ a
  · have h1 : ¬ a ≤ hi := by omega
    clear h
    go_enter Tryz.func51, Tryz.ntmps51
    go_wp2
    go_ret
    exact ⟨rfl, rfl⟩
  · clear h
    go_enter Tryz.func51, Tryz.ntmps51
    go_wp2
    go_ret
    exact ⟨rfl, rfl⟩

set_option maxHeartbeats 400000 in
theorem sdig_yes (a : Int) (w : World) (h0 : 0 ≤ a) (h1 : a < 991) :
    Calls Tryz.prog 104 #[.int .i64 a] w fun e w' => e = .returned (.bool true) ∧ w = w' := by
  go_enter Tryz.func104, Tryz.ntmps104
  go_wp2_with fail
  refine (in_yes _ _ _ _ (by omega) (by omega)).mono ?_
  rintro e w' ⟨rfl, rfl⟩
  go_wp2
  go_ret
  exact ⟨rfl, rfl⟩

set_option maxHeartbeats 400000 in
theorem sdig_no (a : Int) (w : World) (h : ¬ (0 ≤ a ∧ a < 991)) :
    Calls Tryz.prog 104 #[.int .i64 a] w fun e w' => e = .returned (.bool false) ∧ w = w' := by
  go_enter Tryz.func104, Tryz.ntmps104
  go_wp2_with fail
  refine (in_no _ _ _ _ (by omega)).mono ?_
  rintro e w' ⟨rfl, rfl⟩
  go_wp2
  go_ret
  exact ⟨rfl, rfl⟩

set_option maxHeartbeats 400000 in
theorem with_any (a b : Int) (w : World) (h0 : 0 ≤ a) (h1 : a < 991) (h2 : 0 ≤ b) (h3 : b < 991) :
    Calls Tryz.prog 172 #[.int .i64 a, .int .i64 b] w fun e w' => e = .returned (.int .i64 (pairZ a b)) ∧ w = w' := by
  go_enter Tryz.func172, Tryz.ntmps172
  go_wp2
  go_ret
  exact ⟨ret_int (by unfold pairZ; omega), rfl⟩

set_option maxHeartbeats 400000 in
theorem spair1_any (a b : Int) (w : World) (h0 : 0 ≤ a) (h1 : a < 991) (h2 : 0 ≤ b) (h3 : b < 991) :
    Calls Tryz.prog 150 #[.int .i64 a, .int .i64 b] w fun e w' => e = .returned (.int .i64 (pairZ a b)) ∧ w = w' := by
  go_enter Tryz.func150, Tryz.ntmps150
  go_wp2
  go_ret
  exact ⟨ret_int (by unfold pairZ; omega), rfl⟩

theorem pairZ_bd (a b : Int) : 0 ≤ pairZ a b ∧ pairZ a b < 991 := by unfold pairZ; omega
theorem pairZ_left (a x b : Int) (h : 0 ≤ a ∧ a < 991) (k : 0 ≤ x ∧ x < 991) (e : pairZ x b = pairZ a b) : x = a := by unfold pairZ at e; omega
theorem pairZ_right (a b y : Int) (h : 0 ≤ b ∧ b < 991) (k : 0 ≤ y ∧ y < 991) (e : pairZ a y = pairZ a b) : y = b := by unfold pairZ at e; omega
theorem pairZ_swap (a b : Int) (h : 0 ≤ a ∧ a < 991) (k : 0 ≤ b ∧ b < 991) (e : pairZ b a = pairZ a b) : a = b := by unfold pairZ at e; omega

end Go.Proofs.YtkmebilhbjcfpaaGreat

namespace Go.Proofs.YtkmebilhbjcfpaaGreat

/-! Sizes and places -/

def sizeGo : Nat → Nat → Nat → Nat → Nat
  | 0, _, _, s => s
  | f + 1, at_, room, s => if at_ % (2 * s) = 0 ∧ 2 * s ≤ room then sizeGo f at_ room (2 * s) else s
def sizeAt (at_ room : Nat) : Nat := sizeGo 5 at_ room 1

theorem sizeGo_step {f a r s : Nat} (h : a % (2 * s) = 0 ∧ 2 * s ≤ r) : sizeGo (f + 1) a r s = sizeGo f a r (2 * s) := by
  show (if _ then _ else _) = _
  rw [if_pos h]
theorem sizeGo_stop {f a r s : Nat} (h : ¬ (a % (2 * s) = 0 ∧ 2 * s ≤ r)) : sizeGo (f + 1) a r s = s := by
  show (if _ then _ else _) = _
  rw [if_neg h]

def placesGo : Nat → Nat → Nat → List (Nat × Nat)
  | 0, _, _ => []
  | f + 1, s, n => if s < n then (s, sizeAt s (n - s)) :: placesGo f (s + sizeAt s (n - s)) n else []
def places (s n : Nat) : List (Nat × Nat) := placesGo 17 s n
def sizesOf (s n : Nat) : List Nat := (places s n).map (·.2)

theorem sizeGo_pos : ∀ f a r s, 1 ≤ s → 1 ≤ sizeGo f a r s := by
  intro f
  induction f with
  | zero => intro a r s h; exact h
  | succ f ih =>
    intro a r s h
    by_cases c : a % (2 * s) = 0 ∧ 2 * s ≤ r
    · rw [sizeGo_step c]; exact ih _ _ _ (by omega)
    · rw [sizeGo_stop c]; exact h
theorem sizeAt_pos (a r : Nat) : 1 ≤ sizeAt a r := sizeGo_pos 5 a r 1 (by omega)
theorem sizeGo_le : ∀ f a r s, s ≤ r → sizeGo f a r s ≤ r := by
  intro f
  induction f with
  | zero => intro a r s h; exact h
  | succ f ih =>
    intro a r s h
    by_cases c : a % (2 * s) = 0 ∧ 2 * s ≤ r
    · rw [sizeGo_step c]; exact ih _ _ _ (by omega)
    · rw [sizeGo_stop c]; exact h
theorem sizeAt_le (a r : Nat) (h : 1 ≤ r) : sizeAt a r ≤ r := sizeGo_le 5 a r 1 h
/-- Each size is a power of two. -/
theorem sizeGo_pow : ∀ f a r k, ∃ d, k ≤ d ∧ d ≤ k + f ∧ sizeGo f a r (2 ^ k) = 2 ^ d := by
  intro f
  induction f with
  | zero => intro a r k; exact ⟨k, Nat.le_refl _, by omega, rfl⟩
  | succ f ih =>
    intro a r k
    by_cases c : a % (2 * 2 ^ k) = 0 ∧ 2 * 2 ^ k ≤ r
    · rw [sizeGo_step c]
      obtain ⟨d, h1, h2, h3⟩ := ih a r (k + 1)
      rw [Nat.pow_succ, Nat.mul_comm] at h3
      exact ⟨d, by omega, by omega, h3⟩
    · rw [sizeGo_stop c]; exact ⟨k, Nat.le_refl _, by omega, rfl⟩
theorem sizeAt_pow (a r : Nat) (h : 1 ≤ r) (h16 : r ≤ 16) : ∃ d, d ≤ 4 ∧ sizeAt a r = 2 ^ d := by
  obtain ⟨d, _, hd, e⟩ := sizeGo_pow 5 a r 0
  have hle := sizeAt_le a r h
  unfold sizeAt at hle ⊢
  rw [show (1 : Nat) = 2 ^ 0 from rfl] at hle ⊢
  rw [e] at hle ⊢
  refine ⟨d, ?_, rfl⟩
  rcases Nat.lt_or_ge 4 d with h5 | h5
  · have : (2 : Nat) ^ 5 ≤ 2 ^ d := Nat.pow_le_pow_right (by omega) (by omega)
    omega
  · exact h5

/-! Functions of trees over any kind of digests -/
section
variable {α : Type} (pr : α → α → α) (z : α)

def rootG : Nat → List α → α
  | 0, l => l.headD z
  | f + 1, l => if l.length ≤ 1 then l.headD z else pr (rootG f (l.take (l.length / 2))) (rootG f (l.drop (l.length / 2)))
def segG (l : List α) (s k : Nat) : List α := (l.drop s).take k
def coverP (l : List α) (ps : List (Nat × Nat)) : List α := ps.map fun p => rootG pr z 4 (segG l p.1 p.2)
def coverG (l : List α) (s : Nat) : List α := coverP pr z l (places s l.length)
def foldG (n : α) (peaks : List α) : α := peaks.foldl pr n

/-- The siblings as the program finds them. -/
def sibG : Nat → List α → Nat → List α
  | 0, _, _ => []
  | d + 1, l, i => if i &&& 2 ^ d = 0 then sibG d (l.take (2 ^ d)) i ++ [rootG pr z 4 (l.drop (2 ^ d))] else sibG d (l.drop (2 ^ d)) i ++ [rootG pr z 4 (l.take (2 ^ d))]
end

def placeGo : List Nat → Nat → Nat
  | [], _ => 0
  | s :: ss, i => if s ≤ i then placeGo ss (i - s) + 1 else 0
/-- Which peak has the leaf. -/
def placeOf (n i : Nat) : Nat := placeGo (sizesOf 0 n) i
def peakOf (n i : Nat) : Nat × Nat := (places 0 n).getD (placeOf n i) (0, 1)
def depthOf (n i : Nat) : Nat := (peakOf n i).2.log2
/-- How many digests a proof has. -/
def proofLen (n i : Nat) : Nat := depthOf n i + (sizesOf 0 n).length - 1

section
variable {α : Type} (pr : α → α → α) (z : α)
def proofG (l : List α) (i : Nat) : List α :=
  sibG pr z (depthOf l.length i) (segG l (peakOf l.length i).1 (peakOf l.length i).2) i ++ (coverG pr z l 0).eraseIdx (placeOf l.length i)

/-- The siblings as the model finds them. -/
def sibAt (i step : Nat) : Nat := if i / step * step / step % 2 = 0 then i / step * step + step else i / step * step - step
def sibSGo (l : List α) (i size : Nat) : Nat → Nat → List α
  | 0, _ => []
  | f + 1, step => if step < size then rootG pr z 4 (segG l (sibAt i step) step) :: sibSGo l i size f (2 * step) else []
def proofS (l : List α) (i : Nat) : List α :=
  sibSGo pr z l i (peakOf l.length i).2 5 1 ++ coverP pr z l ((places 0 l.length).filter fun p => p.1 != (peakOf l.length i).1)

/-- The root above a leaf, as the program climbs. -/
def climbG : List α → Nat → Nat → α → α
  | [], _, _, t => t
  | r :: rs, size, i, t => climbG rs (2 * size) i (if i &&& size = 0 then pr t r else pr r t)
def checkG (n0 : α) (n i : Nat) (leaf : α) (proof : List α) : α :=
  foldG pr n0 ((proof.drop (depthOf n i)).insertIdx (placeOf n i) (climbG pr (proof.take (depthOf n i)) 1 i leaf))

/-- The root above a leaf, as the model climbs; none where the proof ends too early. -/
def climbS (i size : Nat) : Nat → Nat → α → List α → Option (α × List α)
  | 0, _, t, ps => some (t, ps)
  | f + 1, step, t, ps => if step < size then match ps with
      | [] => none
      | p :: ps => climbS i size f (2 * step) (if i / step % 2 = 0 then pr t p else pr p t) ps
    else some (t, ps)
def outS (at_ : Nat) (root : α) : List (Nat × Nat) → α → List α → Option (α × List α)
  | [], out, ps => some (out, ps)
  | k :: ks, out, ps => if k.1 = at_ then outS at_ root ks (pr out root) ps else match ps with
      | [] => none
      | p :: ps => outS at_ root ks (pr out p) ps
def checkS (n0 : α) (n i : Nat) (leaf : α) (proof : List α) : Option (α × List α) :=
  (climbS pr i (peakOf n i).2 5 1 leaf proof).bind fun r => outS pr (peakOf n i).1 r.1 (places 0 n) n0 r.2

/-- The proof of growth. -/
def growthG (l : List α) (m : Nat) : List α := coverG pr z (l.take m) 0 ++ coverG pr z l m

/-- A tree is laid on a stack of trees (its top in front), as the program does it. -/
def pushG : List (Nat × α) → Nat → α → List (Nat × α)
  | [], s, t => [(s, t)]
  | (s', t') :: st, s, t => if s' = s then pushG st (s' + s) (pr t' t) else (s, t) :: (s', t') :: st
def mergeGo : List (Nat × α) → List (Nat × α) → List (Nat × α)
  | st, [] => st
  | st, (s, t) :: ts => mergeGo (pushG pr st s t) ts
def mergeG (sizes : List Nat) (roots : List α) : List α := ((mergeGo pr [] (sizes.zip roots)).map (·.2)).reverse

/-- The same as the model does it: at_ is where the tree ends. -/
def pushS (at_ : Nat) : List (Nat × α) → Nat → α → List (Nat × α)
  | [], s, t => [(s, t)]
  | (s', t') :: st, s, t => if s' = s ∧ (at_ - 2 * s) % (2 * s) = 0 then pushS at_ st (2 * s) (pr t' t) else (s, t) :: (s', t') :: st
def mergeSGo : Nat → List (Nat × α) → List (Nat × α) → List (Nat × α)
  | _, st, [] => st
  | at_, st, (s, t) :: ts => mergeSGo (at_ + s) (pushS pr (at_ + s) st s t) ts
def mergeS (sizes : List Nat) (roots : List α) : List α := ((mergeSGo pr 0 [] (sizes.zip roots)).map (·.2)).reverse
def growSizes (m n : Nat) : List Nat := sizesOf 0 m ++ sizesOf m n
end

/-! What is computed from digests is computed from their names alike -/
section
variable {α β : Type} {pr : α → α → α} {pr' : β → β → β} {z : α} {z' : β} {h : α → β}

theorem headD_map (hz : h z = z') (l : List α) : (l.map h).headD z' = h (l.headD z) := by
  cases l with
  | nil => exact hz.symm
  | cons a l => rfl
theorem rootG_map (hp : ∀ a b, h (pr a b) = pr' (h a) (h b)) (hz : h z = z') : ∀ f (l : List α), rootG pr' z' f (l.map h) = h (rootG pr z f l) := by
  intro f
  induction f with
  | zero => intro l; exact headD_map hz l
  | succ f ih =>
    intro l
    unfold rootG
    rw [List.length_map]
    by_cases c : l.length ≤ 1
    · rw [if_pos c, if_pos c]; exact headD_map hz l
    · rw [if_neg c, if_neg c, hp, ← ih, ← ih, List.map_take, List.map_drop]
theorem segG_map (l : List α) (s k : Nat) : segG (l.map h) s k = (segG l s k).map h := by
  unfold segG; rw [List.map_take, List.map_drop]
theorem coverP_map (hp : ∀ a b, h (pr a b) = pr' (h a) (h b)) (hz : h z = z') (l : List α) (ps : List (Nat × Nat)) : coverP pr' z' (l.map h) ps = (coverP pr z l ps).map h := by
  unfold coverP
  rw [List.map_map]
  refine List.map_congr_left fun p _ => ?_
  rw [segG_map, rootG_map hp hz]; rfl
theorem coverG_map (hp : ∀ a b, h (pr a b) = pr' (h a) (h b)) (hz : h z = z') (l : List α) (s : Nat) : coverG pr' z' (l.map h) s = (coverG pr z l s).map h := by
  unfold coverG; rw [List.length_map, coverP_map hp hz]
theorem foldG_map (hp : ∀ a b, h (pr a b) = pr' (h a) (h b)) : ∀ (l : List α) (n : α), foldG pr' (h n) (l.map h) = h (foldG pr n l) := by
  intro l
  induction l with
  | nil => intro n; rfl
  | cons a l ih => intro n; show foldG pr' (pr' (h n) (h a)) (l.map h) = _; rw [← hp]; exact ih _
theorem sibG_map (hp : ∀ a b, h (pr a b) = pr' (h a) (h b)) (hz : h z = z') : ∀ d (l : List α) (i : Nat), sibG pr' z' d (l.map h) i = (sibG pr z d l i).map h := by
  intro d
  induction d with
  | zero => intro l i; rfl
  | succ d ih =>
    intro l i
    unfold sibG
    by_cases c : i &&& 2 ^ d = 0
    · rw [if_pos c, if_pos c, List.map_append, ← ih, ← List.map_take, ← List.map_drop, rootG_map hp hz]; rfl
    · rw [if_neg c, if_neg c, List.map_append, ← ih, ← List.map_take, ← List.map_drop, rootG_map hp hz]; rfl
theorem eraseIdx_map : ∀ (l : List α) (k : Nat), (l.map h).eraseIdx k = (l.eraseIdx k).map h := by
  intro l
  induction l with
  | nil => intro k; rfl
  | cons a l ih =>
    intro k
    cases k with
    | zero => rfl
    | succ k => show h a :: (l.map h).eraseIdx k = _; rw [ih]; rfl
theorem insertIdx_map : ∀ (l : List α) (k : Nat) (a : α), (l.map h).insertIdx k (h a) = (l.insertIdx k a).map h := by
  intro l
  induction l with
  | nil => intro k a; cases k <;> rfl
  | cons b l ih =>
    intro k a
    cases k with
    | zero => rfl
    | succ k => rw [List.insertIdx_succ_cons, List.map_cons, List.insertIdx_succ_cons, ih]; rfl
theorem proofG_map (hp : ∀ a b, h (pr a b) = pr' (h a) (h b)) (hz : h z = z') (l : List α) (i : Nat) : proofG pr' z' (l.map h) i = (proofG pr z l i).map h := by
  unfold proofG
  rw [List.length_map, segG_map, sibG_map hp hz, coverG_map hp hz, eraseIdx_map, List.map_append]
theorem sibSGo_map (hp : ∀ a b, h (pr a b) = pr' (h a) (h b)) (hz : h z = z') (l : List α) (i size : Nat) : ∀ f step, sibSGo pr' z' (l.map h) i size f step = (sibSGo pr z l i size f step).map h := by
  intro f
  induction f with
  | zero => intro step; rfl
  | succ f ih =>
    intro step
    unfold sibSGo
    by_cases c : step < size
    · rw [if_pos c, if_pos c, List.map_cons, ← ih, segG_map, rootG_map hp hz]
    · rw [if_neg c, if_neg c]; rfl
theorem proofS_map (hp : ∀ a b, h (pr a b) = pr' (h a) (h b)) (hz : h z = z') (l : List α) (i : Nat) : proofS pr' z' (l.map h) i = (proofS pr z l i).map h := by
  unfold proofS
  rw [List.length_map, sibSGo_map hp hz, coverP_map hp hz, List.map_append]
theorem climbG_map (hp : ∀ a b, h (pr a b) = pr' (h a) (h b)) : ∀ (l : List α) (s i : Nat) (t : α), climbG pr' (l.map h) s i (h t) = h (climbG pr l s i t) := by
  intro l
  induction l with
  | nil => intro s i t; rfl
  | cons r l ih =>
    intro s i t
    show climbG pr' (l.map h) (2 * s) i (if i &&& s = 0 then pr' (h t) (h r) else pr' (h r) (h t)) = h (climbG pr l (2 * s) i (if i &&& s = 0 then pr t r else pr r t))
    by_cases c : i &&& s = 0
    · rw [if_pos c, if_pos c, ← hp, ih]
    · rw [if_neg c, if_neg c, ← hp, ih]
theorem checkG_map (hp : ∀ a b, h (pr a b) = pr' (h a) (h b)) (n0 : α) (n i : Nat) (leaf : α) (proof : List α) : checkG pr' (h n0) n i (h leaf) (proof.map h) = h (checkG pr n0 n i leaf proof) := by
  unfold checkG
  rw [← List.map_take, ← List.map_drop, climbG_map hp, insertIdx_map, foldG_map hp]
theorem climbS_map (hp : ∀ a b, h (pr a b) = pr' (h a) (h b)) (i size : Nat) : ∀ f step (t : α) (ps : List α), climbS pr' i size f step (h t) (ps.map h) = (climbS pr i size f step t ps).map fun r => (h r.1, r.2.map h) := by
  intro f
  induction f with
  | zero => intro step t ps; rfl
  | succ f ih =>
    intro step t ps
    unfold climbS
    by_cases c : step < size
    · rw [if_pos c, if_pos c]
      cases ps with
      | nil => rfl
      | cons p ps =>
        show climbS pr' i size f (2 * step) (if i / step % 2 = 0 then pr' (h t) (h p) else pr' (h p) (h t)) (ps.map h) = Option.map _ (climbS pr i size f (2 * step) (if i / step % 2 = 0 then pr t p else pr p t) ps)
        by_cases c2 : i / step % 2 = 0
        · rw [if_pos c2, if_pos c2, ← hp, ih]
        · rw [if_neg c2, if_neg c2, ← hp, ih]
    · rw [if_neg c, if_neg c]; rfl
theorem outS_map (hp : ∀ a b, h (pr a b) = pr' (h a) (h b)) (at_ : Nat) (root : α) : ∀ (ks : List (Nat × Nat)) (out : α) (ps : List α), outS pr' at_ (h root) ks (h out) (ps.map h) = (outS pr at_ root ks out ps).map fun r => (h r.1, r.2.map h) := by
  intro ks
  induction ks with
  | nil => intro out ps; rfl
  | cons k ks ih =>
    intro out ps
    unfold outS
    by_cases c : k.1 = at_
    · rw [if_pos c, if_pos c, ← hp, ih]
    · rw [if_neg c, if_neg c]
      cases ps with
      | nil => rfl
      | cons p ps => show outS pr' at_ (h root) ks (pr' (h out) (h p)) (ps.map h) = _; rw [← hp, ih]
theorem checkS_map (hp : ∀ a b, h (pr a b) = pr' (h a) (h b)) (n0 : α) (n i : Nat) (leaf : α) (proof : List α) : checkS pr' (h n0) n i (h leaf) (proof.map h) = (checkS pr n0 n i leaf proof).map fun r => (h r.1, r.2.map h) := by
  unfold checkS
  rw [climbS_map hp]
  cases climbS pr i (peakOf n i).2 5 1 leaf proof with
  | none => rfl
  | some r => exact outS_map hp _ _ _ _ _
theorem growthG_map (hp : ∀ a b, h (pr a b) = pr' (h a) (h b)) (hz : h z = z') (l : List α) (m : Nat) : growthG pr' z' (l.map h) m = (growthG pr z l m).map h := by
  unfold growthG
  rw [← List.map_take, coverG_map hp hz, coverG_map hp hz, List.map_append]
def hp2 (h : α → β) (st : List (Nat × α)) : List (Nat × β) := st.map fun x => (x.1, h x.2)
theorem pushG_map (hp : ∀ a b, h (pr a b) = pr' (h a) (h b)) : ∀ (st : List (Nat × α)) (s : Nat) (t : α), pushG pr' (hp2 h st) s (h t) = hp2 h (pushG pr st s t) := by
  intro st
  induction st with
  | nil => intro s t; rfl
  | cons x st ih =>
    intro s t
    obtain ⟨s', t'⟩ := x
    show (if s' = s then pushG pr' (hp2 h st) (s' + s) (pr' (h t') (h t)) else (s, h t) :: (s', h t') :: hp2 h st) = hp2 h (if s' = s then pushG pr st (s' + s) (pr t' t) else (s, t) :: (s', t') :: st)
    by_cases c : s' = s
    · rw [if_pos c, if_pos c, ← hp, ih]
    · rw [if_neg c, if_neg c]; rfl
theorem mergeGo_map (hp : ∀ a b, h (pr a b) = pr' (h a) (h b)) : ∀ (ts st : List (Nat × α)), mergeGo pr' (hp2 h st) (hp2 h ts) = hp2 h (mergeGo pr st ts) := by
  intro ts
  induction ts with
  | nil => intro st; cases st <;> rfl
  | cons x ts ih =>
    intro st
    obtain ⟨s, t⟩ := x
    show mergeGo pr' (pushG pr' (hp2 h st) s (h t)) (hp2 h ts) = hp2 h (mergeGo pr (pushG pr st s t) ts)
    rw [pushG_map hp, ih]
theorem pushS_map (hp : ∀ a b, h (pr a b) = pr' (h a) (h b)) (at_ : Nat) : ∀ (st : List (Nat × α)) (s : Nat) (t : α), pushS pr' at_ (hp2 h st) s (h t) = hp2 h (pushS pr at_ st s t) := by
  intro st
  induction st with
  | nil => intro s t; rfl
  | cons x st ih =>
    intro s t
    obtain ⟨s', t'⟩ := x
    show (if s' = s ∧ (at_ - 2 * s) % (2 * s) = 0 then pushS pr' at_ (hp2 h st) (2 * s) (pr' (h t') (h t)) else (s, h t) :: (s', h t') :: hp2 h st) = hp2 h (if s' = s ∧ (at_ - 2 * s) % (2 * s) = 0 then pushS pr at_ st (2 * s) (pr t' t) else (s, t) :: (s', t') :: st)
    by_cases c : s' = s ∧ (at_ - 2 * s) % (2 * s) = 0
    · rw [if_pos c, if_pos c, ← hp, ih]
    · rw [if_neg c, if_neg c]; rfl
theorem mergeSGo_map (hp : ∀ a b, h (pr a b) = pr' (h a) (h b)) : ∀ (ts st : List (Nat × α)) (at_ : Nat), mergeSGo pr' at_ (hp2 h st) (hp2 h ts) = hp2 h (mergeSGo pr at_ st ts) := by
  intro ts
  induction ts with
  | nil => intro st at_; cases st <;> rfl
  | cons x ts ih =>
    intro st at_
    obtain ⟨s, t⟩ := x
    show mergeSGo pr' (at_ + s) (pushS pr' (at_ + s) (hp2 h st) s (h t)) (hp2 h ts) = hp2 h (mergeSGo pr (at_ + s) (pushS pr (at_ + s) st s t) ts)
    rw [pushS_map hp, ih]
theorem hp2_zip (h : α → β) : ∀ (ss : List Nat) (rs : List α), ss.zip (rs.map h) = hp2 h (ss.zip rs) := by
  intro ss
  induction ss with
  | nil => intro rs; rfl
  | cons s ss ih =>
    intro rs
    cases rs with
    | nil => rfl
    | cons r rs => show (s, h r) :: ss.zip (rs.map h) = (s, h r) :: hp2 h (ss.zip rs); rw [ih]
theorem hp2_snd (h : α → β) (l : List (Nat × α)) : (hp2 h l).map (·.2) = (l.map (·.2)).map h := by unfold hp2; rw [List.map_map, List.map_map]; rfl
theorem mergeG_map (hp : ∀ a b, h (pr a b) = pr' (h a) (h b)) (ss : List Nat) (rs : List α) : mergeG pr' ss (rs.map h) = (mergeG pr ss rs).map h := by
  unfold mergeG
  rw [hp2_zip, show ([] : List (Nat × β)) = hp2 h [] from rfl, mergeGo_map hp, hp2_snd, List.map_reverse]
theorem mergeS_map (hp : ∀ a b, h (pr a b) = pr' (h a) (h b)) (ss : List Nat) (rs : List α) : mergeS pr' ss (rs.map h) = (mergeS pr ss rs).map h := by
  unfold mergeS
  rw [hp2_zip, show ([] : List (Nat × β)) = hp2 h [] from rfl, mergeSGo_map hp, hp2_snd, List.map_reverse]
end

/-! Names of digests: a name is a list of numbers; one of at most one member is a variable -/
def tp (a b : List Nat) : List Nat := a.length :: 0 :: (a ++ b)
def evF (env : Nat → Int) : Nat → List Nat → Int
  | 0, l => env (l.headD 0)
  | f + 1, l => match l with
    | x :: _ :: r => pairZ (evF env f (r.take x)) (evF env f (r.drop x))
    | l => env (l.headD 0)
def ev (env : Nat → Int) (l : List Nat) : Int := evF env l.length l
theorem evF_fuel (env : Nat → Int) : ∀ f g l, l.length ≤ f → l.length ≤ g → evF env f l = evF env g l := by
  intro f
  induction f with
  | zero =>
    intro g l hf hg
    have : l = [] := List.eq_nil_of_length_eq_zero (by omega)
    subst this
    cases g <;> rfl
  | succ f ih =>
    intro g l hf hg
    cases g with
    | zero =>
      have : l = [] := List.eq_nil_of_length_eq_zero (by omega)
      subst this
      rfl
    | succ g =>
      match l with
      | [] => rfl
      | [x] => rfl
      | x :: y :: r =>
        show pairZ _ _ = pairZ _ _
        simp only [List.length_cons] at hf hg
        rw [ih g (r.take x) (by rw [List.length_take]; omega) (by rw [List.length_take]; omega), ih g (r.drop x) (by rw [List.length_drop]; omega) (by rw [List.length_drop]; omega)]
theorem ev_tp (env : Nat → Int) (a b : List Nat) : ev env (tp a b) = pairZ (ev env a) (ev env b) := by
  show pairZ (evF env _ ((a ++ b).take a.length)) (evF env _ ((a ++ b).drop a.length)) = _
  rw [List.take_left, List.drop_left]
  unfold ev
  rw [evF_fuel env _ a.length a (by simp; omega) (Nat.le_refl _), evF_fuel env _ b.length b (by simp; omega) (Nat.le_refl _)]
theorem ev_var (env : Nat → Int) (k : Nat) : ev env [k] = env k := rfl

/-- How often a variable stands in a name. -/
def cntF (k : Nat) : Nat → List Nat → Nat
  | 0, l => if l.headD 0 = k then 1 else 0
  | f + 1, l => match l with
    | x :: _ :: r => cntF k f (r.take x) + cntF k f (r.drop x)
    | l => if l.headD 0 = k then 1 else 0
def cnt (k : Nat) (l : List Nat) : Nat := cntF k l.length l

theorem evF_bd (env : Nat → Int) (hb : ∀ k, 0 ≤ env k ∧ env k < 991) : ∀ f l, 0 ≤ evF env f l ∧ evF env f l < 991 := by
  intro f l
  cases f with
  | zero => exact hb _
  | succ f =>
    match l with
    | [] => exact hb _
    | [x] => exact hb _
    | x :: y :: r => exact pairZ_bd _ _
/-- One changed variable that stands once in a name changes its digest. -/
theorem evF_change (k : Nat) (e1 e2 : Nat → Int) (h1 : ∀ j, 0 ≤ e1 j ∧ e1 j < 991) (h2 : ∀ j, 0 ≤ e2 j ∧ e2 j < 991) (hk : e1 k ≠ e2 k) (ho : ∀ j, j ≠ k → e1 j = e2 j) :
    ∀ f l, (cntF k f l = 0 → evF e1 f l = evF e2 f l) ∧ (cntF k f l = 1 → evF e1 f l ≠ evF e2 f l) := by
  have leaf : ∀ j : Nat, ((if j = k then 1 else 0) = 0 → e1 j = e2 j) ∧ ((if j = k then 1 else 0) = 1 → e1 j ≠ e2 j) := by
    intro j
    by_cases c : j = k
    · subst c; simp [hk]
    · simp [c, ho j c]
  intro f
  induction f with
  | zero => intro l; exact leaf _
  | succ f ih =>
    intro l
    match l with
    | [] => exact leaf _
    | [x] => exact leaf _
    | x :: y :: r =>
      obtain ⟨a0, a1⟩ := ih (r.take x)
      obtain ⟨b0, b1⟩ := ih (r.drop x)
      show (cntF k f (r.take x) + cntF k f (r.drop x) = 0 → pairZ _ _ = pairZ _ _) ∧ (cntF k f (r.take x) + cntF k f (r.drop x) = 1 → pairZ _ _ ≠ pairZ _ _)
      refine ⟨fun h => by rw [a0 (by omega), b0 (by omega)], fun h => ?_⟩
      by_cases c : cntF k f (r.take x) = 0
      · rw [a0 c]
        exact fun e => b1 (by omega) (pairZ_right _ _ _ (evF_bd e2 h2 _ _) (evF_bd e1 h1 _ _) e)
      · rw [b0 (by omega)]
        exact fun e => a1 (by omega) (pairZ_left _ _ _ (evF_bd e2 h2 _ _) (evF_bd e1 h1 _ _) e)

/-- The names of n leaves: the variables 1 to n; variable 0 is the number 0, variable 50 a leaf, and variable 99 is the number of leaves. -/
def vars (n : Nat) : List (List Nat) := (List.range n).map fun k => [k + 1]
def envOf (n0 lf : Int) (l : List Int) (k : Nat) : Int := if k = 99 then n0 else if k = 50 then lf else if k = 0 then 0 else l.getD (k - 1) 0
theorem envOf_at (n0 lf : Int) (l : List Int) (i : Nat) (h : i < 40) : envOf n0 lf l (i + 1) = l.getD i 0 := by
  unfold envOf
  rw [if_neg (by omega), if_neg (by omega), if_neg (by omega), Nat.add_sub_cancel]
theorem vars_ev (n0 lf : Int) (l : List Int) (h : l.length ≤ 40) : (vars l.length).map (ev (envOf n0 lf l)) = l := by
  unfold vars
  rw [List.map_map]
  apply List.ext_getElem
  · simp
  · intro i h1 h2
    simp only [List.getElem_map, List.getElem_range, Function.comp]
    show envOf n0 lf l (i + 1) = l[i]
    have h3 : i < l.length := by simpa using h2
    rw [envOf_at _ _ _ _ (by omega), List.getD_eq_getElem?_getD, List.getElem?_eq_getElem h3]
    rfl
theorem env0 (n0 lf : Int) (l : List Int) : ev (envOf n0 lf l) [] = 0 := rfl
theorem env50 (n0 lf : Int) (l : List Int) : ev (envOf n0 lf l) [50] = lf := rfl
theorem env99 (n0 lf : Int) (l : List Int) : ev (envOf n0 lf l) [99] = n0 := rfl
def Dig (x : Int) : Prop := 0 ≤ x ∧ x < 991
def Digs (l : List Int) : Prop := ∀ x ∈ l, Dig x
theorem envOf_bd {n0 lf : Int} {l : List Int} (h0 : Dig n0) (hf : Dig lf) (hl : Digs l) (k : Nat) : 0 ≤ envOf n0 lf l k ∧ envOf n0 lf l k < 991 := by
  unfold envOf
  split
  · exact h0
  · split
    · exact hf
    · split
      · omega
      · rw [List.getD_eq_getElem?_getD]
        cases e : l[k - 1]? with
        | none => simp
        | some x => exact hl x (List.mem_of_getElem? e)
theorem envOf_set (n0 lf : Int) (l : List Int) (k : Nat) (y : Int) (j : Nat) (hj : j ≠ k + 1) : envOf n0 lf l j = envOf n0 lf (l.set k y) j := by
  unfold envOf
  split
  · rfl
  · split
    · rfl
    · split
      · rfl
      · rw [List.getD_eq_getElem?_getD, List.getD_eq_getElem?_getD, List.getElem?_set_ne (by omega)]

/-! What a look at all numbers of leaves decides -/
def nums (n : Nat) : List Nat := List.range n
def allN (P : Nat → Bool) : Bool := (List.range 17).all P
def allNI (P : Nat → Nat → Bool) : Bool := (List.range 17).all fun n => (List.range n).all fun i => P n i
def allMN (P : Nat → Nat → Bool) : Bool := (List.range 17).all fun n => (List.range (n + 1)).all fun m => P m n
theorem allN_get {P : Nat → Bool} (h : allN P = true) {n : Nat} (hn : n ≤ 16) : P n = true := by
  unfold allN at h; rw [List.all_eq_true] at h; exact h n (List.mem_range.2 (by omega))
theorem allNI_get {P : Nat → Nat → Bool} (h : allNI P = true) {n i : Nat} (hn : n ≤ 16) (hi : i < n) : P n i = true := by
  unfold allNI at h; rw [List.all_eq_true] at h
  have := h n (List.mem_range.2 (by omega))
  rw [List.all_eq_true] at this
  exact this i (List.mem_range.2 hi)
theorem allMN_get {P : Nat → Nat → Bool} (h : allMN P = true) {m n : Nat} (hn : n ≤ 16) (hm : m ≤ n) : P m n = true := by
  unfold allMN at h; rw [List.all_eq_true] at h
  have := h n (List.mem_range.2 (by omega))
  rw [List.all_eq_true] at this
  exact this m (List.mem_range.2 (by omega))

theorem look_proof : allNI (fun n i => decide (proofG tp [] (vars n) i = proofS tp [] (vars n) i) && decide ((proofG tp [] (vars n) i).length = proofLen n i) && decide (proofLen n i ≤ 6)) = true := by decide +kernel
theorem look_check : allNI (fun n i => decide (checkS tp [99] n i [50] (vars (proofLen n i)) = some (checkG tp [99] n i [50] (vars (proofLen n i)), []))) = true := by decide +kernel
theorem look_once : allNI (fun n i => decide (cnt 50 (checkG tp [99] n i [50] (vars (proofLen n i))) = 1) && (List.range (proofLen n i)).all fun k => decide (cnt (k + 1) (checkG tp [99] n i [50] (vars (proofLen n i))) = 1)) = true := by decide +kernel
theorem look_accept : allNI (fun n i => decide (checkG tp [99] n i [i + 1] (proofG tp [] (vars n) i) = foldG tp [99] (coverG tp [] (vars n) 0))) = true := by decide +kernel
theorem look_leaf : allNI (fun n i => decide (cnt (i + 1) (foldG tp [99] (coverG tp [] (vars n) 0)) = 1)) = true := by decide +kernel
theorem look_merge : allMN (fun m n => decide (mergeG tp (growSizes m n) (vars (growSizes m n).length) = mergeS tp (growSizes m n) (vars (growSizes m n).length))) = true := by decide +kernel
theorem look_grow : allMN (fun m n => decide ((growthG tp [] (vars n) m).length = (growSizes m n).length) && decide (mergeG tp (growSizes m n) (growthG tp [] (vars n) m) = coverG tp [] (vars n) 0) && decide ((growSizes m n).length ≤ 9)) = true := by decide +kernel
theorem look_growOnce : allMN (fun m n => (List.range (growSizes m n).length).all fun k => decide (cnt (k + 1) (foldG tp [99] (mergeG tp (growSizes m n) (vars (growSizes m n).length))) = 1)) = true := by decide +kernel


/-! The same over digests that are numbers -/
def rootZ (l : List Int) : Int := rootG pairZ 0 4 l
def coverZ (l : List Int) (s : Nat) : List Int := coverG pairZ 0 l s
def foldZ (n : Int) (l : List Int) : Int := foldG pairZ n l
def digestZ (l : List Int) : Int := foldZ l.length (coverZ l 0)
def proofZ (l : List Int) (i : Nat) : List Int := proofG pairZ 0 l i
def checkZ (n i : Nat) (leaf : Int) (proof : List Int) : Int := checkG pairZ n n i leaf proof
def growthZ (l : List Int) (m : Nat) : List Int := growthG pairZ 0 l m
def mergeZ (sizes : List Nat) (roots : List Int) : List Int := mergeG pairZ sizes roots

theorem coverG_ev (n0 lf : Int) (l : List Int) (h : l.length ≤ 40) (s : Nat) : coverG pairZ 0 l s = (coverG tp [] (vars l.length) s).map (ev (envOf n0 lf l)) := by
  have := coverG_map (pr := tp) (pr' := pairZ) (z := []) (z' := 0) (ev_tp (envOf n0 lf l)) (env0 n0 lf l) (vars l.length) s
  rw [vars_ev n0 lf l h] at this
  exact this
theorem coverG_takeEv (n0 lf : Int) (l : List Int) (h : l.length ≤ 40) (m s : Nat) : coverG pairZ 0 (l.take m) s = (coverG tp [] ((vars l.length).take m) s).map (ev (envOf n0 lf l)) := by
  have := coverG_map (pr := tp) (pr' := pairZ) (z := []) (z' := 0) (ev_tp (envOf n0 lf l)) (env0 n0 lf l) ((vars l.length).take m) s
  rw [List.map_take, vars_ev n0 lf l h] at this
  exact this
theorem coverG_dropEv (n0 lf : Int) (l : List Int) (h : l.length ≤ 40) (m s : Nat) : coverG pairZ 0 (l.drop m) s = (coverG tp [] ((vars l.length).drop m) s).map (ev (envOf n0 lf l)) := by
  have := coverG_map (pr := tp) (pr' := pairZ) (z := []) (z' := 0) (ev_tp (envOf n0 lf l)) (env0 n0 lf l) ((vars l.length).drop m) s
  rw [List.map_drop, vars_ev n0 lf l h] at this
  exact this
theorem foldG_ev (n0 lf : Int) (l : List Int) (ts : List (List Nat)) : foldG pairZ n0 (ts.map (ev (envOf n0 lf l))) = ev (envOf n0 lf l) (foldG tp [99] ts) :=
  foldG_map (ev_tp (envOf n0 lf l)) ts [99]
theorem proofG_ev (n0 lf : Int) (l : List Int) (h : l.length ≤ 40) (i : Nat) : proofG pairZ 0 l i = (proofG tp [] (vars l.length) i).map (ev (envOf n0 lf l)) := by
  have := proofG_map (pr := tp) (pr' := pairZ) (z := []) (z' := 0) (ev_tp (envOf n0 lf l)) (env0 n0 lf l) (vars l.length) i
  rw [vars_ev n0 lf l h] at this
  exact this
theorem proofS_ev (n0 lf : Int) (l : List Int) (h : l.length ≤ 40) (i : Nat) : proofS pairZ 0 l i = (proofS tp [] (vars l.length) i).map (ev (envOf n0 lf l)) := by
  have := proofS_map (pr := tp) (pr' := pairZ) (z := []) (z' := 0) (ev_tp (envOf n0 lf l)) (env0 n0 lf l) (vars l.length) i
  rw [vars_ev n0 lf l h] at this
  exact this
theorem checkG_ev (n0 lf : Int) (l : List Int) (h : l.length ≤ 40) (n i : Nat) : checkG pairZ n0 n i lf l = ev (envOf n0 lf l) (checkG tp [99] n i [50] (vars l.length)) := by
  have := checkG_map (pr := tp) (pr' := pairZ) (ev_tp (envOf n0 lf l)) [99] n i [50] (vars l.length)
  rw [vars_ev n0 lf l h] at this
  exact this
theorem checkS_ev (n0 lf : Int) (l : List Int) (h : l.length ≤ 40) (n i : Nat) : checkS pairZ n0 n i lf l = (checkS tp [99] n i [50] (vars l.length)).map fun r => (ev (envOf n0 lf l) r.1, r.2.map (ev (envOf n0 lf l))) := by
  have := checkS_map (pr := tp) (pr' := pairZ) (ev_tp (envOf n0 lf l)) [99] n i [50] (vars l.length)
  rw [vars_ev n0 lf l h] at this
  exact this
theorem mergeG_ev (n0 lf : Int) (l : List Int) (h : l.length ≤ 40) (ss : List Nat) : mergeG pairZ ss l = (mergeG tp ss (vars l.length)).map (ev (envOf n0 lf l)) := by
  have := mergeG_map (pr := tp) (pr' := pairZ) (ev_tp (envOf n0 lf l)) ss (vars l.length)
  rw [vars_ev n0 lf l h] at this
  exact this
theorem mergeS_ev (n0 lf : Int) (l : List Int) (h : l.length ≤ 40) (ss : List Nat) : mergeS pairZ ss l = (mergeS tp ss (vars l.length)).map (ev (envOf n0 lf l)) := by
  have := mergeS_map (pr := tp) (pr' := pairZ) (ev_tp (envOf n0 lf l)) ss (vars l.length)
  rw [vars_ev n0 lf l h] at this
  exact this

theorem proof_same (l : List Int) (i : Nat) (h : l.length ≤ 16) (hi : i < l.length) : proofS pairZ 0 l i = proofZ l i := by
  have := allNI_get look_proof h hi
  simp only [Bool.and_eq_true, decide_eq_true_eq] at this
  unfold proofZ
  rw [proofS_ev 0 0 l (by omega), proofG_ev 0 0 l (by omega), this.1.1]
theorem proofZ_length (l : List Int) (i : Nat) (h : l.length ≤ 16) (hi : i < l.length) : (proofZ l i).length = proofLen l.length i := by
  have := allNI_get look_proof h hi
  simp only [Bool.and_eq_true, decide_eq_true_eq] at this
  unfold proofZ
  rw [proofG_ev 0 0 l (by omega), List.length_map, this.1.2]
theorem proofLen_le {n i : Nat} (h : n ≤ 16) (hi : i < n) : proofLen n i ≤ 6 := by
  have := allNI_get look_proof h hi
  simp only [Bool.and_eq_true, decide_eq_true_eq] at this
  exact this.2
theorem check_same (n i : Nat) (leaf : Int) (proof : List Int) (h : n ≤ 16) (hi : i < n) (hl : proof.length = proofLen n i) : checkS pairZ n n i leaf proof = some (checkZ n i leaf proof, []) := by
  have h6 := proofLen_le h hi
  have := allNI_get look_check h hi
  simp only [decide_eq_true_eq] at this
  unfold checkZ
  rw [checkS_ev n leaf proof (by omega), checkG_ev n leaf proof (by omega), hl, this]
  rfl
theorem climbS_length (i size : Nat) : ∀ f step (t : Int) (ps : List Int) (r : Int × List Int) , climbS pairZ i size f step t ps = some r → r.2.length + (sibSGo pairZ 0 [] i size f step).length = ps.length := by
  intro f
  induction f with
  | zero => intro step t ps r h; simp only [climbS, Option.some.injEq] at h; subst h; rfl
  | succ f ih =>
    intro step t ps r h
    unfold climbS at h
    unfold sibSGo
    by_cases c : step < size
    · rw [if_pos c] at h ⊢
      cases ps with
      | nil => cases h
      | cons p ps =>
        have := ih _ _ _ _ h
        simp only [List.length_cons]
        omega
    · rw [if_neg c] at h ⊢
      simp only [Option.some.injEq] at h; subst h; rfl
theorem outS_length (at_ : Nat) (root : Int) : ∀ (ks : List (Nat × Nat)) (out : Int) (ps : List Int) (r : Int × List Int), outS pairZ at_ root ks out ps = some r → r.2.length + (ks.filter fun p => p.1 != at_).length = ps.length := by
  intro ks
  induction ks with
  | nil => intro out ps r h; simp only [outS, Option.some.injEq] at h; subst h; rfl
  | cons k ks ih =>
    intro out ps r h
    unfold outS at h
    by_cases c : k.1 = at_
    · rw [if_pos c] at h
      have := ih _ _ _ h
      rw [List.filter_cons_of_neg (by simp [c])]
      exact this
    · rw [if_neg c] at h
      cases ps with
      | nil => cases h
      | cons p ps =>
        have := ih _ _ _ h
        rw [List.filter_cons_of_pos (by simp [c])]
        simp only [List.length_cons]
        omega
theorem look_len : allNI (fun n i => decide ((sibSGo (fun _ _ => ()) () [] i (peakOf n i).2 5 1).length + ((places 0 n).filter fun p => p.1 != (peakOf n i).1).length = proofLen n i)) = true := by decide +kernel
theorem sibSGo_length {α β : Type} (pr : α → α → α) (z : α) (pr' : β → β → β) (z' : β) (i size : Nat) : ∀ f step, (sibSGo pr z [] i size f step).length = (sibSGo pr' z' [] i size f step).length := by
  intro f
  induction f with
  | zero => intro step; rfl
  | succ f ih =>
    intro step
    unfold sibSGo
    by_cases c : step < size
    · rw [if_pos c, if_pos c, List.length_cons, List.length_cons, ih]
    · rw [if_neg c, if_neg c]; rfl
theorem check_short (n i : Nat) (leaf : Int) (proof : List Int) (h : n ≤ 16) (hi : i < n) (hl : proof.length ≠ proofLen n i) (out : Int) : checkS pairZ n n i leaf proof ≠ some (out, []) := by
  intro e
  have := allNI_get look_len h hi
  simp only [decide_eq_true_eq] at this
  unfold checkS at e
  cases c : climbS pairZ i (peakOf n i).2 5 1 leaf proof with
  | none => rw [c] at e; cases e
  | some r =>
    rw [c] at e
    have h1 := climbS_length _ _ _ _ _ _ _ c
    have h2 := outS_length _ _ _ _ _ _ e
    rw [sibSGo_length _ _ (fun _ _ => ()) ()] at h1
    simp only [List.length_nil] at h2
    omega
theorem accept (l : List Int) (i : Nat) (h : l.length ≤ 16) (hi : i < l.length) : checkZ l.length i (l.getD i 0) (proofZ l i) = digestZ l := by
  have := allNI_get look_accept h hi
  simp only [decide_eq_true_eq] at this
  unfold checkZ digestZ foldZ coverZ proofZ
  rw [coverG_ev l.length 0 l (by omega), foldG_ev, proofG_ev l.length 0 l (by omega), ← this]
  have e := checkG_map (pr := tp) (pr' := pairZ) (ev_tp (envOf l.length 0 l)) [99] l.length i [i + 1] (proofG tp [] (vars l.length) i)
  rw [env99, ev_var _ (i + 1), envOf_at _ _ _ i (by omega)] at e
  exact e
theorem Dig.nat {n : Nat} (h : n ≤ 16) : Dig (n : Int) := ⟨by omega, by omega⟩
theorem Dig.zero : Dig 0 := ⟨by omega, by omega⟩
theorem Digs.set {l : List Int} (h : Digs l) (k : Nat) {y : Int} (hy : Dig y) : Digs (l.set k y) := by
  intro x hx
  rcases List.mem_or_eq_of_mem_set hx with e | e
  · exact h x e
  · subst e; exact hy
theorem set_ne (n0 lf : Int) (l : List Int) (k : Nat) (y : Int) (hk : k < l.length) (h40 : l.length ≤ 40) (hy : l.getD k 0 ≠ y) : envOf n0 lf l (k + 1) ≠ envOf n0 lf (l.set k y) (k + 1) := by
  rw [envOf_at _ _ _ _ (by omega), envOf_at _ _ _ _ (by omega)]
  have : (l.set k y).getD k 0 = y := by rw [List.getD_eq_getElem?_getD, List.getElem?_set_self hk]; rfl
  rw [this]; exact hy
theorem digest_change (l : List Int) (k : Nat) (y : Int) (h : l.length ≤ 16) (hk : k < l.length) (hd : Digs l) (hy : Dig y) (hne : l.getD k 0 ≠ y) : digestZ (l.set k y) ≠ digestZ l := by
  have := allNI_get look_leaf h hk
  simp only [decide_eq_true_eq] at this
  unfold digestZ foldZ coverZ
  rw [coverG_ev l.length 0 l (by omega), foldG_ev, coverG_ev (l.set k y).length 0 (l.set k y) (by simp; omega), foldG_ev, List.length_set]
  exact fun e => (evF_change (k + 1) _ _ (envOf_bd (Dig.nat h) Dig.zero hd) (envOf_bd (Dig.nat h) Dig.zero (hd.set k hy)) (set_ne l.length 0 l k y hk (by omega) hne) (fun j hj => envOf_set l.length 0 l k y j hj) _ _).2 this e.symm
theorem check_leaf (n i : Nat) (x y : Int) (proof : List Int) (h : n ≤ 16) (hi : i < n) (hl : proof.length = proofLen n i) (hd : Digs proof) (hx : Dig x) (hy : Dig y) (hne : x ≠ y) : checkZ n i x proof ≠ checkZ n i y proof := by
  have h6 := proofLen_le h hi
  have := allNI_get look_once h hi
  simp only [Bool.and_eq_true, decide_eq_true_eq] at this
  unfold checkZ
  rw [checkG_ev n x proof (by omega), checkG_ev n y proof (by omega), hl]
  refine (evF_change 50 _ _ (envOf_bd (Dig.nat h) hx hd) (envOf_bd (Dig.nat h) hy hd) hne (fun j hj => ?_) _ _).2 this.1
  unfold envOf
  rw [if_neg hj, if_neg hj]
theorem check_change (n i k : Nat) (leaf y : Int) (proof : List Int) (h : n ≤ 16) (hi : i < n) (hl : proof.length = proofLen n i) (hk : k < proof.length) (hd : Digs proof) (hf : Dig leaf) (hy : Dig y) (hne : proof.getD k 0 ≠ y) : checkZ n i leaf (proof.set k y) ≠ checkZ n i leaf proof := by
  have h6 := proofLen_le h hi
  have := allNI_get look_once h hi
  simp only [Bool.and_eq_true, List.all_eq_true, List.mem_range, decide_eq_true_eq] at this
  unfold checkZ
  rw [checkG_ev n leaf proof (by omega), checkG_ev n leaf (proof.set k y) (by simp; omega), List.length_set, hl]
  exact fun e => (evF_change (k + 1) _ _ (envOf_bd (Dig.nat h) hf hd) (envOf_bd (Dig.nat h) hf (hd.set k hy)) (set_ne n leaf proof k y hk (by omega) hne) (fun j hj => envOf_set n leaf proof k y j hj) _ _).2 (this.2 k (by omega)) e.symm
theorem growSizes_le {m n : Nat} (h : n ≤ 16) (hm : m ≤ n) : (growSizes m n).length ≤ 9 := by
  have := allMN_get look_grow h hm
  simp only [Bool.and_eq_true, decide_eq_true_eq] at this
  exact this.2
theorem merge_same (m n : Nat) (rs : List Int) (h : n ≤ 16) (hm : m ≤ n) (hl : rs.length = (growSizes m n).length) : mergeS pairZ (growSizes m n) rs = mergeZ (growSizes m n) rs := by
  have h9 := growSizes_le h hm
  have := allMN_get look_merge h hm
  simp only [decide_eq_true_eq] at this
  unfold mergeZ
  rw [mergeS_ev 0 0 rs (by omega), mergeG_ev 0 0 rs (by omega), hl, this]
theorem growth_length (l : List Int) (m : Nat) (h : l.length ≤ 16) (hm : m ≤ l.length) : (growthZ l m).length = (growSizes m l.length).length := by
  have := allMN_get look_grow h hm
  simp only [Bool.and_eq_true, decide_eq_true_eq] at this
  have e := growthG_map (pr := tp) (pr' := pairZ) (z := []) (z' := 0) (ev_tp (envOf 0 0 l)) (env0 0 0 l) (vars l.length) m
  rw [vars_ev 0 0 l (by omega)] at e
  unfold growthZ
  rw [e, List.length_map, this.1.1]
theorem growth_merge (l : List Int) (m : Nat) (h : l.length ≤ 16) (hm : m ≤ l.length) : mergeZ (growSizes m l.length) (growthZ l m) = coverZ l 0 := by
  have := allMN_get look_grow h hm
  simp only [Bool.and_eq_true, decide_eq_true_eq] at this
  have e := growthG_map (pr := tp) (pr' := pairZ) (z := []) (z' := 0) (ev_tp (envOf 0 0 l)) (env0 0 0 l) (vars l.length) m
  rw [vars_ev 0 0 l (by omega)] at e
  unfold growthZ mergeZ coverZ
  rw [e, mergeG_map (ev_tp (envOf 0 0 l)), this.1.2, coverG_ev 0 0 l (by omega)]
theorem grow_change (m n k : Nat) (y : Int) (rs : List Int) (h : n ≤ 16) (hm : m ≤ n) (hl : rs.length = (growSizes m n).length) (hk : k < rs.length) (hd : Digs rs) (hy : Dig y) (hne : rs.getD k 0 ≠ y) :
    foldZ n (mergeZ (growSizes m n) (rs.set k y)) ≠ foldZ n (mergeZ (growSizes m n) rs) := by
  have h9 := growSizes_le h hm
  have := allMN_get look_growOnce h hm
  simp only [List.all_eq_true, List.mem_range, decide_eq_true_eq] at this
  unfold foldZ mergeZ
  rw [mergeG_ev n 0 rs (by omega), foldG_ev, mergeG_ev n 0 (rs.set k y) (by simp; omega), foldG_ev, List.length_set, hl]
  exact fun e => (evF_change (k + 1) _ _ (envOf_bd (Dig.nat h) Dig.zero hd) (envOf_bd (Dig.nat h) Dig.zero (hd.set k hy)) (set_ne n 0 rs k y hk (by omega) hne) (fun j hj => envOf_set n 0 rs k y j hj) _ _).2 (this k (by omega)) e.symm
theorem coverG_length (l : List Int) (s : Nat) : (coverZ l s).length = (sizesOf s l.length).length := by
  unfold coverZ coverG coverP sizesOf; rw [List.length_map, List.length_map]
theorem growth_first (l : List Int) (m : Nat) (hm : m ≤ l.length) : (growthZ l m).take (sizesOf 0 m).length = coverZ (l.take m) 0 := by
  have e : (coverZ (l.take m) 0).length = (sizesOf 0 m).length := by rw [coverG_length, List.length_take, Nat.min_eq_left hm]
  unfold growthZ growthG
  rw [← e]
  exact List.take_left

end Go.Proofs.YtkmebilhbjcfpaaGreat

namespace Go.Proofs.YtkmebilhbjcfpaaGreat
open Go.RowKit

abbrev i64 (n : Int) : Value := .int .i64 n
/-- The k-th number. -/
def nth (zs : List Int) (k : Nat) : Int := zs.getD k 0
theorem nth_eq (zs : List Int) (k : Nat) : nth zs k = zs.getD k 0 := rfl
def vals (zs : List Int) : List Value := zs.map i64
theorem vals_length (zs : List Int) : (vals zs).length = zs.length := List.length_map _
theorem vals_append (a b : List Int) : vals (a ++ b) = vals a ++ vals b := List.map_append
theorem vals_one (zs : List Int) : ∀ u ∈ vals zs, u.oneCell' = true := by
  intro u hu
  obtain ⟨z, _, rfl⟩ := List.mem_map.1 hu
  rfl
theorem vals_get (zs : List Int) (k : Nat) (h : k < zs.length) : (vals zs)[k]? = some (i64 (nth zs k)) := by
  unfold vals nth
  rw [List.getElem?_map, List.getElem?_eq_getElem h, List.getD_eq_getElem?_getD, List.getElem?_eq_getElem h]
  rfl

/-- The slice at A begins with the numbers zs; its cells lie below block B. -/
def IntsAt (w : World) (B : Nat) (A : Option Addr) (zs : List Int) : Prop :=
  0 < zs.length → ∃ b o, A = some ⟨b, o, none⟩ ∧ b < B ∧ ∀ k, k < zs.length → w.cell? ⟨b, o + k, none⟩ = some (.int .i64 (nth zs k))

section
variable {w w' : World} {B B' : Nat} {A : Option Addr} {zs : List Int}
theorem IntsAt.nil : IntsAt w B A [] := fun h => absurd h (by simp)
theorem IntsAt.at_ (h : IntsAt w B A zs) (hn : 0 < zs.length) : ∃ b o, A = some ⟨b, o, none⟩ ∧ b < B ∧ ∀ k, k < zs.length → w.cell? ⟨b, o + k, none⟩ = some (.int .i64 (nth zs k)) := h hn
theorem IntsAt.keep (h : IntsAt w B A zs) (hk : ∀ p : Addr, p.block < B → w'.cell? p = w.cell? p) : IntsAt w' B A zs := fun hn => by
  obtain ⟨b, o, e, hb, hc⟩ := h hn
  exact ⟨b, o, e, hb, fun k hk' => (hk _ hb).trans (hc k hk')⟩
theorem IntsAt.more (h : IntsAt w B A zs) (hB : B ≤ B') : IntsAt w B' A zs := fun hn => by
  obtain ⟨b, o, e, hb, hc⟩ := h hn
  exact ⟨b, o, e, by omega, hc⟩
theorem IntsAt.below {C : Nat} (h : IntsAt w B A zs) (hb : Below C w w') (hC : B ≤ C) : IntsAt w' B A zs := h.keep fun _ hp => hb.cell (by omega)
theorem IntsAt.drewN (h : IntsAt w B A zs) (k : Nat) : IntsAt (w.drewN k) B A zs := h
theorem IntsAt.alloc (h : IntsAt w B A zs) (hB : B ≤ w.heap.size) (o : Obj) : IntsAt (w.alloc o) B A zs := h.keep fun p hp => World.cell?_alloc_lt w o p (by omega)
theorem IntsAt.allocS (h : IntsAt w w.heap.size A zs) (o : Obj) : IntsAt (w.alloc o) (w.alloc o).heap.size A zs := (h.alloc (Nat.le_refl _) o).more (by simp)
theorem IntsAt.belowS (h : IntsAt w w.heap.size A zs) (hb : Below w.heap.size w w') : IntsAt w' w'.heap.size A zs := (h.below hb (Nat.le_refl _)).more hb.size
theorem IntsAt.grown {row : Option Nat} (h : IntsAt w B A zs) (hg : w.grownBy w' row) (hB : B ≤ w.heap.size) (hr : ∀ g, row = some g → B ≤ g) : IntsAt w' B A zs :=
  h.keep fun p hp => World.cell?_of_block (hg.block p.block (by omega) (fun e => by have := hr _ e.symm; omega))
/-- A part of such a slice. -/
theorem IntsAt.part (h : IntsAt w B A zs) (s n : Nat) {b o : Nat} (hA : A = some ⟨b, o, none⟩) : IntsAt w B (some ⟨b, o + s, none⟩) ((zs.drop s).take n) := fun hn => by
  rw [List.length_take, List.length_drop] at hn
  obtain ⟨b', o', e, hb, hc⟩ := h (by omega)
  subst hA
  injection e with e
  injection e with e1 e2
  subst e1 e2
  refine ⟨b, o + s, rfl, hb, fun k hk => ?_⟩
  rw [List.length_take, List.length_drop] at hk
  rw [Nat.add_assoc, hc (s + k) (by omega), nth, nth, List.getD_eq_getElem?_getD, List.getD_eq_getElem?_getD, List.getElem?_take_of_lt (by omega), List.getElem?_drop]
theorem IntsAt.first (h : IntsAt w B A zs) (n : Nat) : IntsAt w B A (zs.take n) := fun hn => by
  rw [List.length_take] at hn
  obtain ⟨b, o, e, hb, hc⟩ := h (by omega)
  refine ⟨b, o, e, hb, fun k hk => ?_⟩
  rw [List.length_take] at hk
  rw [hc k (by omega), nth, nth, List.getD_eq_getElem?_getD, List.getD_eq_getElem?_getD, List.getElem?_take_of_lt (by omega)]
theorem IntsAt.lt {b o : Nat} (h : IntsAt w B (some ⟨b, o, none⟩) zs) (hn : 0 < zs.length) : b < B ∧ ∀ k, k < zs.length → w.cell? ⟨b, o + k, none⟩ = some (.int .i64 (nth zs k)) := by
  obtain ⟨b', o', e, hb, hc⟩ := h hn
  injection e with e
  injection e with e1 e2
  subst e1 e2
  exact ⟨hb, hc⟩
end

theorem below_drewN {B : Nat} {a w : World} (h : Below B a w) (n : Nat) : Below B a (w.drewN n) := ⟨h.os, h.tape, h.output, h.size, h.block⟩
theorem below_drew {B : Nat} {a w : World} (h : Below B a w) : Below B a w.drew := ⟨h.os, h.tape, h.output, h.size, h.block⟩
theorem grown_of_below {a w : World} (h : Below a.heap.size a w) (row : Option Nat) : a.grownBy w row := ⟨h.os, h.tape, h.output, h.size, fun i hi _ => h.block i hi⟩
theorem below_drew_l {B : Nat} {a w : World} (h : Below B a.drew w) : Below B a w := ⟨h.os, h.tape, h.output, h.size, h.block⟩
theorem below_drewN_l {B : Nat} {a w : World} {n : Nat} (h : Below B (a.drewN n) w) : Below B a w := ⟨h.os, h.tape, h.output, h.size, h.block⟩

/-- A slice of the call's own (from block base on) that holds the numbers zs. -/
def OwnInts (w : World) (base : Nat) (A : Option Addr) (cap : Nat) (zs : List Int) : Prop :=
  w.ownsRow base 3 1 (.slice A zs.length cap) zs.length (vals zs)
section
variable {w w' : World} {base : Nat} {A : Option Addr} {cap : Nat} {zs : List Int}
theorem OwnInts.ints (h : OwnInts w base A cap zs) : IntsAt w w.heap.size A zs := fun hn => by
  obtain ⟨g, c, hv, _, hlt⟩ := World.ownsRow.form h hn
  injection hv with hA _ _
  subst hA
  refine ⟨g, 0, rfl, hlt, fun k hk => ?_⟩
  have := World.ownsRow.cells h (g := g) rfl k (i64 (nth zs k)) (vals_get zs k hk)
  rw [Addr.add_lit] at this
  exact this
theorem OwnInts.le (h : OwnInts w base A cap zs) : zs.length ≤ cap ∧ cap ≤ maxLen := by
  rcases h.2 with ⟨hv, hn⟩ | ⟨g, c, cur, hv, _, _, h1, h2, _⟩
  · injection hv with _ _ hc; exact ⟨by omega, by omega⟩
  · injection hv with _ _ hc; subst hc; exact ⟨h1, h2⟩
theorem OwnInts.below (h : OwnInts w base A cap zs) (hb : Below w.heap.size w w') : OwnInts w' base A cap zs :=
  World.ownsRow.kept h (grown_of_below hb none) (by
    rcases h.2 with ⟨hv, _⟩ | ⟨g, c, cur, hv, _⟩
    · left; rw [hv]; rfl
    · right; rw [hv]; simp [Value.ownBlock])
theorem OwnInts.drewN (h : OwnInts w base A cap zs) (n : Nat) : OwnInts (w.drewN n) base A cap zs := h
/-- An empty slice that was just made. -/
theorem OwnInts.new (w : World) : OwnInts (w.alloc (.cells #[] 3)) w.heap.size (some ⟨w.heap.size, 0, none⟩) 0 [] :=
  World.ownsRow_lit w #[] 0 (Nat.le_refl _) (by simp [maxLen]) (by simp)
theorem OwnInts.base_le (h : OwnInts w base A cap zs) {b : Nat} (hb : b ≤ base) : OwnInts w b A cap zs := by
  refine ⟨h.1, ?_⟩
  rcases h.2 with h0 | ⟨g, c, cur, hv, hg, hr⟩
  · exact .inl h0
  · exact .inr ⟨g, c, cur, hv, by omega, hr⟩
end

/-- What a function hands back that makes a slice of integers: the numbers zs in memory of its own; nothing that was there is changed. -/
def RetInts (w : World) (zs : List Int) (e : Ending) (w' : World) : Prop :=
  ∃ A cap, e = .returned (.slice A zs.length cap) ∧ OwnInts w' w.heap.size A cap zs ∧ Below w.heap.size w w'

theorem int_info : (Tryz.prog.info? 3).map (fun i => (i.zero, i.size, i.bytes)) = some (some (.int .i64 0), 1, 8) := by kernel_rfl

end Go.Proofs.YtkmebilhbjcfpaaGreat

namespace Go.Proofs.YtkmebilhbjcfpaaGreat
open Go.RowKit

def digB (zs : List Int) : Bool := zs.all validB
theorem digB_yes {zs : List Int} (h : digB zs = true) : Digs zs := fun x hx => (validB_iff x).1 (List.all_eq_true.1 h x hx)
theorem digB_of {zs : List Int} (h : Digs zs) : digB zs = true := List.all_eq_true.2 fun x hx => (validB_iff x).2 (h x hx)
theorem digB_take (zs : List Int) (k : Nat) (h : k < zs.length) : digB (zs.take (k + 1)) = (digB (zs.take k) && validB (nth zs k)) := by
  unfold digB
  rw [List.take_succ_eq_append_getElem h, List.all_append, nth, List.getD_eq_getElem?_getD, List.getElem?_eq_getElem h]
  simp
theorem digB_no {zs : List Int} (k : Nat) (h : k < zs.length) (hv : ¬ (0 ≤ nth zs k ∧ nth zs k < 991)) : digB zs = false := by
  cases e : digB zs with
  | false => rfl
  | true =>
    refine absurd (digB_yes e (nth zs k) ?_) hv
    rw [nth, List.getD_eq_getElem?_getD, List.getElem?_eq_getElem h]
    exact List.getElem_mem h
theorem digB_all {zs : List Int} (k : Nat) (h : zs.length ≤ k) (hv : digB (zs.take k) = true) : digB zs = true := by rwa [List.take_of_length_le h] at hv

set_option maxHeartbeats 800000 in
theorem are_any (A : Option Addr) (cap : Nat) (zs : List Int) (w : World) (hI : IntsAt w w.heap.size A zs) (hm : zs.length ≤ maxLen) :
    Calls Tryz.prog 173 #[.slice A zs.length cap] w fun e w' => e = .returned (.bool (digB zs)) ∧ w = w' := by
  unfold maxLen at hm
  have HI := Lib.hid hI
  clear hI
  obtain ⟨n, HN⟩ : ∃ n, Hid (zs.length = n) := ⟨_, rfl⟩
  rw [HN.out] at hm ⊢
  go_enter Tryz.func173, Tryz.ntmps173
  go_wp2
  go_loop [7] (fun i => ∃ k : Nat, k ≤ n ∧ i = .int .i64 k ∧ Hid (digB (zs.take k) = true)) (fun i => n - (intOf i).toNat)
  case atStart => exact ⟨0, Nat.zero_le _, rfl, rfl⟩
  case round =>
    obtain ⟨k, hk, rfl, HD⟩ := hrel
    by_cases hlt : k < n
    · have hlz : k < zs.length := by rw [HN.out]; exact hlt
      obtain ⟨b, o, rfl, hb, hc⟩ := HI.out (by omega)
      have hck := hc k hlz
      by_cases hv : 0 ≤ nth zs k ∧ nth zs k < 991
      · have HT : Hid (digB (zs.take (k + 1)) = true) := by show _ = _; rw [digB_take zs k hlz, HD.out, (validB_iff _).2 hv]; rfl
        obtain ⟨hv0, hv1⟩ := hv
        clear hc hlz
        go_wp2_with fail
        refine (valid_yes _ _ (by omega) (by omega)).mono ?_
        rintro e w' ⟨rfl, rfl⟩
        go_wp2
        go_round
        case rel => exact ⟨k + 1, by omega, by go_num, HT⟩
        case measure => simp [intOf]; omega
      · have HE := Lib.hid (digB_no k hlz hv)
        have HV := Lib.hid hv
        clear hc hlz hv
        go_wp2_with fail
        refine (valid_no _ _ HV.out).mono ?_
        rintro e w' ⟨rfl, rfl⟩
        go_wp2
        go_ret
        exact ⟨ret_bool HE.out.symm, rfl⟩
    · have HE : Hid (digB zs = true) := digB_all k (by rw [HN.out]; omega) HD.out
      go_wp2
      go_ret
      exact ⟨ret_bool HE.out.symm, rfl⟩

/-- Leaves are valid. -/
def leavesB (zs : List Int) : Bool := decide (zs.length ≤ 16) && digB zs
theorem leavesB_yes {zs : List Int} (h : leavesB zs = true) : zs.length ≤ 16 ∧ Digs zs := by
  unfold leavesB at h
  simp only [Bool.and_eq_true, decide_eq_true_eq] at h
  exact ⟨h.1, digB_yes h.2⟩
theorem leavesB_of {zs : List Int} (h : zs.length ≤ 16) (hd : Digs zs) : leavesB zs = true := by
  unfold leavesB; simp only [Bool.and_eq_true, decide_eq_true_eq]; exact ⟨h, digB_of hd⟩

set_option maxHeartbeats 400000 in
theorem leaves_any (A : Option Addr) (cap : Nat) (zs : List Int) (w : World) (hI : IntsAt w w.heap.size A zs) (hm : zs.length ≤ maxLen) :
    Calls Tryz.prog 153 #[.slice A zs.length cap] w fun e w' => e = .returned (.bool (leavesB zs)) ∧ w = w' := by
  have HI := Lib.hid hI
  have HM := Lib.hid hm
  unfold maxLen at hm
  clear hI
  by_cases h16 : zs.length ≤ 16
  · have HE : Hid (leavesB zs = digB zs) := by show _ = _; unfold leavesB; simp [h16]
    go_enter Tryz.func153, Tryz.ntmps153
    go_wp2_with fail
    refine (are_any _ _ zs _ HI.out HM.out).mono ?_
    rintro e w' ⟨rfl, rfl⟩
    go_wp2
    go_ret
    exact ⟨ret_bool (by rw [HE.out]), rfl⟩
  · have HE : Hid (leavesB zs = false) := by show _ = _; unfold leavesB; simp [h16]
    go_enter Tryz.func153, Tryz.ntmps153
    go_wp2
    go_ret
    exact ⟨ret_bool (by rw [HE.out]), rfl⟩

set_option maxHeartbeats 800000 in
theorem sdigs_any (A : Option Addr) (cap : Nat) (zs : List Int) (w : World) (hI : IntsAt w w.heap.size A zs) (hm : zs.length ≤ maxLen) :
    Calls Tryz.prog 106 #[.slice A zs.length cap] w fun e w' => e = .returned (.bool (leavesB zs)) ∧ w = w' := by
  unfold maxLen at hm
  have HI := Lib.hid hI
  clear hI
  obtain ⟨n, HN⟩ : ∃ n, Hid (zs.length = n) := ⟨_, rfl⟩
  rw [HN.out] at hm ⊢
  go_enter Tryz.func106, Tryz.ntmps106
  go_wp2
  go_loop [3] (fun i => ∃ k : Nat, k ≤ n ∧ i = .int .i64 k ∧ Hid (digB (zs.take k) = true)) (fun i => n - (intOf i).toNat)
  case atStart => exact ⟨0, Nat.zero_le _, rfl, rfl⟩
  case round =>
    obtain ⟨k, hk, rfl, HD⟩ := hrel
    by_cases hlt : k < n
    · have hlz : k < zs.length := by rw [HN.out]; exact hlt
      obtain ⟨b, o, rfl, hb, hc⟩ := HI.out (by omega)
      have hck := hc k hlz
      by_cases hv : 0 ≤ nth zs k ∧ nth zs k < 991
      · have HT : Hid (digB (zs.take (k + 1)) = true) := by show _ = _; rw [digB_take zs k hlz, HD.out, (validB_iff _).2 hv]; rfl
        obtain ⟨hv0, hv1⟩ := hv
        clear hc hlz
        go_wp2_with fail
        refine (sdig_yes _ _ (by omega) (by omega)).mono ?_
        rintro e w' ⟨rfl, rfl⟩
        go_wp2
        go_round
        case rel => exact ⟨k + 1, by omega, by go_num, HT⟩
        case measure => simp [intOf]; omega
      · have HE : Hid (leavesB zs = false) := by show _ = _; unfold leavesB; rw [digB_no k hlz hv]; simp
        have HV := Lib.hid hv
        clear hc hlz hv
        go_wp2_with fail
        refine (sdig_no _ _ HV.out).mono ?_
        rintro e w' ⟨rfl, rfl⟩
        go_wp2
        go_ret
        exact ⟨ret_bool HE.out.symm, rfl⟩
    · have HE : Hid (leavesB zs = decide (n ≤ 16)) := by show _ = _; unfold leavesB; rw [digB_all k (by rw [HN.out]; omega) HD.out, HN.out]; simp
      go_wp2
      all_goals
        go_ret
        exact ⟨ret_bool (by rw [HE.out]; simp; omega), rfl⟩

end Go.Proofs.YtkmebilhbjcfpaaGreat

namespace Go.Proofs.YtkmebilhbjcfpaaGreat
open Go.RowKit
set_option linter.unusedVariables false

theorem beq_iff_mod (s k : Nat) : (((s : Int) % (2 * (k : Int))) == 0) = decide (s % (2 * k) = 0) := by
  have e : (s : Int) % (2 * (k : Int)) = ((s % (2 * k) : Nat) : Int) := by rw [Int.natCast_emod, Int.natCast_mul]; rfl
  rw [e, Bool.eq_iff_iff]
  simp only [beq_iff_eq, decide_eq_true_eq]
  omega
theorem mod_yes {s k : Nat} (h : s % (2 * k) = 0) : (((s : Int) % (2 * (k : Int))) == 0) = true := by rw [beq_iff_mod]; simpa using h
theorem mod_no {s k : Nat} (h : ¬ s % (2 * k) = 0) : (((s : Int) % (2 * (k : Int))) == 0) = false := by rw [beq_iff_mod]; simpa using h
theorem pow_step (k f : Nat) : 2 * k * 2 ^ f = k * 2 ^ (f + 1) := by rw [Nat.pow_succ, Nat.mul_comm 2 k, Nat.mul_assoc, Nat.mul_comm 2]

set_option maxHeartbeats 1000000 in
theorem size_any (s r : Nat) (w : World) (hs : s ≤ 16) (hr : r ≤ 16) (hr1 : 1 ≤ r) :
    Calls Tryz.prog 180 #[.int .i64 (s : Int), .int .i64 (r : Int)] w fun e w' => e = .returned (.int .i64 (sizeAt s r : Nat)) ∧ w = w' := by
  go_enter Tryz.func180, Tryz.ntmps180
  go_wp2
  go_loop [5] (fun i => ∃ k f : Nat, 1 ≤ k ∧ k ≤ 16 ∧ Hid (16 < k * 2 ^ f) ∧ i = .int .i64 k ∧ Hid (sizeGo f s r k = sizeAt s r)) (fun i => 32 - (intOf i).toNat)
  case atStart => exact ⟨1, 5, by omega, by omega, (by decide : 16 < 1 * 2 ^ 5), rfl, rfl⟩
  case round =>
    obtain ⟨k, f, hk1, hk2, HF, rfl, HS⟩ := hrel
    obtain ⟨f, rfl⟩ : ∃ f', f = f' + 1 := by
      cases f with
      | zero => have := HF.out; rw [Nat.pow_zero, Nat.mul_one] at this; omega
      | succ f => exact ⟨f, rfl⟩
    by_cases h1 : s % (2 * k) = 0
    · have hb := mod_yes h1
      by_cases h2 : 2 * k ≤ r
      · have HT : Hid (sizeGo f s r (2 * k) = sizeAt s r) := by show _ = _; rw [← HS.out, sizeGo_step ⟨h1, h2⟩]
        have HP : Hid (16 < 2 * k * 2 ^ f) := by show _ < _; rw [pow_step]; exact HF.out
        have h2' : (2 : Int) * (k : Int) ≤ (r : Int) := by omega
        clear h1
        go_wp2
        go_round
        case rel => exact ⟨2 * k, f, by omega, by omega, HP, by go_num, HT⟩
        case measure => simp [intOf]; omega
      · have HT : Hid (k = sizeAt s r) := by show _ = _; rw [← HS.out, sizeGo_stop (fun h => h2 h.2)]
        have h2' : ¬ (2 : Int) * (k : Int) ≤ (r : Int) := by omega
        clear h1
        go_wp2
        go_ret
        exact ⟨ret_int (by rw [← HT.out]), rfl⟩
    · have hb := mod_no h1
      have HT : Hid (k = sizeAt s r) := by show _ = _; rw [← HS.out, sizeGo_stop (fun h => h1 h.1)]
      clear h1
      go_wp2
      go_ret
      exact ⟨ret_int (by rw [← HT.out]), rfl⟩

set_option maxHeartbeats 1000000 in
theorem ssize_any (s n : Nat) (w : World) (hn : n ≤ 16) (hs : s < n) :
    Calls Tryz.prog 111 #[.int .i64 (s : Int), .int .i64 (n : Int)] w fun e w' => e = .returned (.int .i64 (sizeAt s (n - s) : Nat)) ∧ w = w' := by
  go_enter Tryz.func111, Tryz.ntmps111
  go_wp2
  go_loop [5] (fun i => ∃ k f : Nat, 1 ≤ k ∧ k ≤ 16 ∧ Hid (16 < k * 2 ^ f) ∧ i = .int .i64 k ∧ Hid (sizeGo f s (n - s) k = sizeAt s (n - s))) (fun i => 32 - (intOf i).toNat)
  case atStart => exact ⟨1, 5, by omega, by omega, (by decide : 16 < 1 * 2 ^ 5), rfl, rfl⟩
  case round =>
    obtain ⟨k, f, hk1, hk2, HF, rfl, HS⟩ := hrel
    obtain ⟨f, rfl⟩ : ∃ f', f = f' + 1 := by
      cases f with
      | zero => have := HF.out; rw [Nat.pow_zero, Nat.mul_one] at this; omega
      | succ f => exact ⟨f, rfl⟩
    by_cases h1 : s % (2 * k) = 0
    · have hb := mod_yes h1
      by_cases h2 : 2 * k ≤ n - s
      · have HT : Hid (sizeGo f s (n - s) (2 * k) = sizeAt s (n - s)) := by show _ = _; rw [← HS.out, sizeGo_step ⟨h1, h2⟩]
        have HP : Hid (16 < 2 * k * 2 ^ f) := by show _ < _; rw [pow_step]; exact HF.out
        have h2' : (s : Int) + (2 : Int) * (k : Int) ≤ (n : Int) := by omega
        clear h1
        go_wp2
        go_round
        case rel => exact ⟨2 * k, f, by omega, by omega, HP, by go_num, HT⟩
        case measure => simp [intOf]; omega
      · have HT : Hid (k = sizeAt s (n - s)) := by show _ = _; rw [← HS.out, sizeGo_stop (fun h => h2 h.2)]
        have h2' : ¬ (s : Int) + (2 : Int) * (k : Int) ≤ (n : Int) := by omega
        clear h1
        go_wp2
        go_ret
        exact ⟨ret_int (by rw [← HT.out]), rfl⟩
    · have hb := mod_no h1
      have HT : Hid (k = sizeAt s (n - s)) := by show _ = _; rw [← HS.out, sizeGo_stop (fun h => h1 h.1)]
      clear h1
      go_wp2
      go_ret
      exact ⟨ret_int (by rw [← HT.out]), rfl⟩

end Go.Proofs.YtkmebilhbjcfpaaGreat

namespace Go.Proofs.YtkmebilhbjcfpaaGreat
open Go.RowKit
set_option linter.unusedVariables false

theorem quiet_left {P : Program} {f : FuncId} {args : Array Value} {w : World} {n : Nat} {v : Value}
    (h : Calls P f args (w.drewN n) fun e w' => e = .returned v ∧ w.drewN n = w') : Calls P f args (w.drewN n) fun e w'' => e = .returned v ∧ ∃ m, w'' = w.drewN m :=
  h.mono fun _ _ ⟨he, hm⟩ => ⟨he, n, hm.symm⟩

theorem rootG_step {α : Type} (pr : α → α → α) (z : α) (f : Nat) (l : List α) (h : 2 ≤ l.length) : rootG pr z (f + 1) l = pr (rootG pr z f (l.take (l.length / 2))) (rootG pr z f (l.drop (l.length / 2))) := by
  show (if _ then _ else _) = _
  rw [if_neg (by omega)]
theorem rootG_one {α : Type} (pr : α → α → α) (z : α) (f : Nat) (l : List α) (h : l.length = 1) : rootG pr z f l = l.headD z := by
  cases f with
  | zero => rfl
  | succ f => show (if _ then _ else _) = _; rw [if_pos (by omega)]
theorem rootG_fuel {α : Type} (pr : α → α → α) (z : α) : ∀ f g (l : List α), 1 ≤ l.length → l.length ≤ 2 ^ f → l.length ≤ 2 ^ g → rootG pr z f l = rootG pr z g l := by
  intro f
  induction f with
  | zero => intro g l h1 hf hg; rw [rootG_one pr z g l (by simp at hf; omega)]; rfl
  | succ f ih =>
    intro g l h1 hf hg
    by_cases h2 : 2 ≤ l.length
    · cases g with
      | zero => simp at hg; omega
      | succ g =>
        rw [Nat.pow_succ] at hf hg
        rw [rootG_step pr z f l h2, rootG_step pr z g l h2, ih g _ (by rw [List.length_take]; omega) (by rw [List.length_take]; omega) (by rw [List.length_take]; omega), ih g _ (by rw [List.length_drop]; omega) (by rw [List.length_drop]; omega) (by rw [List.length_drop]; omega)]
    · rw [rootG_one pr z (f + 1) l (by omega), rootG_one pr z g l (by omega)]
theorem headD_nth (zs : List Int) : zs.headD 0 = nth zs 0 := by cases zs <;> rfl
theorem rootZ_bd : ∀ f (zs : List Int), Digs zs → 1 ≤ zs.length → 0 ≤ rootG pairZ 0 f zs ∧ rootG pairZ 0 f zs < 991 := by
  have one : ∀ zs : List Int, Digs zs → 1 ≤ zs.length → 0 ≤ zs.headD 0 ∧ zs.headD 0 < 991 := by
    intro zs hd h1
    cases zs with
    | nil => simp at h1
    | cons a l => exact hd a (by simp)
  intro f zs hd h1
  cases f with
  | zero => exact one zs hd h1
  | succ f =>
    by_cases h2 : 2 ≤ zs.length
    · rw [rootG_step pairZ 0 f zs h2]; exact pairZ_bd _ _
    · rw [rootG_one pairZ 0 (f + 1) zs (by omega)]; exact one zs hd h1
theorem Digs.take {zs : List Int} (h : Digs zs) (k : Nat) : Digs (zs.take k) := fun x hx => h x (List.mem_of_mem_take hx)
theorem Digs.drop {zs : List Int} (h : Digs zs) (k : Nat) : Digs (zs.drop k) := fun x hx => h x (List.mem_of_mem_drop hx)
theorem Digs.at_ {zs : List Int} (h : Digs zs) (k : Nat) (hk : k < zs.length) : 0 ≤ nth zs k ∧ nth zs k < 991 := by
  refine h (nth zs k) ?_
  unfold nth
  rw [List.getD_eq_getElem?_getD, List.getElem?_eq_getElem hk]
  exact List.getElem_mem hk

set_option maxHeartbeats 2000000 in
theorem sroot_go : ∀ (f : Nat) (zs : List Int) (b o cap : Nat) (w : World), IntsAt w w.heap.size (some ⟨b, o, none⟩) zs → 1 ≤ zs.length → zs.length ≤ 2 ^ f → zs.length ≤ 16 → zs.length ≤ cap → cap ≤ maxLen → Digs zs →
    Calls Tryz.prog 110 #[.slice (some ⟨b, o, none⟩) zs.length cap] w fun e w' => e = .returned (.int .i64 (rootG pairZ 0 f zs)) ∧ ∃ q, w' = w.drewN q := by
  intro f
  induction f with
  | zero =>
    intro zs b o cap w hI h1 hf h16 hcap hmax hd
    have hn1 : zs.length = 1 := by simp at hf; omega
    have hc := (hI.lt (by omega)).2 0 (by omega)
    rw [Nat.add_zero] at hc
    have HE := Lib.hid (rootG_one pairZ 0 0 zs hn1)
    have HN := Lib.hid hn1
    rw [hn1]
    clear hI hf hd h1 h16 hn1 hcap
    go_enter Tryz.func110, Tryz.ntmps110
    go_wp2
    go_ret
    exact ⟨ret_int (by rw [HE.out, headD_nth]), 0, rfl⟩
  | succ f ih =>
    intro zs b o cap w hI h1 hf h16 hcap hmax hd
    by_cases h2 : 2 ≤ zs.length
    · obtain ⟨n, HN⟩ : ∃ n, Hid (zs.length = n) := ⟨_, rfl⟩
      have HE := Lib.hid (rootG_step pairZ 0 f zs h2)
      have hn2 : 2 ≤ n := by rw [← HN.out]; exact h2
      have hn16 : n ≤ 16 := by rw [← HN.out]; exact h16
      have hnc : n ≤ cap := by rw [← HN.out]; exact hcap
      have hnf : n ≤ 2 ^ f * 2 := by rw [← HN.out, ← Nat.pow_succ]; exact hf
      obtain ⟨h, HH⟩ : ∃ h, Hid (n / 2 = h) := ⟨_, rfl⟩
      have hh1 : 1 ≤ h := by have := HH.out; omega
      have hh2 : h < n := by have := HH.out; omega
      have hh3 : h ≤ 2 ^ f := by have := HH.out; omega
      have hh4 : n - h ≤ 2 ^ f := by have := HH.out; omega
      have hl1 : (zs.take h).length = h := by rw [List.length_take, HN.out]; omega
      have hl2 : (zs.drop h).length = n - h := by rw [List.length_drop, HN.out]
      obtain ⟨r1, HR1⟩ : ∃ r, Hid (rootG pairZ 0 f (zs.take h) = r) := ⟨_, rfl⟩
      obtain ⟨r2, HR2⟩ : ∃ r, Hid (rootG pairZ 0 f (zs.drop h) = r) := ⟨_, rfl⟩
      have C1 : Hid (∀ q, Calls Tryz.prog 110 #[.slice (some ⟨b, o, none⟩) h cap] (w.drewN q) fun e w' => e = .returned (.int .i64 r1) ∧ ∃ m, w' = w.drewN m) := fun q => by
        have := ih (zs.take h) b o cap (w.drewN q) ((hI.first h).drewN q) (by omega) (by omega) (by omega) (by omega) hmax (hd.take h)
        rw [hl1, HR1.out] at this
        exact Calls.quiet_of this
      have C2 : Hid (∀ q, Calls Tryz.prog 110 #[.slice (some ⟨b, o + h, none⟩) (n - h) (cap - h)] (w.drewN q) fun e w' => e = .returned (.int .i64 r2) ∧ ∃ m, w' = w.drewN m) := fun q => by
        have hp := hI.part h n rfl
        rw [List.take_of_length_le (by omega)] at hp
        have := ih (zs.drop h) b (o + h) (cap - h) (w.drewN q) (hp.drewN q) (by omega) (by omega) (by omega) (by omega) (by omega) (hd.drop h)
        rw [hl2, HR2.out] at this
        exact Calls.quiet_of this
      have b1 := rootZ_bd f (zs.take h) (hd.take h) (by omega)
      have b2 := rootZ_bd f (zs.drop h) (hd.drop h) (by omega)
      rw [HR1.out] at b1
      rw [HR2.out] at b2
      obtain ⟨b10, b11⟩ := b1
      obtain ⟨b20, b21⟩ := b2
      unfold maxLen at hmax
      have hi0 : (0 : Int) ≤ (h : Int) := by omega
      have hi1 : (h : Int) ≤ (n : Int) := by omega
      have hi2 : (h : Int) ≤ (cap : Int) := by omega
      have hi3 : (n : Int) ≤ (cap : Int) := by omega
      have hne : ¬ cap = h := by omega
      have h2n : ((n : Int) == 1) = false := by simp; omega
      rw [HN.out]
      clear hI hf hd h1 h16 hcap h2 ih hnf hl1 hl2
      go_enter Tryz.func110, Tryz.ntmps110
      go_wp2_with fail
      rw [show ((n : Int) / 2) = (h : Int) from by have := HH.out; omega]
      go_quiet (first
        | (go_at_call 110; with_reducible exact C1.out _)
        | (go_at_call 110; with_reducible exact C2.out _)
        | (go_at_call 150; exact quiet_left (spair1_any _ _ _ (by omega) (by omega) (by omega) (by omega))))
      go_wp2
      go_ret
      exact ⟨ret_int (by rw [HE.out, HN.out, HH.out, HR1.out, HR2.out]), _, rfl⟩
    · have hn1 : zs.length = 1 := by omega
      have hc := (hI.lt (by omega)).2 0 (by omega)
      rw [Nat.add_zero] at hc
      have HE := Lib.hid (rootG_one pairZ 0 (f + 1) zs hn1)
      rw [hn1]
      clear hI hf hd h1 h16 hn1 hcap ih h2
      go_enter Tryz.func110, Tryz.ntmps110
      go_wp2
      go_ret
      exact ⟨ret_int (by rw [HE.out, headD_nth]), 0, rfl⟩

end Go.Proofs.YtkmebilhbjcfpaaGreat

namespace Go.Proofs.YtkmebilhbjcfpaaGreat
open Go.RowKit
set_option linter.unusedVariables false

/-- What an append leaves. -/
structure Appended (W : World) (base : Nat) (A : Option Addr) (n c : Nat) (zs : List Int) (v : Value) (w' : World) : Prop where
  own : ∃ A' c', v = .slice A' zs.length c' ∧ OwnInts w' base A' c' zs
  grown : W.grownBy w' (Value.ownBlock (.slice A n c))
  below : Below base W w'

theorem OwnInts.far {w : World} {base : Nat} {A : Option Addr} {cap n : Nat} {zs : List Int} (h : OwnInts w base A cap zs) : ∀ g, Value.ownBlock (.slice A n cap) = some g → base ≤ g := by
  intro g hg
  rcases h.2 with ⟨hv, _⟩ | ⟨g', c, cur, hv, hb, _⟩
  · injection hv with hA _ _; subst hA; cases hg
  · injection hv with hA _ _; subst hA
    simp [Value.ownBlock] at hg
    omega
theorem OwnInts.alloc {w : World} {base : Nat} {A : Option Addr} {cap : Nat} {zs : List Int} (h : OwnInts w base A cap zs) (o : Obj) : OwnInts (w.alloc o) base A cap zs := World.ownsRow.alloc h o

set_option maxRecDepth 100000 in
theorem run_app_ints (W : World) (base ty : Nat) (A : Option Addr) (c : Nat) (ds : List Int) (B : Option Addr) (bc : Nat) (zs : List Int) (hown : OwnInts W base A c ds) (hI : IntsAt W W.heap.size B zs) (hl : ds.length + zs.length ≤ 2147483647) (hbase : base ≤ W.heap.size) (hB : B = none → bc = 0) :
    ∃ v w', (Builtin.append_ #[39, 39] ty #[.slice A ds.length c, .slice B zs.length bc]).run Tryz.prog W = .ok v w' ∧ Appended W base A ds.length c (ds ++ zs) v w' := by
  obtain ⟨i0, hi0, hz0, hz1, hz2⟩ := info_parts int_info
  rcases B with _ | ad
  · have h0 : zs = [] := by
      cases zs with
      | nil => rfl
      | cons z zs => obtain ⟨b, o, e, _⟩ := hI (by simp); cases e
    subst h0
    refine ⟨.slice A ds.length c, W, ?_, ⟨A, c, by simp, by simpa using hown⟩, World.grownBy.refl W _, Below.refl _ _⟩
    have hk := hown
    unfold OwnInts at hk
    rcases hk.2 with ⟨hv, hn⟩ | ⟨g, cap, cur, hv, _, _, hnc, _⟩
    · rw [hv]
      simp [Builtin.append_, run_underlying Tryz.underlying39, sizeOf, typeInfo, hi0, Builtin.lenOf, Builtin.firstCells]
    · rw [hv]
      simp [Builtin.append_, run_underlying Tryz.underlying39, sizeOf, typeInfo, hi0, Builtin.lenOf, Builtin.firstCells, hnc, storeCells]
  · have hcells : ∀ j u, (vals zs)[j]? = some u → W.cell? (ad.add j) = some u := by
      intro j u hu
      have hj : j < zs.length := by
        have := (List.getElem?_eq_some_iff.1 hu).1
        rwa [vals_length] at this
      obtain ⟨b, o, e, _, hc⟩ := hI (by omega)
      injection e with e
      subst e
      rw [vals_get zs j hj] at hu
      rw [Addr.add_lit, ← hu]
      exact hc j hj
    obtain ⟨v', w', hrun, h2, h3, _, h5⟩ := run_append_own_at (P := Tryz.prog) W base 39 ty 3 i0 _ 1 8 Tryz.underlying39 hi0 hz0 hz1 hz2 rfl (by omega) _ ds.length (vals ds) hown ad zs.length bc (vals zs) (by rw [vals_length, Nat.mul_one]) hcells (vals_one zs) (by unfold maxLen; omega) (by omega) hbase
    refine ⟨v', w', hrun, ?_, h3, (Below.refl _ _).grown h3 hbase (fun k hk => hown.far k hk)⟩
    rw [← vals_append] at h2
    rcases h2.2 with ⟨hv, hn⟩ | ⟨g, cap, cur, hv, hr⟩
    · refine ⟨none, 0, ?_, ?_⟩
      · rw [hv, List.length_append, hn]
      · unfold OwnInts; rw [List.length_append, hn]; rw [hn, hv] at h2; exact h2
    · refine ⟨some ⟨g, 0, none⟩, cap, ?_, ?_⟩
      · rw [hv, List.length_append]
      · unfold OwnInts; rw [List.length_append]; rw [hv] at h2; exact h2

theorem wp_app_ints {o : Oper} {a : Act} {K : Act → World → Prop} {Q : Exit → Act → World → Prop} (s x : Operand) (ho : o.op = .call { callee := .builtin .append, args := #[s, x], argTypes := #[39, 39] })
    (W : World) (base : Nat) (A : Option Addr) (c : Nat) (ds : List Int) (hs : a.eval s = .slice A ds.length c) (B : Option Addr) (bc : Nat) (zs : List Int) (hx : a.eval x = .slice B zs.length bc)
    (hown : OwnInts W base A c ds) (hI : IntsAt W W.heap.size B zs) (hl : ds.length + zs.length ≤ 2147483647) (hbase : base ≤ W.heap.size) (hB : B = none → bc = 0)
    (h : ∀ v w', Appended W base A ds.length c (ds ++ zs) v w' → K (a.put o.dst v) w') : o.wp Tryz.prog a W K Q := by
  obtain ⟨v', w', hrun, h2⟩ := run_app_ints W base o.type A c ds B bc zs hown hI hl hbase hB
  unfold Oper.wp execOp
  simp only [ho, resolve, invoke, builtin, Sem.run_bind, Sem.run_pure, Result.andThen_ok, List.map_toArray, List.map_cons, List.map_nil, hs, hx, hrun]
  exact h v' w' h2

theorem wpList_app_ints {ops : Array Oper} {rest : List Oper} {o : Oper} {a : Act} {Q : Exit → Act → World → Prop} (hgd : o.guard = none) (s x : Operand) (ho : o.op = .call { callee := .builtin .append, args := #[s, x], argTypes := #[39, 39] })
    (W : World) (base : Nat) (A : Option Addr) (c : Nat) (ds : List Int) (hs : a.eval s = .slice A ds.length c) (B : Option Addr) (bc : Nat) (zs : List Int) (hx : a.eval x = .slice B zs.length bc)
    (hown : OwnInts W base A c ds) (hI : IntsAt W W.heap.size B zs) (hl : ds.length + zs.length ≤ 2147483647) (hbase : base ≤ W.heap.size) (hB : B = none → bc = 0)
    (h : ∀ v w', Appended W base A ds.length c (ds ++ zs) v w' → wpList Tryz.prog ops Q rest (a.put o.dst v) w') : wpList Tryz.prog ops Q (o :: rest) a W :=
  wpList_plain hgd fun _ hK => wp_app_ints s x ho W base A c ds hs B bc zs hx hown hI hl hbase hB fun v' w' h2 => hK _ _ (h v' w' h2)

theorem step_app_ints {ops : Array Oper} {o : Oper} {a : Act} {K : Act → World → Prop} {Q : Exit → Act → World → Prop} {E : Prop} (hgd : o.guard = none) (s x : Operand) (ho : o.op = .call { callee := .builtin .append, args := #[s, x], argTypes := #[39, 39] })
    (W : World) (base : Nat) (A : Option Addr) (c : Nat) (ds : List Int) (hs : a.eval s = .slice A ds.length c) (B : Option Addr) (bc : Nat) (zs : List Int) (hx : a.eval x = .slice B zs.length bc)
    (hown : OwnInts W base A c ds) (hI : IntsAt W W.heap.size B zs) (hl : ds.length + zs.length ≤ 2147483647) (hbase : base ≤ W.heap.size) (hB : B = none → bc = 0)
    (h : ∀ v w', Appended W base A ds.length c (ds ++ zs) v w' → K (a.put o.dst v) w') :
    if Region.wanted o (yielded ops a.tmps) = true then Oper.wp Tryz.prog o a W K Q else E := by
  have hw : Region.wanted o (yielded ops a.tmps) = true := by simp [Region.wanted, hgd]
  rw [if_pos hw]
  exact wp_app_ints s x ho W base A c ds hs B bc zs hx hown hI hl hbase hB h

/-- One element that was just laid in a block of its own. -/
theorem one_new (W : World) (z : Int) : IntsAt (W.alloc (.cells #[.int .i64 z] 3)) (W.alloc (.cells #[.int .i64 z] 3)).heap.size (some ⟨W.heap.size, 0, none⟩) [z] := fun _ => by
  refine ⟨W.heap.size, 0, rfl, by simp, fun k hk => ?_⟩
  have : k = 0 := by simp at hk; omega
  subst this
  have := cell_one_new W (.int .i64 z) 3 0 (.int .i64 z) rfl
  rw [Addr.add_lit] at this
  exact this

end Go.Proofs.YtkmebilhbjcfpaaGreat

namespace Go.Proofs.YtkmebilhbjcfpaaGreat
open Go.RowKit
set_option linter.unusedVariables false

theorem placesGo_step {f s n : Nat} (h : s < n) : placesGo (f + 1) s n = (s, sizeAt s (n - s)) :: placesGo f (s + sizeAt s (n - s)) n := by
  show (if _ then _ else _) = _
  rw [if_pos h]
theorem placesGo_stop {f s n : Nat} (h : ¬ s < n) : placesGo f s n = [] := by
  cases f with
  | zero => rfl
  | succ f => show (if _ then _ else _) = _; rw [if_neg h]
theorem coverP_cons (zs : List Int) (p : Nat × Nat) (ps : List (Nat × Nat)) : coverP pairZ 0 zs (p :: ps) = rootG pairZ 0 4 (segG zs p.1 p.2) :: coverP pairZ 0 zs ps := rfl
theorem segG_length (zs : List Int) (s k : Nat) (h : s + k ≤ zs.length) : (segG zs s k).length = k := by unfold segG; rw [List.length_take, List.length_drop]; omega
theorem Digs.seg {zs : List Int} (h : Digs zs) (s k : Nat) : Digs (segG zs s k) := (h.drop s).take k

/-- Where the model's loop stands. -/
structure CoverAt (w : World) (zs : List Int) (from_ : Nat) (A : Option Addr) (c : Nat) (ds : List Int) (s f : Nat) (w' : World) : Prop where
  own : OwnInts w' w.heap.size A c ds
  below : Below w.heap.size w w'
  rest : ds ++ coverP pairZ 0 zs (placesGo f s zs.length) = coverZ zs from_
  fuel : zs.length < s + f
  short : ds.length ≤ s

set_option maxHeartbeats 2000000 in
theorem scover_any (zs : List Int) (b o cap from_ : Nat) (w : World) (hI : IntsAt w w.heap.size (some ⟨b, o, none⟩) zs) (h16 : zs.length ≤ 16) (hcap : zs.length ≤ cap) (hmax : cap ≤ maxLen) (hd : Digs zs) (hfrom : from_ ≤ zs.length) :
    Calls Tryz.prog 108 #[.slice (some ⟨b, o, none⟩) zs.length cap, .int .i64 (from_ : Int)] w (RetInts w (coverZ zs from_)) := by
  obtain ⟨n, HN⟩ : ∃ n, Hid (zs.length = n) := ⟨_, rfl⟩
  have HI := Lib.hid hI
  have HD := Lib.hid hd
  have HM := Lib.hid hmax
  rw [HN.out] at h16 hcap hfrom ⊢
  unfold maxLen at hmax
  clear hI hd
  go_enter Tryz.func108, Tryz.ntmps108
  go_wp2
  go_loopw [5, 6] (fun x i w' => ∃ (A : Option Addr) (c : Nat) (ds : List Int) (s f : Nat), s ≤ n ∧ x = .slice A ds.length c ∧ i = .int .i64 s ∧ CoverAt w zs from_ A c ds s f w') (fun _ i _ => n - (intOf i).toNat)
  case atStart =>
    refine ⟨_, _, [], from_, 17, by omega, rfl, rfl, ?_⟩
    exact ⟨OwnInts.new w, (Below.refl _ _).alloc (Nat.le_refl _) _, rfl, by rw [HN.out]; omega, by simp⟩
  case round =>
    obtain ⟨A, c, ds, s, f, hs, rfl, rfl, hC⟩ := hrel
    have HC := Lib.hid hC
    clear hC
    by_cases hlt : s < n
    · obtain ⟨f, rfl⟩ : ∃ f', f = f' + 1 := by
        cases f with
        | zero => have := HC.out.fuel; rw [HN.out] at this; omega
        | succ f => exact ⟨f, rfl⟩
      go_wp2_with fail
      refine (ssize_any _ _ _ (by omega) (by omega)).mono ?_
      rintro e w1 ⟨rfl, rfl⟩
      obtain ⟨k, HK⟩ : ∃ k, Hid (sizeAt s (n - s) = k) := ⟨_, rfl⟩
      rw [HK.out]
      have hk1 : 1 ≤ k := by rw [← HK.out]; exact sizeAt_pos _ _
      have hk2 : k ≤ n - s := by rw [← HK.out]; exact sizeAt_le _ _ (by omega)
      have hi1 : (s : Int) ≤ (s : Int) + (k : Int) := by omega
      have hi2 : (s : Int) + (k : Int) ≤ (cap : Int) := by omega
      have hne : ¬ cap = s := by omega
      have hseg : (segG zs s k).length = k := segG_length zs s k (by rw [HN.out]; omega)
      obtain ⟨r, HR⟩ : ∃ r, Hid (rootG pairZ 0 4 (segG zs s k) = r) := ⟨_, rfl⟩
      have C : Hid (Calls Tryz.prog 110 #[.slice (some ⟨b, o + s, none⟩) k (cap - s)] wr fun e w' => e = .returned (.int .i64 r) ∧ ∃ q, w' = wr.drewN q) := by
        have hp := ((HI.out.part s k rfl).below HC.out.below (Nat.le_refl _)).more HC.out.below.size
        have := sroot_go 4 (segG zs s k) b (o + s) (cap - s) wr hp (by omega) (by omega) (by omega) (by omega) (by unfold maxLen; omega) (HD.out.seg s k)
        rw [hseg, HR.out] at this
        exact this
      have HS := Lib.hid hseg
      clear hseg
      go_wp2_with fail
      refine C.out.mono ?_
      rintro e w2 ⟨rfl, q, rfl⟩
      have hb0 : w.heap.size ≤ wr.heap.size := HC.out.below.size
      have hdl : ds.length ≤ 16 := by have := HC.out.short; omega
      go_wp2_with (at_builtin; refine wpList_app_ints rfl (.tmp 18) (.tmp 26) rfl _ w.heap.size A c ds rfl _ _ [r] rfl ((HC.out.own.drewN q).alloc _) (one_new _ _) (by simp; omega) (by simp; omega) (by simp) ?_; intro v w3 hA)
      obtain ⟨⟨A', c', rfl, hown⟩, hg, hbel⟩ := hA
      go_wp2
      go_roundw
      case rel =>
        refine ⟨A', c', ds ++ [r], s + k, f, by omega, rfl, by go_num, ?_⟩
        have hC := HC.out
        refine ⟨hown, ?_, ?_, ?_, ?_⟩
        · exact ((below_drewN hC.below q).alloc (by simp; omega) _).trans hbel
        · rw [← hC.rest, placesGo_step (by rw [HN.out]; exact hlt), coverP_cons, List.append_assoc]
          show ds ++ ([r] ++ _) = _
          rw [HN.out, HK.out, HR.out]
          rfl
        · have := hC.fuel; omega
        · have := hC.short; simp; omega
      case measure => simp [intOf]; omega
    · have HE : Hid (ds = coverZ zs from_) := by
        show _ = _
        rw [← HC.out.rest, placesGo_stop (by rw [HN.out]; exact hlt)]
        simp [coverP]
      go_wp2
      go_ret
      refine ⟨A, c, ?_, ?_, HC.out.below⟩
      · rw [← HE.out]; rfl
      · rw [← HE.out]; exact HC.out.own

theorem coverZ_digs (zs : List Int) (s : Nat) (h : Digs zs) (h16 : zs.length ≤ 16) : Digs (coverZ zs s) := by
  have key : ∀ f s, Digs (coverP pairZ 0 zs (placesGo f s zs.length)) := by
    intro f
    induction f with
    | zero => intro s x hx; cases hx
    | succ f ih =>
      intro s
      by_cases hlt : s < zs.length
      · rw [placesGo_step hlt, coverP_cons]
        intro x hx
        rcases List.mem_cons.1 hx with e | e
        · subst e
          refine rootZ_bd 4 _ (h.seg _ _) ?_
          rw [segG_length _ _ _ (by have := sizeAt_le s (zs.length - s) (by omega); omega)]
          exact sizeAt_pos _ _
        · exact ih _ x e
      · rw [placesGo_stop hlt]; intro x hx; cases hx
  exact key 17 s

def foldFrom (n : Int) (zs : List Int) (k : Nat) : Int := foldZ n (zs.take k)
theorem foldFrom_step (n : Int) (zs : List Int) (k : Nat) (h : k < zs.length) : foldFrom n zs (k + 1) = pairZ (foldFrom n zs k) (nth zs k) := by
  unfold foldFrom foldZ foldG nth
  rw [List.take_succ_eq_append_getElem h, List.foldl_append, List.getD_eq_getElem?_getD, List.getElem?_eq_getElem h]
  rfl
theorem foldFrom_bd (n : Int) (zs : List Int) (k : Nat) (h0 : 0 ≤ n) (h1 : n < 991) (h : k ≤ zs.length) : 0 ≤ foldFrom n zs k ∧ foldFrom n zs k < 991 := by
  cases k with
  | zero => exact ⟨h0, h1⟩
  | succ k => rw [foldFrom_step n zs k (by omega)]; exact pairZ_bd _ _

set_option maxHeartbeats 800000 in
theorem sfold_any (m : Int) (A : Option Addr) (cap : Nat) (zs : List Int) (w : World) (hI : IntsAt w w.heap.size A zs) (hm : zs.length ≤ maxLen) (h0 : 0 ≤ m) (h1 : m < 991) (hd : Digs zs) :
    Calls Tryz.prog 107 #[.int .i64 m, .slice A zs.length cap] w fun e w' => e = .returned (.int .i64 (foldZ m zs)) ∧ w = w' := by
  unfold maxLen at hm
  have HI := Lib.hid hI
  have HD := Lib.hid hd
  clear hI hd
  obtain ⟨n, HN⟩ : ∃ n, Hid (zs.length = n) := ⟨_, rfl⟩
  rw [HN.out] at hm ⊢
  go_enter Tryz.func107, Tryz.ntmps107
  go_wp2
  go_loop [5, 6] (fun x i => ∃ k : Nat, k ≤ n ∧ i = .int .i64 k ∧ x = .int .i64 (foldFrom m zs k)) (fun _ i => n - (intOf i).toNat)
  case atStart => exact ⟨0, Nat.zero_le _, rfl, rfl⟩
  case round =>
    obtain ⟨k, hk, rfl, rfl⟩ := hrel
    obtain ⟨hb0, hb1⟩ := foldFrom_bd m zs k h0 h1 (by rw [HN.out]; exact hk)
    by_cases hlt : k < n
    · have hlz : k < zs.length := by rw [HN.out]; exact hlt
      have HS := Lib.hid (foldFrom_step m zs k hlz)
      obtain ⟨hv0, hv1⟩ := HD.out.at_ k hlz
      obtain ⟨b, o, rfl, hb, hc⟩ := HI.out (by omega)
      have hck := hc k hlz
      clear hc hlz
      go_wp2_with fail
      refine (spair1_any _ _ _ (by omega) (by omega) (by omega) (by omega)).mono ?_
      rintro e w' ⟨rfl, rfl⟩
      go_wp2
      go_round
      case rel => exact ⟨k + 1, by omega, by go_num, by rw [HS.out]⟩
      case measure => simp [intOf]; omega
    · have HE : Hid (foldFrom m zs k = foldZ m zs) := by show _ = _; unfold foldFrom; rw [List.take_of_length_le (by rw [HN.out]; omega)]
      go_wp2
      go_ret
      exact ⟨ret_int HE.out, rfl⟩

/-- What TreePeaks and TreeDigest return. -/
def peaksOr (zs : List Int) : List Int := if leavesB zs = true then coverZ zs 0 else []
def digestOr (zs : List Int) : Int := if leavesB zs = true then digestZ zs else -1



set_option maxHeartbeats 800000 in
theorem sdigest_any (zs : List Int) (b o cap : Nat) (w : World) (hI : IntsAt w w.heap.size (some ⟨b, o, none⟩) zs) (hcap : zs.length ≤ cap) (hmax : cap ≤ maxLen) :
    Calls Tryz.prog 56 #[.slice (some ⟨b, o, none⟩) zs.length cap] w fun e w' => e = .returned (.int .i64 (digestOr zs)) ∧ Below w.heap.size w w' := by
  have HI := Lib.hid hI
  have HM := Lib.hid hmax
  have HC := Lib.hid hcap
  clear hI hmax hcap
  cases hv : leavesB zs with
  | true =>
    have HE : Hid (digestOr zs = digestZ zs) := by show _ = _; unfold digestOr; rw [hv]; rfl
    obtain ⟨h16, hd⟩ := leavesB_yes hv
    have HV := Lib.hid hv
    have HD := Lib.hid hd
    clear hv hd
    rw [HE.out]
    go_enter Tryz.func56, Tryz.ntmps56
    go_wp2_with fail
    refine (sdigs_any _ _ zs _ HI.out (Nat.le_trans HC.out HM.out)).mono ?_
    rintro e w' ⟨rfl, rfl⟩
    rw [HV.out]
    go_wp2_with fail
    refine (scover_any zs b o cap 0 _ HI.out h16 HC.out HM.out HD.out (by omega)).mono ?_
    rintro e w1 ⟨A, c, rfl, hown, hbel⟩
    have HO := Lib.hid hown
    have HB := Lib.hid hbel
    clear hown hbel
    go_wp2_with fail
    refine (sfold_any _ A c (coverZ zs 0) _ HO.out.ints (Nat.le_trans HO.out.le.1 HO.out.le.2) (by omega) (by omega) (coverZ_digs zs 0 HD.out h16)).mono ?_
    rintro e w' ⟨rfl, rfl⟩
    go_wp2
    go_ret
    exact ⟨rfl, HB.out⟩
  | false =>
    have HE : Hid (digestOr zs = -1) := by show _ = _; unfold digestOr; rw [hv]; rfl
    have HV := Lib.hid hv
    clear hv
    rw [HE.out]
    go_enter Tryz.func56, Tryz.ntmps56
    go_wp2_with fail
    refine (sdigs_any _ _ zs _ HI.out (Nat.le_trans HC.out HM.out)).mono ?_
    rintro e w' ⟨rfl, rfl⟩
    rw [HV.out]
    go_wp2
    go_ret
    exact ⟨rfl, Below.refl _ _⟩

end Go.Proofs.YtkmebilhbjcfpaaGreat

namespace Go.Proofs.YtkmebilhbjcfpaaGreat
open Go.RowKit
set_option linter.unusedVariables false

theorem eqi_take (a b : List Int) (k : Nat) (ha : k < a.length) (hb : k < b.length) (h : a.take k = b.take k) (e : nth a k = nth b k) : a.take (k + 1) = b.take (k + 1) := by
  rw [List.take_succ_eq_append_getElem ha, List.take_succ_eq_append_getElem hb, h]
  unfold nth at e
  rw [List.getD_eq_getElem?_getD, List.getD_eq_getElem?_getD, List.getElem?_eq_getElem ha, List.getElem?_eq_getElem hb] at e
  simp at e
  rw [e]
theorem eqi_ne (a b : List Int) (k : Nat) (e : nth a k ≠ nth b k) : decide (a = b) = false := by
  rw [decide_eq_false_iff_not]
  intro h
  subst h
  exact e rfl

set_option maxHeartbeats 1000000 in
theorem eqi_any (A : Option Addr) (cap : Nat) (xs : List Int) (A1 : Option Addr) (cap1 : Nat) (ys : List Int) (w : World) (hI : IntsAt w w.heap.size A xs) (hJ : IntsAt w w.heap.size A1 ys) (hm : xs.length ≤ maxLen) (hm1 : ys.length ≤ maxLen) :
    Calls Tryz.prog 12 #[.slice A xs.length cap, .slice A1 ys.length cap1] w fun e w' => e = .returned (.bool (decide (xs = ys))) ∧ ∃ q, w' = w.drewN q := by
  unfold maxLen at hm hm1
  have HI := Lib.hid hI
  have HJ := Lib.hid hJ
  clear hI hJ
  by_cases hl : xs.length = ys.length
  · obtain ⟨n, HN⟩ : ∃ n, Hid (xs.length = n) := ⟨_, rfl⟩
    have HN1 : Hid (ys.length = n) := by show _ = _; rw [← hl]; exact HN.out
    rw [HN.out] at hm ⊢
    rw [HN1.out] at hm1 ⊢
    clear hl
    go_enter Tryz.func12, Tryz.ntmps12
    go_wp2
    go_loopw [5] (fun i w' => ∃ k : Nat, k ≤ n ∧ i = .int .i64 k ∧ Hid (xs.take k = ys.take k) ∧ ∃ q, w' = w.drewN q) (fun i _ => n - (intOf i).toNat)
    case atStart => exact ⟨0, Nat.zero_le _, rfl, rfl, 0, rfl⟩
    case round =>
      obtain ⟨k, hk, rfl, HD, q, rfl⟩ := hrel
      by_cases hlt : k < n
      · have hlx : k < xs.length := by rw [HN.out]; exact hlt
        have hly : k < ys.length := by rw [HN1.out]; exact hlt
        obtain ⟨b, o, rfl, hb, hc⟩ := HI.out (by omega)
        obtain ⟨b1, o1, rfl, hb1, hc1⟩ := HJ.out (by omega)
        have hck := hc k hlx
        have hck1 := hc1 k hly
        have hk0 : (0 : Int) ≤ (k : Int) := by omega
        have hk1 : (k : Int) < (n : Int) := by omega
        by_cases hv : nth xs k = nth ys k
        · have HT : Hid (xs.take (k + 1) = ys.take (k + 1)) := eqi_take xs ys k hlx hly HD.out hv
          have hvb : (nth xs k != nth ys k) = false := by simp [hv]
          clear hc hc1 hlx hly hv
          go_wp2_with fail
          go_quiet (fail)
          go_wp2
          go_roundw
          case rel => exact ⟨k + 1, by omega, by go_num, HT, _, rfl⟩
          case measure => simp [intOf]; omega
        · have HE := Lib.hid (eqi_ne xs ys k hv)
          have hvb : (nth xs k != nth ys k) = true := by simp [hv]
          clear hc hc1 hlx hly hv
          go_wp2_with fail
          go_quiet (fail)
          go_wp2
          go_ret
          exact ⟨ret_bool HE.out.symm, _, by first | rfl | exact World.drewN_drewN _ _ _⟩
      · have HE : Hid (decide (xs = ys) = true) := by
          show _ = _
          rw [decide_eq_true_iff]
          have := HD.out
          rw [List.take_of_length_le (by rw [HN.out]; omega), List.take_of_length_le (by rw [HN1.out]; omega)] at this
          exact this
        go_wp2
        go_ret
        exact ⟨ret_bool HE.out.symm, _, rfl⟩
  · have HE : Hid (decide (xs = ys) = false) := by show _ = _; rw [decide_eq_false_iff_not]; exact fun e => hl (by rw [e])
    have hne : ((xs.length : Int) != (ys.length : Int)) = true := by simp; omega
    clear hl
    go_enter Tryz.func12, Tryz.ntmps12
    go_wp2
    go_ret
    exact ⟨ret_bool HE.out.symm, 0, rfl⟩

end Go.Proofs.YtkmebilhbjcfpaaGreat

namespace Go.Proofs.YtkmebilhbjcfpaaGreat
open Go.RowKit
set_option linter.unusedVariables false

def zerosZ (k : Nat) : List Int := List.replicate k 0
theorem zeroCells_vals (k : Nat) : (Builtin.zeroCells (Value.int .i64 0).cells k) = (vals (zerosZ k)).toArray := by
  apply Array.ext'
  simp [Builtin.zeroCells, Value.cells, vals, zerosZ]
  apply List.ext_getElem
  · simp
  · intro i h1 h2
    simp [Nat.mod_one]
theorem zerosZ_length (k : Nat) : (zerosZ k).length = k := List.length_replicate

set_option maxRecDepth 100000 in
theorem run_app_zeros (W : World) (base ty : Nat) (A : Option Addr) (c : Nat) (ds : List Int) (k : Nat) (hk : 0 < k) (hown : OwnInts W base A c ds) (hl : ds.length + k ≤ 1000000) (hbase : base ≤ W.heap.size) :
    ∃ v w', (Builtin.append_ #[39, 3] ty #[.slice A ds.length c, .int .i64 k]).run Tryz.prog W = .ok v w' ∧ Appended W base A ds.length c (ds ++ zerosZ k) v w' := by
  obtain ⟨i0, hi0, hz0, hz1, hz2⟩ := info_parts int_info
  have hlen : (ds ++ zerosZ k).length = ds.length + k := by rw [List.length_append, zerosZ_length]
  have hfar := fun g => hown.far (n := ds.length) g
  by_cases hroom : ds.length + k ≤ c
  · rcases hown.2 with ⟨hv, hn⟩ | ⟨g, cap, cur, hv, hbg, hg, hnc, hcm, hcs, htake⟩
    · injection hv with _ _ hc; omega
    · injection hv with hA _ hc
      subst hA hc
      rw [Nat.mul_one] at hcs htake
      have hst := run_storeCells_at Tryz.prog g (ds.length * 1) 3 (vals (zerosZ k)) 0 cur W hg (by rw [vals_length, zerosZ_length]; omega) (vals_one _)
      simp only [Nat.add_zero, Nat.mul_one] at hst
      have hneg : ¬ ((k : Int) < 0) := by omega
      have hw : IntKind.i64.wrap (k : Int) = k := IntWalk.i64_in _ (by omega)
      have h48i : ¬ (281474976710656 < (k : Int) * 8) := by omega
      have hk0 : ¬ k = 0 := by omega
      refine ⟨.slice (some ⟨g, 0, none⟩) (ds.length + k) c, W.setRow g (cur.toList.take ds.length ++ vals (zerosZ k) ++ cur.toList.drop (ds.length + (vals (zerosZ k)).length)).toArray, ?_, ?_⟩
      · simp [Builtin.append_, run_underlying Tryz.underlying39, run_underlying Tryz.underlying3, sizeOf, typeInfo, zeroValue, hi0, hz0, hz1, hz2, asInt, asIntOf, hw, hneg, h48i, hk0, hroom, Addr.add_lit, zeroCells_vals, hst]
      · refine ⟨⟨some ⟨g, 0, none⟩, c, by rw [hlen], ?_⟩, ⟨rfl, rfl, rfl, by simp, fun j _ hj => setRow_other W g j _ (fun e => hj (by simp [Value.ownBlock, e]))⟩, ⟨rfl, rfl, rfl, by simp, fun j hj => setRow_other W g j _ (by omega)⟩⟩
        unfold OwnInts
        rw [hlen]
        refine ⟨by rw [vals_length, hlen]; omega, .inr ⟨g, c, _, rfl, hbg, setRow_heap W g cur _ 3 _ hg, hroom, hcm, ?_, ?_⟩⟩
        · simp only [List.size_toArray, List.length_append, List.length_take, List.length_drop, Array.length_toList, vals_length, zerosZ_length]
          omega
        · rw [Nat.mul_one, htake, vals_append]
          have : ds.length + k = (vals ds ++ vals (zerosZ k)).length := by rw [List.length_append, vals_length, vals_length, zerosZ_length]
          rw [this]
          exact List.take_left
  · have hold : (Builtin.firstCells i0.size ds.length (.slice A ds.length c)).run Tryz.prog W.drew = .ok (vals ds).toArray W.drew := by
      rcases hown.2 with ⟨hv, hn⟩ | ⟨g, cap, cur, hv, hbg, hg, hnc, hcm, hcs, htake⟩
      · injection hv with hA _ _
        subst hA
        have : ds = [] := List.eq_nil_of_length_eq_zero hn
        subst this
        exact run_firstCells_none W.drew i0.size 0 0 c
      · injection hv with hA _ hc
        subst hA
        exact run_firstCells_some W.drew i0.size ds.length ⟨g, 0, none⟩ ds.length c (vals ds) (by rw [vals_length, hz1, Nat.mul_one]) (World.ownsRow.cells hown (g := g) rfl)
    have hr := Lib.run_append_grow_zeros (P := Tryz.prog) W 39 3 ty 3 i0 (.int .i64 0) .i64 .i64 Tryz.underlying39 Tryz.underlying3 hi0 hz0 A ds.length c (vals ds) hold k hk (by omega) (by omega) (by omega) (by rw [hz2]; omega) (by
      rw [hz2]
      exact growslice_fits (by omega) (by omega))
    refine ⟨_, _, hr, ?_⟩
    have hge := grownCap_ge W (ds.length + k) c 3
    have hcm : grownCap W (ds.length + k) c 3 ≤ maxLen := grownCap_le_maxLen W (ds.length + k) c 3 (by unfold maxLen; omega)
    refine ⟨⟨some ⟨W.heap.size, 0, none⟩, grownCap W (ds.length + k) c 3, by rw [hlen], ?_⟩, ⟨rfl, rfl, rfl, by simp, fun j hj _ => Below.heap_alloc W.drew _ j hj⟩, ⟨rfl, rfl, rfl, by simp, fun j hj => Below.heap_alloc W.drew _ j (by simp; omega)⟩⟩
    unfold OwnInts
    rw [hlen]
    refine ⟨by rw [vals_length, hlen]; omega, .inr ⟨W.heap.size, _, _, rfl, hbase, heap_alloc_new W.drew _, hge, hcm, ?_, ?_⟩⟩
    · rw [zeroCells_vals, zeroCells_vals]
      simp only [Array.size_append, List.size_toArray, vals_length, zerosZ_length]
      omega
    · rw [zeroCells_vals, zeroCells_vals, Nat.mul_one, vals_append]
      simp only [Array.toList_append]
      have : ds.length + k = (vals ds ++ vals (zerosZ k)).length := by rw [List.length_append, vals_length, vals_length, zerosZ_length]
      rw [this]
      exact List.take_left

theorem wpList_app_zeros {ops : Array Oper} {rest : List Oper} {o : Oper} {a : Act} {Q : Exit → Act → World → Prop} (hgd : o.guard = none) (s x : Operand) (ho : o.op = .call { callee := .builtin .append, args := #[s, x], argTypes := #[39, 3] })
    (W : World) (base : Nat) (A : Option Addr) (c : Nat) (ds : List Int) (hs : a.eval s = .slice A ds.length c) (k : Nat) (hk : 0 < k) (hx : a.eval x = .int .i64 k)
    (hown : OwnInts W base A c ds) (hl : ds.length + k ≤ 1000000) (hbase : base ≤ W.heap.size)
    (h : ∀ v w', Appended W base A ds.length c (ds ++ zerosZ k) v w' → wpList Tryz.prog ops Q rest (a.put o.dst v) w') : wpList Tryz.prog ops Q (o :: rest) a W := by
  obtain ⟨v', w', hrun, h2⟩ := run_app_zeros W base o.type A c ds k hk hown hl hbase
  exact Lib.wpList_append_run W hgd s x 39 3 ho _ _ hs hx v' w' hrun (h v' w' h2)

end Go.Proofs.YtkmebilhbjcfpaaGreat

namespace Go.Proofs.YtkmebilhbjcfpaaGreat

def keyB (k : Int) : Bool := decide (1 ≤ k) && decide (k < 997)
theorem keyB_iff (k : Int) : keyB k = true ↔ 1 ≤ k ∧ k < 997 := by simp [keyB]
theorem keyB_not (k : Int) : keyB k = false ↔ ¬ (1 ≤ k ∧ k < 997) := by rw [← keyB_iff]; simp
/-- The public key of a secret. -/
def publicOr (s : Int) : Int := if 1 ≤ s ∧ s < 997 then s * 5 % 997 else 0
theorem publicOr_y {s : Int} (h : 1 ≤ s ∧ s < 997) : publicOr s = s * 5 % 997 := by unfold publicOr; rw [if_pos h]
theorem publicOr_n {s : Int} (h : ¬ (1 ≤ s ∧ s < 997)) : publicOr s = 0 := by unfold publicOr; rw [if_neg h]
/-- What is signed. -/
def msgZ (n d : Int) : Int := pairZ n d + 1
theorem msgZ_bd (n d : Int) : 1 ≤ msgZ n d ∧ msgZ n d ≤ 991 := by have := pairZ_bd n d; unfold msgZ; omega
def signZ (s m : Int) : Int := s * m % 997
theorem cop_all : ∀ a, a < 997 → (a = 0 ∨ Nat.gcd 997 a = 1) := by decide +kernel
theorem cancel (a x y : Int) (ha : 1 ≤ a ∧ a < 997) (hx : 0 ≤ x ∧ x < 997) (hy : 0 ≤ y ∧ y < 997) (e : a * x % 997 = a * y % 997) : x = y := by
  have h0 : (a * x - a * y) % 997 = 0 := Int.emod_eq_emod_iff_emod_sub_eq_zero.1 e
  have h1 : (997 : Int) ∣ a * (x - y) := by rw [Int.mul_sub]; exact Int.dvd_of_emod_eq_zero h0
  have h2 : 997 ∣ a.natAbs * (x - y).natAbs := by
    have := Int.natAbs_dvd_natAbs.2 h1
    rwa [Int.natAbs_mul] at this
  have h3 : Nat.gcd 997 a.natAbs = 1 := by
    rcases cop_all a.natAbs (by omega) with h | h
    · omega
    · exact h
  have h4 : 997 ∣ (x - y).natAbs := Nat.Coprime.dvd_of_dvd_mul_left h3 h2
  have h5 : (x - y).natAbs = 0 := Nat.eq_zero_of_dvd_of_lt h4 (by omega)
  omega
theorem prod_bd (a x : Int) (ha : 1 ≤ a ∧ a < 997) (hx : 1 ≤ x ∧ x < 997) : 1 ≤ a * x % 997 ∧ a * x % 997 < 997 := by
  have h1 : a * x % 997 ≠ 0 := fun e => by
    have := cancel a x 0 ha (by omega) (by omega) (by rw [e, Int.mul_zero]; rfl)
    omega
  omega
theorem signZ_bd (s n d : Int) (h : 1 ≤ s ∧ s < 997) : 1 ≤ signZ s (msgZ n d) ∧ signZ s (msgZ n d) < 997 := by
  have := msgZ_bd n d
  exact prod_bd s _ h (by omega)
theorem publicOr_bd {s : Int} (h : 1 ≤ s ∧ s < 997) : 1 ≤ publicOr s ∧ publicOr s < 997 := by
  rw [publicOr_y h]; exact prod_bd s 5 h (by omega)
theorem publicOr_any (s : Int) : 0 ≤ publicOr s ∧ publicOr s < 997 := by
  by_cases h : 1 ≤ s ∧ s < 997
  · have := publicOr_bd h; omega
  · rw [publicOr_n h]; omega
theorem publicOr_inj {s t : Int} (h : 1 ≤ s ∧ s < 997) (k : 1 ≤ t ∧ t < 997) (e : publicOr s = publicOr t) : s = t := by
  rw [publicOr_y h, publicOr_y k, Int.mul_comm s, Int.mul_comm t] at e
  exact cancel 5 s t (by omega) (by omega) (by omega) e
/-- Is a head signed? -/
def signedB (p l d s : Int) : Bool := decide ((1 ≤ p ∧ p < 997) ∧ (0 ≤ l ∧ l ≤ 16) ∧ (0 ≤ d ∧ d < 991) ∧ (1 ≤ s ∧ s < 997) ∧ s * 5 % 997 = p * msgZ l d % 997)
theorem signedB_iff (p l d s : Int) : signedB p l d s = true ↔ ((1 ≤ p ∧ p < 997) ∧ (0 ≤ l ∧ l ≤ 16) ∧ (0 ≤ d ∧ d < 991) ∧ (1 ≤ s ∧ s < 997) ∧ s * 5 % 997 = p * msgZ l d % 997) := by simp [signedB]
theorem signedB_no {p l d s : Int} (h : ¬ ((1 ≤ p ∧ p < 997) ∧ (0 ≤ l ∧ l ≤ 16) ∧ (0 ≤ d ∧ d < 991) ∧ (1 ≤ s ∧ s < 997) ∧ s * 5 % 997 = p * msgZ l d % 997)) : signedB p l d s = false := by
  rw [Bool.eq_false_iff]; exact fun e => h ((signedB_iff _ _ _ _).1 e)
theorem emod_times (a b n : Int) : a % n * b % n = a * b % n := by rw [Int.mul_emod, Int.emod_emod_of_dvd a (Int.dvd_refl n), ← Int.mul_emod]
theorem signed_made (s l d : Int) (h : 1 ≤ s ∧ s < 997) (hl : 0 ≤ l ∧ l ≤ 16) (hd : 0 ≤ d ∧ d < 991) : signedB (publicOr s) l d (signZ s (msgZ l d)) = true := by
  rw [signedB_iff]
  refine ⟨publicOr_bd h, hl, hd, signZ_bd s l d h, ?_⟩
  rw [publicOr_y h]
  unfold signZ
  rw [emod_times, emod_times, Int.mul_assoc, Int.mul_assoc, Int.mul_comm 5]
theorem signed_key {p q l d s : Int} (h : signedB p l d s = true) (hne : q ≠ p) : signedB q l d s = false := by
  refine signedB_no fun k => hne ?_
  obtain ⟨hp, _, _, _, e⟩ := (signedB_iff _ _ _ _).1 h
  obtain ⟨hq, _, _, _, e'⟩ := k
  have hm := msgZ_bd l d
  rw [e, Int.mul_comm p, Int.mul_comm q] at e'
  exact (cancel _ p q (by omega) (by omega) (by omega) e').symm
theorem msgZ_d {l d d' : Int} (h : 0 ≤ d ∧ d < 991) (h' : 0 ≤ d' ∧ d' < 991) (e : msgZ l d' = msgZ l d) : d' = d := by
  unfold msgZ at e
  exact pairZ_right l d d' h h' (by omega)
theorem msgZ_l {l l' d : Int} (h : 0 ≤ l ∧ l ≤ 16) (h' : 0 ≤ l' ∧ l' ≤ 16) (e : msgZ l' d = msgZ l d) : l' = l := by
  unfold msgZ at e
  exact pairZ_left l l' d (by omega) (by omega) (by omega)
theorem signed_msg {p l d l' d' s : Int} (h : signedB p l d s = true) (hne : msgZ l' d' ≠ msgZ l d) : signedB p l' d' s = false := by
  refine signedB_no fun k => hne ?_
  obtain ⟨hp, _, _, _, e⟩ := (signedB_iff _ _ _ _).1 h
  obtain ⟨_, _, _, _, e'⟩ := k
  have hm := msgZ_bd l d
  have hm' := msgZ_bd l' d'
  rw [e] at e'
  exact (cancel p _ _ hp (by omega) (by omega) e').symm
theorem signed_digest {p l d d' s : Int} (h : signedB p l d s = true) (h' : 0 ≤ d' ∧ d' < 991) (hne : d' ≠ d) : signedB p l d' s = false :=
  signed_msg h fun e => hne (msgZ_d ((signedB_iff _ _ _ _).1 h).2.2.1 h' e)
theorem signed_length {p l d l' s : Int} (h : signedB p l d s = true) (h' : 0 ≤ l' ∧ l' ≤ 16) (hne : l' ≠ l) : signedB p l' d s = false :=
  signed_msg h fun e => hne (msgZ_l ((signedB_iff _ _ _ _).1 h).2.1 h' e)
theorem signed_sign {p l d s s' : Int} (h : signedB p l d s = true) (hne : s' ≠ s) : signedB p l d s' = false := by
  refine signedB_no fun k => hne ?_
  obtain ⟨_, _, _, hs, e⟩ := (signedB_iff _ _ _ _).1 h
  obtain ⟨_, _, _, hs', e'⟩ := k
  rw [← e, Int.mul_comm s, Int.mul_comm s'] at e'
  exact cancel 5 s' s (by omega) (by omega) (by omega) e'
theorem sign_change {s l d d' : Int} (h : 1 ≤ s ∧ s < 997) (hd : 0 ≤ d ∧ d < 991) (hd' : 0 ≤ d' ∧ d' < 991) (hne : d' ≠ d) : signZ s (msgZ l d') ≠ signZ s (msgZ l d) := fun e => by
  have hm := msgZ_bd l d
  have hm' := msgZ_bd l d'
  exact hne (msgZ_d hd hd' (cancel s _ _ h (by omega) (by omega) e))
/-- Another key. -/
def nextZ (k by_ : Int) : Int := 1 + (k + by_ % 995) % 996
theorem nextZ_bd (k by_ : Int) : 1 ≤ nextZ k by_ ∧ nextZ k by_ < 997 := by unfold nextZ; omega
theorem nextZ_ne (k : Int) (m : Nat) : nextZ k m ≠ k := by unfold nextZ; omega
/-- Another length. -/
def longZ (l by_ : Int) : Int := (l + 1 + by_ % 16) % 17
theorem longZ_bd (l by_ : Int) : 0 ≤ longZ l by_ ∧ longZ l by_ ≤ 16 := by unfold longZ; omega
theorem longZ_ne (l : Int) (m : Nat) : longZ l m ≠ l := by unfold longZ; omega

end Go.Proofs.YtkmebilhbjcfpaaGreat

namespace Go.Proofs.YtkmebilhbjcfpaaGreat
open Go.RowKit

set_option maxHeartbeats 400000 in
theorem byte_any (d b : Int) (w : World) (h0 : 0 ≤ d) (h1 : d < 991) (h2 : 0 ≤ b) (h3 : b < 256) :
    Calls Tryz.prog 156 #[.int .i64 d, .int .u8 b] w fun e w' => e = .returned (.int .i64 (byteZ d b)) ∧ w = w' := by
  go_enter Tryz.func156, Tryz.ntmps156
  go_wp2
  go_ret
  exact ⟨ret_int (by unfold byteZ; omega), rfl⟩

def textFrom (d : Int) (l : List UInt8) : Int := l.foldl (fun d b => byteZ d (b.toNat : Int)) d
def textZ (l : List UInt8) : Int := textFrom 11 l
theorem byteZ_bd (d b : Int) : 0 ≤ byteZ d b ∧ byteZ d b < 991 := by unfold byteZ; omega
theorem textFrom_bd (l : List UInt8) : ∀ d : Int, 0 ≤ d ∧ d < 991 → 0 ≤ textFrom d l ∧ textFrom d l < 991 := by
  induction l with
  | nil => intro d h; exact h
  | cons b l ih => intro d h; exact ih _ (byteZ_bd _ _)
theorem textZ_bd (l : List UInt8) : 0 ≤ textZ l ∧ textZ l < 991 := textFrom_bd l 11 (by omega)
theorem textZ_snoc (l : List UInt8) (c : UInt8) : textZ (l ++ [c]) = byteZ (textZ l) (c.toNat : Int) := by
  unfold textZ textFrom; rw [List.foldl_append]; rfl
theorem take_snoc (s : ByteArray) (k : Nat) (h : k < s.size) : s.data.toList.take (k + 1) = s.data.toList.take k ++ [s[k]] := by
  rw [List.take_succ_eq_append_getElem (by simpa using h)]; rfl
theorem textZ_take (s : ByteArray) (k : Nat) (h : k < s.size) : textZ (s.data.toList.take (k + 1)) = byteZ (textZ (s.data.toList.take k)) (s[k].toNat : Int) := by
  rw [take_snoc s k h, textZ_snoc]

def textOr (s : ByteArray) : Int := if s.size ≤ 8 then textZ s.data.toList else -1
theorem textOr_y {s : ByteArray} (h : s.size ≤ 8) : textOr s = textZ s.data.toList := by unfold textOr; rw [if_pos h]
theorem textOr_n {s : ByteArray} (h : ¬ s.size ≤ 8) : textOr s = -1 := by unfold textOr; rw [if_neg h]
theorem take_all (s : ByteArray) (k : Nat) (h : s.size ≤ k) : s.data.toList.take k = s.data.toList := by
  rw [List.take_of_length_le (by simpa using h)]

set_option maxHeartbeats 800000 in
theorem text_any (s : ByteArray) (w : World) (hs : s.size ≤ maxLen) :
    Calls Tryz.prog 126 #[.string s] w fun e w' => e = .returned (.int .i64 (textOr s)) ∧ w = w' := by
  by_cases h8 : s.size ≤ 8
  · have HE := Lib.hid (textOr_y h8)
    clear hs
    go_enter Tryz.func126, Tryz.ntmps126
    go_wp2
    go_loop [3, 10] (fun n i => ∃ k : Nat, k ≤ s.size ∧ i = .int .i64 k ∧ n = .int .i64 (textZ (s.data.toList.take k))) (fun _ i => s.size - (intOf i).toNat)
    case atStart => exact ⟨0, Nat.zero_le _, rfl, rfl⟩
    case round =>
      obtain ⟨k, hk, rfl, rfl⟩ := hrel
      obtain ⟨hd0, hd1⟩ := textZ_bd (s.data.toList.take k)
      by_cases hlt : k < s.size
      · have HS := Lib.hid (textZ_take s k hlt)
        have hb0 : (s[k].toNat : Int) < 256 := by have := s[k].toNat_lt; omega
        go_wp2_with fail
        refine (byte_any _ _ _ (by omega) (by omega) (by omega) (by omega)).mono ?_
        rintro e w' ⟨rfl, rfl⟩
        go_wp2
        go_round
        case rel => exact ⟨k + 1, by omega, by go_num, by rw [HS.out]⟩
        case measure => simp [intOf]; omega
      · go_wp2
        go_ret
        exact ⟨ret_int (by rw [HE.out, take_all s k (by omega)]), rfl⟩
  · have HE := Lib.hid (textOr_n h8)
    unfold maxLen at hs
    have h9 : 8 < s.size := by omega
    clear h8
    go_enter Tryz.func126, Tryz.ntmps126
    go_wp2
    go_ret
    exact ⟨ret_int HE.out.symm, rfl⟩

set_option maxHeartbeats 800000 in
theorem stext1_any (s : ByteArray) (w : World) (hs : s.size ≤ 8) :
    Calls Tryz.prog 59 #[.string s] w fun e w' => e = .returned (.int .i64 (textZ s.data.toList)) ∧ w = w' := by
  go_enter Tryz.func59, Tryz.ntmps59
  go_wp2
  go_loop [3, 4] (fun n i => ∃ k : Nat, k ≤ s.size ∧ i = .int .i64 k ∧ n = .int .i64 (textZ (s.data.toList.take k))) (fun _ i => s.size - (intOf i).toNat)
  case atStart => exact ⟨0, Nat.zero_le _, rfl, rfl⟩
  case round =>
    obtain ⟨k, hk, rfl, rfl⟩ := hrel
    obtain ⟨hd0, hd1⟩ := textZ_bd (s.data.toList.take k)
    by_cases hlt : k < s.size
    · have HS := Lib.hid (textZ_take s k hlt)
      have hb0 : (s[k].toNat : Int) < 256 := by have := s[k].toNat_lt; omega
      go_wp2
      go_round
      case rel => exact ⟨k + 1, by omega, by go_num, by rw [HS.out]; unfold byteZ; go_num⟩
      case measure => simp [intOf]; omega
    · go_wp2
      go_ret
      exact ⟨ret_int (by rw [take_all s k (by omega)]), rfl⟩



end Go.Proofs.YtkmebilhbjcfpaaGreat

namespace Go.Proofs.YtkmebilhbjcfpaaGreat
open Go.RowKit

theorem tmod_nat (a b : Nat) : ((a : Int)).tmod (b : Int) = ((a % b : Nat) : Int) := rfl
theorem tdiv_nat (a b : Nat) : ((a : Int)).tdiv (b : Int) = ((a / b : Nat) : Int) := rfl

theorem xor_small (a b : Int) (ha : 0 ≤ a) (ha2 : a < 4611686018427387904) (hb : 0 ≤ b) (hb2 : b < 4611686018427387904) : ∃ x : Nat, bits .xor .i64 a b = (x : Int) := by
  obtain ⟨A, rfl⟩ := Int.eq_ofNat_of_zero_le ha
  obtain ⟨C, rfl⟩ := Int.eq_ofNat_of_zero_le hb
  have hx : A ^^^ C < 2 ^ 62 := Nat.xor_lt_two_pow (by omega) (by omega)
  have one : ∀ m : Nat, m < 4611686018427387904 → (BitVec.ofInt 64 (m : Int)).toNat = m := by
    intro m hm
    rw [BitVec.ofInt_natCast, BitVec.toNat_ofNat]
    exact Nat.mod_eq_of_lt (by omega)
  refine ⟨A ^^^ C, ?_⟩
  show IntKind.i64.wrap ((BitVec.ofInt 64 (A : Int) ^^^ BitVec.ofInt 64 (C : Int)).toNat : Int) = _
  rw [BitVec.toNat_xor, one A (by omega), one C (by omega)]
  exact IntWalk.i64_in _ (by omega)

theorem rem_small (x : Nat) (n : Int) (hn : 1 ≤ n) : ∃ y : Nat, (x : Int).tmod n = (y : Int) ∧ (y : Int) < n := by
  obtain ⟨N, rfl⟩ := Int.eq_ofNat_of_zero_le (show 0 ≤ n by omega)
  refine ⟨x % N, tmod_nat x N, ?_⟩
  have := Nat.mod_lt x (show 0 < N by omega)
  omega

/-- The bytes of a slice: below block B, each a byte. -/
def BytesAt (w : World) (B : Nat) (A : Option Addr) (len : Nat) : Prop :=
  ∀ k, k < len → ∃ b o z, A = some ⟨b, o, none⟩ ∧ b < B ∧ w.cell? ⟨b, o + k, none⟩ = some (.int .u8 z) ∧ 0 ≤ z ∧ z < 256

















end Go.Proofs.YtkmebilhbjcfpaaGreat

namespace Go.Proofs.YtkmebilhbjcfpaaGreat
open Go.RowKit

/-- What is known of a slice of bytes that came in. -/
structure In (w : World) (A : Option Addr) (len cap : Nat) : Prop where
  bytes : BytesAt w w.heap.size A len
  le : len ≤ cap
  most : cap ≤ maxLen











end Go.Proofs.YtkmebilhbjcfpaaGreat

namespace Go.Proofs.YtkmebilhbjcfpaaGreat
open Go.RowKit

/-- A slice of integers that came in: nil, or a row of cap cells with the numbers zs, each fitting its kind. -/
def IsRow (k : IntKind) (w : World) (a : Option Addr) (len cap : Nat) (zs : List Int) : Prop :=
  (a = none ∧ len = 0 ∧ cap = 0 ∧ zs = []) ∨
  ∃ x, a = some x ∧ len ≤ cap ∧ cap ≤ maxLen ∧ zs.length = cap ∧ (∀ i, i < zs.length → w.cell? (x.add i) = some (.int k (zs.getD i 0))) ∧ ∀ n ∈ zs, (Lit.int k n).wf = true

theorem byte_of_wf {n : Int} (h : (Lit.int .u8 n).wf = true) : 0 ≤ n ∧ n < 256 := by
  simp [Lit.wf, IntKind.min, IntKind.max, IntKind.bits, IntKind.signed] at h
  omega

theorem In.of_row {w : World} {a : Option Addr} {len cap : Nat} {zs : List Int} (h : IsRow .u8 w a len cap zs) : In w a len cap := by
  rcases h with ⟨rfl, rfl, rfl, rfl⟩ | ⟨x, rfl, hl, hm, hz, hc, hw⟩
  · exact ⟨fun k hk => absurd hk (by omega), Nat.le_refl _, Nat.zero_le _⟩
  · refine ⟨fun k hk => ?_, hl, hm⟩
    have hk' : k < zs.length := by omega
    have hck := hc k hk'
    obtain ⟨b, o, sp⟩ := x
    have hs := World.cell?_spot (hc 0 (by omega))
    have hs0 : sp = none := by simpa [Addr.add] using hs
    subst hs0
    have hadd : (Addr.mk b o none).add k = ⟨b, o + k, none⟩ := by
      unfold Addr.add
      by_cases h0 : k = 0
      · subst h0; simp
      · simp [h0]
    rw [hadd] at hck
    have hmem : zs.getD k 0 ∈ zs := by
      rw [List.getD_eq_getElem?_getD, List.getElem?_eq_getElem hk']
      simp
    have hwf := byte_of_wf (hw _ hmem)
    exact ⟨b, o, _, rfl, World.block_lt_of_cell? w _ hck, hck, hwf.1, hwf.2⟩

theorem In.len_le {w : World} {a : Option Addr} {len cap : Nat} (h : In w a len cap) : len ≤ maxLen := Nat.le_trans h.le h.most

end Go.Proofs.YtkmebilhbjcfpaaGreat

namespace Go.Proofs.YtkmebilhbjcfpaaGreat
open Go.RowKit
set_option linter.unusedVariables false

/-- string([]byte{y}), the slice just made. -/
theorem run_one_byte (w : World) (y : Int) :
    (convert 176 9 (.slice (some ⟨w.heap.size, 0, none⟩) 1 1)).run Tryz.prog (w.alloc (.cells #[.int .u8 y] 5)) = .ok (.string (ByteArray.empty.push (UInt8.ofNat y.toNat))) (w.alloc (.cells #[.int .u8 y] 5)) := by
  rw [run_convert_bytes_string _ 176 9 5 _ _ _ Tryz.underlying176 Tryz.underlying5 Tryz.underlying9]
  have h : (loadCells ⟨w.heap.size, 0, none⟩ 1).run Tryz.prog (w.alloc (.cells #[.int .u8 y] 5)) = .ok ([y].map (Value.int .u8)).toArray (w.alloc (.cells #[.int .u8 y] 5)) := by
    refine run_loadCells_list _ ⟨w.heap.size, 0, none⟩ [.int .u8 y] (fun j v hj => ?_)
    rcases j with _ | j
    · simp at hj
      subst hj
      exact cell_of_row (w.alloc (.cells #[.int .u8 y] 5)) w.heap.size 0 _ _ (0, 0) (heap_alloc_new w _)
    · simp at hj
  rw [run_bytesToString _ _ 1 1 [y] h]
  rfl

theorem push_size (s : ByteArray) (b : UInt8) (k : Nat) (h : s.size = k) : (s ++ ByteArray.empty.push b).size = k + 1 := by
  rw [ByteArray.size_append, h]; rfl

end Go.Proofs.YtkmebilhbjcfpaaGreat

namespace Go.Proofs.YtkmebilhbjcfpaaGreat
open Go.RowKit
set_option linter.unusedVariables false

set_option maxHeartbeats 400000 in
theorem key_yes (a : Int) (w : World) (h0 : 1 ≤ a) (h1 : a < 997) :
    Calls Tryz.prog 72 #[.int .i64 a] w fun e w' => e = .returned (.bool true) ∧ w = w' := by
  go_enter Tryz.func72, Tryz.ntmps72
  go_wp2
  go_ret
  exact ⟨rfl, rfl⟩

set_option maxHeartbeats 400000 in
theorem key_no (a : Int) (w : World) (h : ¬ (1 ≤ a ∧ a < 997)) :
    Calls Tryz.prog 72 #[.int .i64 a] w fun e w' => e = .returned (.bool false) ∧ w = w' := by
  by_cases h0 : 1 ≤ a
  · have h1 : ¬ a < 997 := by omega
    clear h
    go_enter Tryz.func72, Tryz.ntmps72
    go_wp2
    go_ret
    exact ⟨rfl, rfl⟩
  · clear h
    go_enter Tryz.func72, Tryz.ntmps72
    go_wp2
    go_ret
    exact ⟨rfl, rfl⟩

theorem mul_bd (a b : Int) (h0 : 0 ≤ a) (h1 : a < 997) (h2 : 0 ≤ b) (h3 : b < 997) : 0 ≤ a * b ∧ a * b ≤ 1000000 := by
  refine ⟨Int.mul_nonneg h0 h2, ?_⟩
  have := Int.mul_le_mul (show a ≤ 1000 by omega) (show b ≤ 1000 by omega) h2 (by omega)
  omega

set_option maxHeartbeats 400000 in
theorem times_any (a b : Int) (w : World) (h0 : 0 ≤ a) (h1 : a < 997) (h2 : 0 ≤ b) (h3 : b < 997) :
    Calls Tryz.prog 122 #[.int .i64 a, .int .i64 b] w fun e w' => e = .returned (.int .i64 (a * b % 997)) ∧ w = w' := by
  obtain ⟨m0, m1⟩ := mul_bd a b h0 h1 h2 h3
  go_enter Tryz.func122, Tryz.ntmps122
  go_wp2
  go_ret
  exact ⟨rfl, rfl⟩

set_option maxHeartbeats 400000 in
theorem skey_yes (a : Int) (w : World) (h0 : 1 ≤ a) (h1 : a < 997) :
    Calls Tryz.prog 50 #[.int .i64 a] w fun e w' => e = .returned (.bool true) ∧ w = w' := by
  go_enter Tryz.func50, Tryz.ntmps50
  go_wp2_with fail
  refine (in_yes _ _ _ _ (by omega) (by omega)).mono ?_
  rintro e w' ⟨rfl, rfl⟩
  go_wp2
  go_ret
  exact ⟨rfl, rfl⟩

set_option maxHeartbeats 400000 in
theorem skey_no (a : Int) (w : World) (h : ¬ (1 ≤ a ∧ a < 997)) :
    Calls Tryz.prog 50 #[.int .i64 a] w fun e w' => e = .returned (.bool false) ∧ w = w' := by
  go_enter Tryz.func50, Tryz.ntmps50
  go_wp2_with fail
  refine (in_no _ _ _ _ (by omega)).mono ?_
  rintro e w' ⟨rfl, rfl⟩
  go_wp2
  go_ret
  exact ⟨rfl, rfl⟩

set_option maxHeartbeats 400000 in
theorem smsg_any (n d : Int) (w : World) (h0 : 0 ≤ n) (h1 : n ≤ 16) (h2 : 0 ≤ d) (h3 : d < 991) :
    Calls Tryz.prog 105 #[.int .i64 n, .int .i64 d] w fun e w' => e = .returned (.int .i64 (msgZ n d)) ∧ w = w' := by
  obtain ⟨b0, b1⟩ := pairZ_bd n d
  go_enter Tryz.func105, Tryz.ntmps105
  go_wp2_with fail
  refine (spair1_any _ _ _ (by omega) (by omega) (by omega) (by omega)).mono ?_
  rintro e w' ⟨rfl, rfl⟩
  go_wp2
  go_ret
  exact ⟨rfl, rfl⟩

set_option maxHeartbeats 400000 in
theorem public_any (a : Int) (w : World) :
    Calls Tryz.prog 74 #[.int .i64 a] w fun e w' => e = .returned (.int .i64 (publicOr a)) ∧ w = w' := by
  by_cases ha : 1 ≤ a ∧ a < 997
  · have HE := Lib.hid (publicOr_y ha)
    obtain ⟨h0, h1⟩ := ha
    go_enter Tryz.func74, Tryz.ntmps74
    go_wp2_with fail
    refine (key_yes _ _ h0 h1).mono ?_
    rintro e w' ⟨rfl, rfl⟩
    go_wp2_with fail
    refine (times_any _ _ _ (by omega) (by omega) (by omega) (by omega)).mono ?_
    rintro e w' ⟨rfl, rfl⟩
    go_wp2
    go_ret
    exact ⟨ret_int HE.out.symm, rfl⟩
  · have HE := Lib.hid (publicOr_n ha)
    have HA := Lib.hid ha
    clear ha
    go_enter Tryz.func74, Tryz.ntmps74
    go_wp2_with fail
    refine (key_no _ _ HA.out).mono ?_
    rintro e w' ⟨rfl, rfl⟩
    go_wp2
    go_ret
    exact ⟨ret_int HE.out.symm, rfl⟩

set_option maxHeartbeats 400000 in
theorem spublic_any (a : Int) (w : World) :
    Calls Tryz.prog 53 #[.int .i64 a] w fun e w' => e = .returned (.int .i64 (publicOr a)) ∧ w = w' := by
  by_cases ha : 1 ≤ a ∧ a < 997
  · have HE := Lib.hid (publicOr_y ha)
    obtain ⟨h0, h1⟩ := ha
    go_enter Tryz.func53, Tryz.ntmps53
    go_wp2_with fail
    refine (skey_yes _ _ h0 h1).mono ?_
    rintro e w' ⟨rfl, rfl⟩
    go_wp2
    go_ret
    exact ⟨ret_int HE.out.symm, rfl⟩
  · have HE := Lib.hid (publicOr_n ha)
    have HA := Lib.hid ha
    clear ha
    go_enter Tryz.func53, Tryz.ntmps53
    go_wp2_with fail
    refine (skey_no _ _ HA.out).mono ?_
    rintro e w' ⟨rfl, rfl⟩
    go_wp2
    go_ret
    exact ⟨ret_int HE.out.symm, rfl⟩

end Go.Proofs.YtkmebilhbjcfpaaGreat
