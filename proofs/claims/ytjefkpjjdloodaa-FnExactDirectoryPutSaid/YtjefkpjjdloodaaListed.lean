/- Nodes of a directory: as data, in memory, when a list of them is valid and what the functions answer. No conditions. -/
import Derived.Test.YtjefkpjjdloodaaRow
import Derived.Test.YtjefkpjjdloodaaBlk
namespace Go.Proofs.Ytjefkpjjdloodaa
open Go.RowKit
set_option linter.unusedVariables false

/-- A listed node as data. -/
structure LD where
  n : Int
  t : Int
theorem LD.same {x y : LD} (h : x.n = y.n) (k : x.t = y.t) : x = y := by
  cases x; cases y; simp only at h k; rw [h, k]
def eqL (x y : LD) : Bool := x.n == y.n && x.t == y.t
theorem eqL_iff (x y : LD) : eqL x y = true ↔ x = y := by
  unfold eqL
  rw [Bool.and_eq_true, beq_iff_eq, beq_iff_eq]
  exact ⟨fun h => LD.same h.1 h.2, fun h => by rw [h]; exact ⟨rfl, rfl⟩⟩
theorem eqL_self (x : LD) : eqL x x = true := (eqL_iff x x).2 rfl
/-- The k-th node. -/
def lth (xs : List LD) (k : Nat) : LD := xs.getD k ⟨0, 0⟩
theorem lth_get (xs : List LD) (k : Nat) (h : k < xs.length) : xs[k]? = some (lth xs k) := by
  unfold lth; rw [List.getD_eq_getElem?_getD, List.getElem?_eq_getElem h]; rfl
theorem lth_eq (xs : List LD) (k : Nat) (h : k < xs.length) : lth xs k = xs[k] := by
  have := lth_get xs k h
  rw [List.getElem?_eq_getElem h] at this
  injection this with this
  exact this.symm
theorem lth_mem (xs : List LD) (k : Nat) (h : k < xs.length) : lth xs k ∈ xs := by
  rw [lth_eq xs k h]; exact List.getElem_mem h
theorem mem_lth {xs : List LD} {x : LD} (h : x ∈ xs) : ∃ k, k < xs.length ∧ lth xs k = x := by
  obtain ⟨k, hk, rfl⟩ := List.mem_iff_getElem.1 h
  exact ⟨k, hk, lth_eq xs k hk⟩
theorem take_lth (xs : List LD) (k : Nat) (h : k < xs.length) : xs.take (k + 1) = xs.take k ++ [lth xs k] := by
  rw [List.take_succ_eq_append_getElem h, lth_eq xs k h]
theorem drop_lth (xs : List LD) (k : Nat) (h : k < xs.length) : xs.drop k = lth xs k :: xs.drop (k + 1) := by
  rw [List.drop_eq_getElem_cons h, lth_eq xs k h]
theorem lth_left (a b : List LD) (k : Nat) (h : k < a.length) : lth (a ++ b) k = lth a k := by
  unfold lth; rw [List.getD_eq_getElem?_getD, List.getD_eq_getElem?_getD, List.getElem?_append_left h]
theorem lth_snoc (a : List LD) (r : LD) : lth (a ++ [r]) a.length = r := by
  unfold lth; rw [List.getD_eq_getElem?_getD, List.getElem?_append_right (Nat.le_refl _), Nat.sub_self]; rfl
theorem lis_ext {a b : List LD} (hl : a.length = b.length) (h : ∀ k, k < a.length → lth a k = lth b k) : a = b := by
  refine List.ext_getElem hl fun k h1 h2 => ?_
  have := h k h1
  rwa [lth_eq a k h1, lth_eq b k h2] at this
theorem fcount_step (f : LD → Bool) (xs : List LD) (k : Nat) (h : k < xs.length) : (xs.take (k + 1)).filter f = (xs.take k).filter f ++ (if f (lth xs k) = true then [lth xs k] else []) := by
  rw [take_lth xs k h, List.filter_append]
  congr 1
  rw [List.filter_cons]
  cases f (lth xs k) <;> rfl

/-! ### nodes in memory -/
def LK : Kind LD := ⟨41, 2, 16, fun r => [.int .i64 r.n, .int .i64 r.t], fun _ => rfl, fun r u hu => by
  simp only [List.mem_cons, List.not_mem_nil, or_false] at hu
  rcases hu with rfl | rfl <;> rfl, by decide⟩
theorem lis_info : (Try.prog.info? 41).map (fun i => (i.zero, i.size, i.bytes)) = some (some (.agg #[.int .i64 0, .int .i64 0]), 2, 16) := by kernel_rfl
abbrev lisV (a : LD) : Value := .agg #[.int .i64 a.n, .int .i64 a.t]
section
variable {w w' : World} {B base cap : Nat} {A : Option Addr} {xs : List LD}
/-- The two cells of a node. -/
theorem lis_cells {b o : Nat} (h : RowAt LK w B (some ⟨b, o, none⟩) xs) (k : Nat) (hk : k < xs.length) : w.cell? ⟨b, o + k * 2, none⟩ = some (.int .i64 (lth xs k).n) ∧ w.cell? ⟨b, o + k * 2 + 1, none⟩ = some (.int .i64 (lth xs k).t) := by
  have hc := (h.lt (by omega)).2 k (lth xs k) (lth_get xs k hk)
  exact ⟨hc 0 _ rfl, hc 1 _ rfl⟩
theorem lis2 {W : World} {g : Nat} {t : TypeId} {v0 v1 : Value} (h : Blk W g t #[v0, v1]) : W.cell? ⟨g, 0, none⟩ = some v0 ∧ W.cell? ⟨g, 1, none⟩ = some v1 := ⟨h.cell 0, h.cell 1⟩
end
theorem lis_app_info : ∃ i z, Try.prog.info? LK.e = some i ∧ i.zero = some z ∧ i.size = LK.k ∧ i.bytes = LK.by_ ∧ z.cells.size = LK.k := by
  obtain ⟨i0, hi0, hz0, hz1, hz2⟩ := info_parts lis_info
  exact ⟨i0, _, hi0, hz0, hz1, hz2, rfl⟩
/-- The nodes of a list lie in memory, below block B. -/
structure LisAt (w : World) (B : Nat) (A : Option Addr) (c : Nat) (xs : List LD) : Prop where
  row : RowAt LK w B A xs
  le : xs.length ≤ c
  most : c ≤ maxLen
  nil0 : A = none → c = 0
section
variable {w w' : World} {B : Nat} {A : Option Addr} {c : Nat} {xs : List LD}
theorem LisAt.belowS (h : LisAt w w.heap.size A c xs) (hb : Below w.heap.size w w') : LisAt w' w'.heap.size A c xs := ⟨h.row.belowS hb, h.le, h.most, h.nil0⟩
theorem LisAt.allocS (h : LisAt w w.heap.size A c xs) (o : Obj) : LisAt (w.alloc o) (w.alloc o).heap.size A c xs := ⟨h.row.allocS o, h.le, h.most, h.nil0⟩
theorem LisAt.first (h : LisAt w B A c xs) (n : Nat) : LisAt w B A c (xs.take n) := ⟨h.row.first n, by rw [List.length_take]; have := h.le; omega, h.most, h.nil0⟩
theorem own_lis {base : Nat} (h : OwnRow LK w base A c xs) : LisAt w w.heap.size A c xs := ⟨h.at_, h.le.1, h.le.2, h.nil_cap⟩
end

end Go.Proofs.Ytjefkpjjdloodaa
