/- Keys with values: as data, in memory, when a list of them is valid and what the functions answer. No conditions. -/
import Derived.Test.YteckmbmpellkgaaRow
import Derived.Test.YteckmbmpellkgaaBlk
namespace Go.Proofs.Yteckmbmpellkgaa
open Go.RowKit
set_option linter.unusedVariables false

/-- A listed pair as data. -/
structure VD where
  n : Int
  t : Int
theorem VD.same {x y : VD} (h : x.n = y.n) (k : x.t = y.t) : x = y := by
  cases x; cases y; simp only at h k; rw [h, k]
def eqV (x y : VD) : Bool := x.n == y.n && x.t == y.t
theorem eqV_iff (x y : VD) : eqV x y = true ↔ x = y := by
  unfold eqV
  rw [Bool.and_eq_true, beq_iff_eq, beq_iff_eq]
  exact ⟨fun h => VD.same h.1 h.2, fun h => by rw [h]; exact ⟨rfl, rfl⟩⟩
theorem eqV_self (x : VD) : eqV x x = true := (eqV_iff x x).2 rfl
/-- The k-th pair. -/
def vth (xs : List VD) (k : Nat) : VD := xs.getD k ⟨0, 0⟩
theorem vth_get (xs : List VD) (k : Nat) (h : k < xs.length) : xs[k]? = some (vth xs k) := by
  unfold vth; rw [List.getD_eq_getElem?_getD, List.getElem?_eq_getElem h]; rfl
theorem vth_eq (xs : List VD) (k : Nat) (h : k < xs.length) : vth xs k = xs[k] := by
  have := vth_get xs k h
  rw [List.getElem?_eq_getElem h] at this
  injection this with this
  exact this.symm
theorem vth_mem (xs : List VD) (k : Nat) (h : k < xs.length) : vth xs k ∈ xs := by
  rw [vth_eq xs k h]; exact List.getElem_mem h
theorem mem_vth {xs : List VD} {x : VD} (h : x ∈ xs) : ∃ k, k < xs.length ∧ vth xs k = x := by
  obtain ⟨k, hk, rfl⟩ := List.mem_iff_getElem.1 h
  exact ⟨k, hk, vth_eq xs k hk⟩
theorem take_vth (xs : List VD) (k : Nat) (h : k < xs.length) : xs.take (k + 1) = xs.take k ++ [vth xs k] := by
  rw [List.take_succ_eq_append_getElem h, vth_eq xs k h]
theorem drop_vth (xs : List VD) (k : Nat) (h : k < xs.length) : xs.drop k = vth xs k :: xs.drop (k + 1) := by
  rw [List.drop_eq_getElem_cons h, vth_eq xs k h]
theorem vth_left (a b : List VD) (k : Nat) (h : k < a.length) : vth (a ++ b) k = vth a k := by
  unfold vth; rw [List.getD_eq_getElem?_getD, List.getD_eq_getElem?_getD, List.getElem?_append_left h]
theorem vth_snoc (a : List VD) (r : VD) : vth (a ++ [r]) a.length = r := by
  unfold vth; rw [List.getD_eq_getElem?_getD, List.getElem?_append_right (Nat.le_refl _), Nat.sub_self]; rfl
theorem pv_ext {a b : List VD} (hl : a.length = b.length) (h : ∀ k, k < a.length → vth a k = vth b k) : a = b := by
  refine List.ext_getElem hl fun k h1 h2 => ?_
  have := h k h1
  rwa [vth_eq a k h1, vth_eq b k h2] at this
theorem vfilter_step (f : VD → Bool) (xs : List VD) (k : Nat) (h : k < xs.length) : (xs.take (k + 1)).filter f = (xs.take k).filter f ++ (if f (vth xs k) = true then [vth xs k] else []) := by
  rw [take_vth xs k h, List.filter_append]
  congr 1
  rw [List.filter_cons]
  cases f (vth xs k) <;> rfl

/-! ### pairs in memory -/
def VK : Kind VD := ⟨29, 2, 16, fun r => [.int .i64 r.n, .int .i64 r.t], fun _ => rfl, fun r u hu => by
  simp only [List.mem_cons, List.not_mem_nil, or_false] at hu
  rcases hu with rfl | rfl <;> rfl, by decide⟩
theorem pv_info : (Try.prog.info? 29).map (fun i => (i.zero, i.size, i.bytes)) = some (some (.agg #[.int .i64 0, .int .i64 0]), 2, 16) := by kernel_rfl
abbrev pvV (a : VD) : Value := .agg #[.int .i64 a.n, .int .i64 a.t]
section
variable {w w' : World} {B base cap : Nat} {A : Option Addr} {xs : List VD}
/-- The two cells of a pair. -/
theorem pv_cells {b o : Nat} (h : RowAt VK w B (some ⟨b, o, none⟩) xs) (k : Nat) (hk : k < xs.length) : w.cell? ⟨b, o + k * 2, none⟩ = some (.int .i64 (vth xs k).n) ∧ w.cell? ⟨b, o + k * 2 + 1, none⟩ = some (.int .i64 (vth xs k).t) := by
  have hc := (h.lt (by omega)).2 k (vth xs k) (vth_get xs k hk)
  exact ⟨hc 0 _ rfl, hc 1 _ rfl⟩
theorem pv2 {W : World} {g : Nat} {t : TypeId} {v0 v1 : Value} (h : Blk W g t #[v0, v1]) : W.cell? ⟨g, 0, none⟩ = some v0 ∧ W.cell? ⟨g, 1, none⟩ = some v1 := ⟨h.cell 0, h.cell 1⟩
end
theorem pv_app_info : ∃ i z, Try.prog.info? VK.e = some i ∧ i.zero = some z ∧ i.size = VK.k ∧ i.bytes = VK.by_ ∧ z.cells.size = VK.k := by
  obtain ⟨i0, hi0, hz0, hz1, hz2⟩ := info_parts pv_info
  exact ⟨i0, _, hi0, hz0, hz1, hz2, rfl⟩
/-- The pairs of a list lie in memory, below block B. -/
structure PvAt (w : World) (B : Nat) (A : Option Addr) (c : Nat) (xs : List VD) : Prop where
  row : RowAt VK w B A xs
  le : xs.length ≤ c
  most : c ≤ maxLen
  nil0 : A = none → c = 0
section
variable {w w' : World} {B : Nat} {A : Option Addr} {c : Nat} {xs : List VD}
theorem PvAt.belowS (h : PvAt w w.heap.size A c xs) (hb : Below w.heap.size w w') : PvAt w' w'.heap.size A c xs := ⟨h.row.belowS hb, h.le, h.most, h.nil0⟩
theorem PvAt.allocS (h : PvAt w w.heap.size A c xs) (o : Obj) : PvAt (w.alloc o) (w.alloc o).heap.size A c xs := ⟨h.row.allocS o, h.le, h.most, h.nil0⟩
theorem PvAt.first (h : PvAt w B A c xs) (n : Nat) : PvAt w B A c (xs.take n) := ⟨h.row.first n, by rw [List.length_take]; have := h.le; omega, h.most, h.nil0⟩
theorem own_pv {base : Nat} (h : OwnRow VK w base A c xs) : PvAt w w.heap.size A c xs := ⟨h.at_, h.le.1, h.le.2, h.nil_cap⟩
end

end Go.Proofs.Yteckmbmpellkgaa
