/- Rows of structs of the call's own: made of zeros, written cell by cell, kept while another row is written. No conditions. -/
import Derived.Test.YtkmebilhbjcfpaaGreatRow
import Derived.Deep.RegionHeld3
import Derived.Deep.AppendLies
import Derived.Laws.Pointers
import Derived.Deep.OwnRows
namespace Go.Proofs.YtkmebilhbjcfpaaGreat
open Go.RowKit
set_option linter.unusedVariables false

section
variable {α : Type} {K : Kind α} {w w' : World} {base cap : Nat} {A : Option Addr} {xs : List α}
theorem cells_set (K : Kind α) (y : α) (c : Nat) (v : Value) (hc : c < K.k) : ∀ (xs : List α) (i : Nat) (x : α), xs[i]? = some x → K.enc y = (K.enc x).set c v → K.cells (xs.set i y) = (K.cells xs).set (i * K.k + c) v
  | [], i, x, h, _ => by simp at h
  | x' :: xs, 0, x, h, hv => by
    have e : x' = x := by simpa using h
    subst e
    rw [List.set_cons_zero, Kind.cells_cons, Kind.cells_cons, hv, Nat.zero_mul, Nat.zero_add, List.set_append_left _ _ (by rw [K.len]; exact hc)]
  | x' :: xs, i + 1, x, h, hv => by
    have e : xs[i]? = some x := by simpa using h
    rw [List.set_cons_succ, Kind.cells_cons, Kind.cells_cons, cells_set K y c v hc xs i x e hv, List.set_append_right _ _ (by rw [K.len, Nat.succ_mul]; omega), K.len]
    have e2 : (i + 1) * K.k + c - K.k = i * K.k + c := by rw [Nat.succ_mul]; omega
    rw [e2]
theorem OwnRow.stored {b : Nat} (h : OwnRow K w base (some ⟨b, 0, none⟩) cap xs) (i : Nat) (x y : α) (hx : xs[i]? = some x) (c : Nat) (hc : c < K.k) (v : Value) (hv : K.enc y = (K.enc x).set c v) :
    OwnRow K (w.setCell ⟨b, i * K.k + c, none⟩ v) base (some ⟨b, 0, none⟩) cap (xs.set i y) ∧ w.grownBy (w.setCell ⟨b, i * K.k + c, none⟩ v) (some b) := by
  have := World.ownsRow.stored h (i * K.k + c) v
  refine ⟨?_, this.2⟩
  unfold OwnRow
  rw [List.length_set, cells_set K y c v hc xs i x hx hv]
  exact this.1
theorem OwnRow.cellF {b : Nat} (h : OwnRow K w base (some ⟨b, 0, none⟩) cap xs) (j : Nat) (x : α) (hx : xs[j]? = some x) (i : Nat) (v : Value) (hv : (K.enc x)[i]? = some v) : w.cell? ⟨b, j * K.k + i, none⟩ = some v ∧ w.frozen? ⟨b, j * K.k + i, none⟩ = false := by
  have hl : 0 < xs.length := by have := (List.getElem?_eq_some_iff.1 hx).1; omega
  have h1 := (h.at_.lt hl).2 j x hx i v hv
  rw [Nat.zero_add] at h1
  exact ⟨h1, World.ownsRow.frozenAt h _⟩
theorem OwnRow.nowhere (h : OwnRow K w base A cap xs) : A = none ∨ ∃ g, A = some ⟨g, 0, none⟩ := by
  rcases h.2 with ⟨hv, _⟩ | ⟨g, c, cur, hv, _⟩
  · injection hv with hA _ _; exact .inl hA
  · injection hv with hA _ _; exact .inr ⟨g, hA⟩
theorem OwnRow.lies (h : OwnRow K w base A cap xs) : ∀ g, A = some ⟨g, 0, none⟩ → base ≤ g ∧ g < w.heap.size := by
  intro g hA
  subst hA
  exact World.ownsRow.lt h g rfl
theorem OwnRow.block (h : OwnRow K w base A cap xs) (hk : ∀ g, A = some ⟨g, 0, none⟩ → w'.heap[g]? = w.heap[g]?) : OwnRow K w' base A cap xs := by
  refine ⟨h.1, ?_⟩
  rcases h.2 with h0 | ⟨g, c, cur, hv, hg, hgb, hr⟩
  · exact .inl h0
  · have hA : A = some ⟨g, 0, none⟩ := by injection hv
    exact .inr ⟨g, c, cur, hv, hg, (hk g hA).trans hgb, hr⟩
theorem OwnRow.older {b1 : Nat} (h : OwnRow K w base A cap xs) (hlt : ∀ g, A = some ⟨g, 0, none⟩ → g < b1) (hb : Below b1 w w') : OwnRow K w' base A cap xs :=
  h.block fun g hA => hb.block g (hlt g hA)
theorem OwnRow.none_nil (h : OwnRow K w base none cap xs) : xs = [] := by
  cases xs with
  | nil => rfl
  | cons x xs => obtain ⟨b, o, e⟩ := h.at_.some_ (by simp); cases e
theorem OwnRow.made (K : Kind α) (w : World) (n : Nat) (z : α) (hn : n ≤ maxLen) : OwnRow K (w.alloc (.cells (K.cells (List.replicate n z)).toArray K.e)) w.heap.size (some ⟨w.heap.size, 0, none⟩) n (List.replicate n z) := by
  have h := OwnRow.of_blk (base := w.heap.size) K (List.replicate n z) (heap_alloc_new w _) (Nat.le_refl _) (by rw [List.length_replicate]; exact hn)
  rw [List.length_replicate] at h
  exact h
end
section
variable {α : Type}
theorem made_kind (K : Kind α) (z : α) (n : Nat) : madeCells (K.enc z).toArray (n * K.k) = (K.cells (List.replicate n z)).toArray := by
  apply Array.ext'
  apply List.ext_getElem?
  intro j
  by_cases hj : j < n * K.k
  · have hq : j / K.k < n := Nat.div_lt_of_lt_mul (by rw [Nat.mul_comm]; exact hj)
    have hr : j % K.k < K.k := Nat.mod_lt _ K.pos
    have h1 := Kind.cells_get (K := K) (List.replicate n z) (j / K.k) z (j % K.k) (by rw [List.getElem?_replicate, if_pos hq]) hr
    rw [Nat.div_add_mod'] at h1
    have hlt : j % K.k < (K.enc z).length := by rw [K.len]; exact hr
    show _ = (K.cells (List.replicate n z))[j]?
    rw [h1, List.getElem?_eq_getElem hlt]
    have hl := K.len z
    simp [madeCells, hj, hl]
    rw [List.getElem?_eq_getElem hlt]; rfl
  · have h1 : (K.cells (List.replicate n z))[j]? = none := List.getElem?_eq_none (by rw [Kind.cells_length, List.length_replicate]; omega)
    show _ = (K.cells (List.replicate n z))[j]?
    rw [h1]
    simp [madeCells, hj]
theorem run_make_kind {P : Program} (K : Kind α) (T : TypeId) (z : α) (zv : Value) {i0 : TypeInfo} (hT : P.underlying T = some (.slice K.e)) (hi0 : P.info? K.e = some i0) (hz0 : i0.zero = some zv) (hz1 : i0.size = K.k) (hz2 : i0.bytes = K.by_) (hzc : zv.cells = (K.enc z).toArray) (kl kc : IntKind) (n : Nat) (hb : K.by_ * n ≤ 281474976710656) (h63 : n ≤ 9223372036854775807) (w : World) :
    (Instr.makeSlice T (.int kl (n : Int)) (.int kc (n : Int))).run P w = .ok (.slice (some ⟨w.heap.size, 0, none⟩) n n) (w.alloc (.cells (K.cells (List.replicate n z)).toArray K.e)) := by
  have hb' : (i0.bytes : Int) * (n : Int) ≤ 281474976710656 := by
    rw [hz2]
    have h : ((K.by_ * n : Nat) : Int) ≤ 281474976710656 := by omega
    rwa [Int.natCast_mul] at h
  have hr := run_make (P := P) w T K.e i0 zv hT hi0 hz0 kl kc n n (by omega) (Int.le_refl _) hb' (by omega)
  simp only [Int.toNat_natCast, hz1, hzc] at hr
  rw [made_kind] at hr
  exact hr
end
/-- What marking a row leaves: whatever block is not the row's lies as it lay. -/
def Marked2 {α : Type} (K : Kind α) (w : World) (base : Nat) (A : Option Addr) (cap n : Nat) (ms : List α) (e : Ending) (w' : World) : Prop :=
  e = .returned (.int .i64 ((1 + 2 * n : Nat) : Int)) ∧ OwnRow K w' base A cap ms ∧ (∀ b, A = some ⟨b, 0, none⟩ → w.grownBy w' (some b)) ∧ (A = none → Below w.heap.size w w')
theorem marked2_other {α : Type} {K : Kind α} {w w' : World} {base : Nat} {A : Option Addr} {cap n : Nat} {xs ms : List α} {e : Ending} (h : OwnRow K w base A cap xs) (hm : Marked2 K w base A cap n ms e w') (hbw : base ≤ w.heap.size) : Below base w w' ∧ (∀ i, i < w.heap.size → (∀ g, A = some ⟨g, 0, none⟩ → i ≠ g) → w'.heap[i]? = w.heap[i]?) := by
  obtain ⟨_, _, hg, hn⟩ := hm
  rcases h.nowhere with hA | ⟨g, hA⟩
  · have e := hn hA
    exact ⟨e.mono hbw, fun i hi _ => e.block i hi⟩
  · have hgg := hg g hA
    have hlt := h.lies g hA
    exact ⟨(Below.refl _ _).grown hgg (by omega) (fun k hk => by injection hk with hk; omega), fun i hi hne => hgg.block i hi (fun e => hne g hA (by injection e))⟩

end Go.Proofs.YtkmebilhbjcfpaaGreat
