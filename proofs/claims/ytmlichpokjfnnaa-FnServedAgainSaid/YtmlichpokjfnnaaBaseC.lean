/- Contracts of l91Digest and DrawDigestPair: they return integers from -1 to 991, move the reader on, and change nothing that was there before. Condition: the reader's place is at most 100000; the code's bytes lie in memory. Contracts of l91Leaves and of the draws of leaves: at most 28 integers from -1 to 991 in memory of the call's own; the reader moves on. Condition: the reader's place is at most 100000; the code's bytes lie in memory. -/
import Derived.Test.YtmlichpokjfnnaaBaseA
namespace Go.Proofs.Ytmlichpokjfnnaa
open Go.RowKit

def DigDrawn (w : World) (B g : Nat) (A : Option Addr) (len cap p : Nat) (e : Ending) (w' : World) : Prop :=
  ∃ (d : Int) (p' : Nat), -1 ≤ d ∧ d ≤ 991 ∧ p' ≤ p + 3 ∧ e = .returned (.int .i64 d) ∧ Rd w' B g A len cap p' ∧ Below B w w' ∧ w.grownBy w' (some g)

theorem grown_of_alloc (w : World) (o : Obj) (row : Option Nat) : w.grownBy (w.alloc o) row := ⟨rfl, rfl, rfl, by simp, fun i hi _ => Below.heap_alloc w o i hi⟩
theorem Picked.below {w w' : World} {B g : Nat} (hg : w.grownBy w' (some g)) (hb : B ≤ g) (hl : g < w.heap.size) : Below B w w' :=
  (Below.refl B w).grown hg (by omega) (fun k hk => by injection hk with hk; omega)



end Go.Proofs.Ytmlichpokjfnnaa

namespace Go.Proofs.Ytmlichpokjfnnaa
open Go.RowKit
set_option linter.unusedVariables false

/-- Numbers that may be drawn. -/
def Near (zs : List Int) : Prop := ∀ x ∈ zs, -1 ≤ x ∧ x ≤ 991
theorem Near.snoc {zs : List Int} (h : Near zs) {x : Int} (hx : -1 ≤ x ∧ x ≤ 991) : Near (zs ++ [x]) := by
  intro y hy
  rcases List.mem_append.1 hy with e | e
  · exact h y e
  · have : y = x := by simpa using e
    subst this; exact hx
theorem Near.zeros {zs : List Int} (h : Near zs) (k : Nat) : Near (zs ++ zerosZ k) := by
  intro y hy
  rcases List.mem_append.1 hy with e | e
  · exact h y e
  · have := (List.mem_replicate.1 e).2
    subst this; omega
theorem Near.set {zs : List Int} (h : Near zs) (k : Nat) {x : Int} (hx : -1 ≤ x ∧ x ≤ 991) : Near (zs.set k x) := by
  intro y hy
  rcases List.mem_or_eq_of_mem_set hy with e | e
  · exact h y e
  · subst e; exact hx
theorem OwnInts.some_ {w : World} {base : Nat} {A : Option Addr} {cap : Nat} {zs : List Int} (h : OwnInts w base A cap zs) (hn : 0 < zs.length) : ∃ b, A = some ⟨b, 0, none⟩ := by
  obtain ⟨g, c, hv, _, _⟩ := World.ownsRow.form h hn
  injection hv with hA _ _
  exact ⟨g, hA⟩
/-- A row of the call's own is kept where another block has turned. -/
theorem OwnInts.keep {w w' : World} {base : Nat} {A : Option Addr} {cap : Nat} {zs : List Int} (h : OwnInts w base A cap zs) {row : Option Nat} (hg : w.grownBy w' row) (hr : ∀ k, row = some k → k < base) : OwnInts w' base A cap zs := by
  refine World.ownsRow.kept h hg ?_
  rcases h.2 with ⟨hv, _⟩ | ⟨g, c, cur, hv, hb, _⟩
  · left; rw [hv]; rfl
  · right
    rw [hv]
    intro e
    have := hr g (by simpa [Value.ownBlock] using e.symm)
    omega
theorem OwnInts.stored {w : World} {base b cap : Nat} {zs : List Int} (h : OwnInts w base (some ⟨b, 0, none⟩) cap zs) (j : Nat) (x : Int) : OwnInts (w.setCell ⟨b, j, none⟩ (.int .i64 x)) base (some ⟨b, 0, none⟩) cap (zs.set j x) := by
  have := (World.ownsRow.stored h j (.int .i64 x)).1
  unfold OwnInts
  rw [List.length_set]
  have e : vals (zs.set j x) = (vals zs).set j (i64 x) := by unfold vals; rw [List.map_set]
  rw [e]
  exact this

/-- Where the reader stands and what was drawn so far. -/
structure Drawing (w : World) (B g : Nat) (A : Option Addr) (len cap p : Nat) (base : Nat) (X : Option Addr) (c : Nat) (zs : List Int) (p' : Nat) (w' : World) : Prop where
  own : OwnInts w' base X c zs
  near : Near zs
  some_ : ∃ b, X = some ⟨b, 0, none⟩
  rd : Rd w' B g A len cap p'
  below : Below B w w'
  size : base ≤ w'.heap.size
  far : g < base
  top : w.heap.size ≤ base
  grown : w.grownBy w' (some g)
/-- A row above what was there turns: what was there is kept. -/
theorem grown_far {w w1 w2 : World} {g : Nat} {row : Option Nat} (h : w.grownBy w1 (some g)) (h2 : w1.grownBy w2 row) (hr : ∀ k, row = some k → w.heap.size ≤ k) : w.grownBy w2 (some g) :=
  ⟨h2.os.trans h.os, h2.tape.trans h.tape, h2.output.trans h.output, Nat.le_trans h.size h2.size, fun i hi hne => (h2.block i (Nat.lt_of_lt_of_le hi h.size) (fun e => by have := hr _ e.symm; omega)).trans (h.block i hi hne)⟩

def LeavesDrawn (w : World) (B g : Nat) (A : Option Addr) (len cap p : Nat) (e : Ending) (w' : World) : Prop :=
  ∃ X c zs p', e = .returned (.slice X zs.length c) ∧ zs.length ≤ 28 ∧ p' ≤ p + 60 ∧ Drawing w B g A len cap p w.heap.size X c zs p' w'

theorem Drawing.pick {w : World} {B g : Nat} {A : Option Addr} {len cap p base : Nat} {X : Option Addr} {c : Nat} {zs : List Int} {p' p2 : Nat} {w1 w2 : World} (h : Drawing w B g A len cap p base X c zs p' w1) (hR : Rd w2 B g A len cap p2) (hg : w1.grownBy w2 (some g)) : Drawing w B g A len cap p base X c zs p2 w2 :=
  ⟨h.own.keep hg (fun k hk => by injection hk with hk; have := h.far; omega), h.near, h.some_, hR, h.below.trans ((Below.refl B w1).grown hg (by have := h.rd.lt; have := h.rd.big; omega) (fun k hk => by injection hk with hk; have := h.rd.big; omega)), Nat.le_trans h.size hg.size, h.far, h.top, World.grownBy.trans h.grown hg⟩
theorem Drawing.app {w : World} {B g : Nat} {A : Option Addr} {len cap p base : Nat} {X : Option Addr} {c : Nat} {zs ys : List Int} {p' : Nat} {w1 w2 : World} {v : Value} (h : Drawing w B g A len cap p base X c zs p' w1) (hB : B ≤ base) (o : Option Obj)
    (hA : Appended (match o with | none => w1 | some o => w1.alloc o) base X zs.length c ys v w2) (hy : 0 < ys.length) (hn : Near ys) : ∃ X' c', v = .slice X' ys.length c' ∧ Drawing w B g A len cap p base X' c' ys p' w2 := by
  obtain ⟨⟨X', c', hv, hown⟩, hg, hbel⟩ := hA
  have hrow : ∀ k, Value.ownBlock (.slice X zs.length c) = some k → w.heap.size ≤ k := fun k hk => Nat.le_trans h.top (h.own.far (n := zs.length) k hk)
  refine ⟨X', c', hv, hown, hn, hown.some_ hy, ?_, ?_, ?_, h.far, h.top, ?_⟩
  · have hr : ∀ k, Value.ownBlock (.slice X zs.length c) = some k → B ≤ k ∧ k ≠ g := fun k hk => by
      have := h.own.far (n := zs.length) k hk
      have := h.far
      exact ⟨by omega, by omega⟩
    cases o with
    | none => exact h.rd.grown hg hr
    | some o => exact (h.rd.alloc o).grown hg hr
  · cases o with
    | none => exact h.below.trans (hbel.mono hB)
    | some o => exact (h.below.alloc (by have := h.rd.lt; have := h.rd.big; omega) o).trans (hbel.mono hB)
  · have := hg.size
    have := h.size
    cases o with
    | none => simp at *; omega
    | some o => simp at *; omega
  · cases o with
    | none => exact grown_far h.grown hg hrow
    | some o => exact grown_far (World.grownBy.trans h.grown (grown_of_alloc w1 o _)) hg hrow

theorem Rd.base {w : World} {B g : Nat} {A : Option Addr} {len cap p : Nat} (h : Rd w B g A len cap p) : B ≤ w.heap.size ∧ g < w.heap.size := ⟨by have := h.lt; have := h.big; omega, h.lt⟩



/-- What a draw of leaves hands back. -/
def ListDrawn (w : World) (e : Ending) (w' : World) : Prop :=
  ∃ b c zs, e = .returned (.slice (some ⟨b, 0, none⟩) zs.length c) ∧ zs.length ≤ 28 ∧ Near zs ∧ OwnInts w' w.heap.size (some ⟨b, 0, none⟩) c zs ∧ Below w.heap.size w w'

end Go.Proofs.Ytmlichpokjfnnaa
