/- Contracts of l91Digest and DrawDigestPair: they return integers from -1 to 991, move the reader on, and change nothing that was there before. Condition: the reader's place is at most 100000; the code's bytes lie in memory. Contracts of l91Leaves and of the draws of leaves: at most 28 integers from -1 to 991 in memory of the call's own; the reader moves on. Condition: the reader's place is at most 100000; the code's bytes lie in memory. Contracts of l91Secret, DrawHeadPublic and DrawHeadMake: a number from -1 to 997, and leaves; nothing that was there is changed. Condition: the reader's place is at most 100000; the code's bytes lie in memory. -/
import Derived.Test.YtkmebilhbjcfpaaBaseA
namespace Go.Proofs.Ytkmebilhbjcfpaa
open Go.RowKit

def DigDrawn (w : World) (B g : Nat) (A : Option Addr) (len cap p : Nat) (e : Ending) (w' : World) : Prop :=
  ∃ (d : Int) (p' : Nat), -1 ≤ d ∧ d ≤ 991 ∧ p' ≤ p + 3 ∧ e = .returned (.int .i64 d) ∧ Rd w' B g A len cap p' ∧ Below B w w' ∧ w.grownBy w' (some g)

theorem grown_of_alloc (w : World) (o : Obj) (row : Option Nat) : w.grownBy (w.alloc o) row := ⟨rfl, rfl, rfl, by simp, fun i hi _ => Below.heap_alloc w o i hi⟩
theorem Picked.below {w w' : World} {B g : Nat} (hg : w.grownBy w' (some g)) (hb : B ≤ g) (hl : g < w.heap.size) : Below B w w' :=
  (Below.refl B w).grown hg (by omega) (fun k hk => by injection hk with hk; omega)



end Go.Proofs.Ytkmebilhbjcfpaa

namespace Go.Proofs.Ytkmebilhbjcfpaa
open Go.RowKit
set_option linter.unusedVariables false

/-- Numbers that may be drawn. -/
def Near (zs : List Int) : Prop := ∀ x ∈ zs, -1 ≤ x ∧ x ≤ 991
theorem Near.snoc {zs : List Int} (h : Near zs) {x : Int} (hx : -1 ≤ x ∧ x ≤ 991) : Near (zs ++ [x]) := by
  intro y hy
  rcases List.mem_append.1 hy with e | e
  · exact h y e
  · have : y = x := by simpa using e
    subst this; exact hx
theorem Near.zeros {zs : List Int} (h : Near zs) (k : Nat) : Near (zs ++ zerosZ k) := by
  intro y hy
  rcases List.mem_append.1 hy with e | e
  · exact h y e
  · have := (List.mem_replicate.1 e).2
    subst this; omega
theorem Near.set {zs : List Int} (h : Near zs) (k : Nat) {x : Int} (hx : -1 ≤ x ∧ x ≤ 991) : Near (zs.set k x) := by
  intro y hy
  rcases List.mem_or_eq_of_mem_set hy with e | e
  · exact h y e
  · subst e; exact hx
theorem OwnInts.some_ {w : World} {base : Nat} {A : Option Addr} {cap : Nat} {zs : List Int} (h : OwnInts w base A cap zs) (hn : 0 < zs.length) : ∃ b, A = some ⟨b, 0, none⟩ := by
  obtain ⟨g, c, hv, _, _⟩ := World.ownsRow.form h hn
  injection hv with hA _ _
  exact ⟨g, hA⟩
/-- A row of the call's own is kept where another block has turned. -/
theorem OwnInts.keep {w w' : World} {base : Nat} {A : Option Addr} {cap : Nat} {zs : List Int} (h : OwnInts w base A cap zs) {row : Option Nat} (hg : w.grownBy w' row) (hr : ∀ k, row = some k → k < base) : OwnInts w' base A cap zs := by
  refine World.ownsRow.kept h hg ?_
  rcases h.2 with ⟨hv, _⟩ | ⟨g, c, cur, hv, hb, _⟩
  · left; rw [hv]; rfl
  · right
    rw [hv]
    intro e
    have := hr g (by simpa [Value.ownBlock] using e.symm)
    omega
theorem OwnInts.stored {w : World} {base b cap : Nat} {zs : List Int} (h : OwnInts w base (some ⟨b, 0, none⟩) cap zs) (j : Nat) (x : Int) : OwnInts (w.setCell ⟨b, j, none⟩ (.int .i64 x)) base (some ⟨b, 0, none⟩) cap (zs.set j x) := by
  have := (World.ownsRow.stored h j (.int .i64 x)).1
  unfold OwnInts
  rw [List.length_set]
  have e : vals (zs.set j x) = (vals zs).set j (i64 x) := by unfold vals; rw [List.map_set]
  rw [e]
  exact this

/-- Where the reader stands and what was drawn so far. -/
structure Drawing (w : World) (B g : Nat) (A : Option Addr) (len cap p : Nat) (base : Nat) (X : Option Addr) (c : Nat) (zs : List Int) (p' : Nat) (w' : World) : Prop where
  own : OwnInts w' base X c zs
  near : Near zs
  some_ : ∃ b, X = some ⟨b, 0, none⟩
  rd : Rd w' B g A len cap p'
  below : Below B w w'
  size : base ≤ w'.heap.size
  far : g < base
  top : w.heap.size ≤ base
  grown : w.grownBy w' (some g)
/-- A row above what was there turns: what was there is kept. -/
theorem grown_far {w w1 w2 : World} {g : Nat} {row : Option Nat} (h : w.grownBy w1 (some g)) (h2 : w1.grownBy w2 row) (hr : ∀ k, row = some k → w.heap.size ≤ k) : w.grownBy w2 (some g) :=
  ⟨h2.os.trans h.os, h2.tape.trans h.tape, h2.output.trans h.output, Nat.le_trans h.size h2.size, fun i hi hne => (h2.block i (Nat.lt_of_lt_of_le hi h.size) (fun e => by have := hr _ e.symm; omega)).trans (h.block i hi hne)⟩

def LeavesDrawn (w : World) (B g : Nat) (A : Option Addr) (len cap p : Nat) (e : Ending) (w' : World) : Prop :=
  ∃ X c zs p', e = .returned (.slice X zs.length c) ∧ zs.length ≤ 28 ∧ p' ≤ p + 60 ∧ Drawing w B g A len cap p w.heap.size X c zs p' w'

theorem Drawing.pick {w : World} {B g : Nat} {A : Option Addr} {len cap p base : Nat} {X : Option Addr} {c : Nat} {zs : List Int} {p' p2 : Nat} {w1 w2 : World} (h : Drawing w B g A len cap p base X c zs p' w1) (hR : Rd w2 B g A len cap p2) (hg : w1.grownBy w2 (some g)) : Drawing w B g A len cap p base X c zs p2 w2 :=
  ⟨h.own.keep hg (fun k hk => by injection hk with hk; have := h.far; omega), h.near, h.some_, hR, h.below.trans ((Below.refl B w1).grown hg (by have := h.rd.lt; have := h.rd.big; omega) (fun k hk => by injection hk with hk; have := h.rd.big; omega)), Nat.le_trans h.size hg.size, h.far, h.top, World.grownBy.trans h.grown hg⟩
theorem Drawing.app {w : World} {B g : Nat} {A : Option Addr} {len cap p base : Nat} {X : Option Addr} {c : Nat} {zs ys : List Int} {p' : Nat} {w1 w2 : World} {v : Value} (h : Drawing w B g A len cap p base X c zs p' w1) (hB : B ≤ base) (o : Option Obj)
    (hA : Appended (match o with | none => w1 | some o => w1.alloc o) base X zs.length c ys v w2) (hy : 0 < ys.length) (hn : Near ys) : ∃ X' c', v = .slice X' ys.length c' ∧ Drawing w B g A len cap p base X' c' ys p' w2 := by
  obtain ⟨⟨X', c', hv, hown⟩, hg, hbel⟩ := hA
  have hrow : ∀ k, Value.ownBlock (.slice X zs.length c) = some k → w.heap.size ≤ k := fun k hk => Nat.le_trans h.top (h.own.far (n := zs.length) k hk)
  refine ⟨X', c', hv, hown, hn, hown.some_ hy, ?_, ?_, ?_, h.far, h.top, ?_⟩
  · have hr : ∀ k, Value.ownBlock (.slice X zs.length c) = some k → B ≤ k ∧ k ≠ g := fun k hk => by
      have := h.own.far (n := zs.length) k hk
      have := h.far
      exact ⟨by omega, by omega⟩
    cases o with
    | none => exact h.rd.grown hg hr
    | some o => exact (h.rd.alloc o).grown hg hr
  · cases o with
    | none => exact h.below.trans (hbel.mono hB)
    | some o => exact (h.below.alloc (by have := h.rd.lt; have := h.rd.big; omega) o).trans (hbel.mono hB)
  · have := hg.size
    have := h.size
    cases o with
    | none => simp at *; omega
    | some o => simp at *; omega
  · cases o with
    | none => exact grown_far h.grown hg hrow
    | some o => exact grown_far (World.grownBy.trans h.grown (grown_of_alloc w1 o _)) hg hrow

theorem Rd.base {w : World} {B g : Nat} {A : Option Addr} {len cap p : Nat} (h : Rd w B g A len cap p) : B ≤ w.heap.size ∧ g < w.heap.size := ⟨by have := h.lt; have := h.big; omega, h.lt⟩



/-- What a draw of leaves hands back. -/
def ListDrawn (w : World) (e : Ending) (w' : World) : Prop :=
  ∃ b c zs, e = .returned (.slice (some ⟨b, 0, none⟩) zs.length c) ∧ zs.length ≤ 28 ∧ Near zs ∧ OwnInts w' w.heap.size (some ⟨b, 0, none⟩) c zs ∧ Below w.heap.size w w'

end Go.Proofs.Ytkmebilhbjcfpaa

namespace Go.Proofs.Ytkmebilhbjcfpaa
open Go.RowKit
set_option linter.unusedVariables false

def SecDrawn (w : World) (B g : Nat) (A : Option Addr) (len cap p : Nat) (e : Ending) (w' : World) : Prop :=
  ∃ (d : Int) (p' : Nat), -1 ≤ d ∧ d ≤ 997 ∧ p' ≤ p + 3 ∧ e = .returned (.int .i64 d) ∧ Rd w' B g A len cap p' ∧ Below B w w' ∧ w.grownBy w' (some g)

set_option maxHeartbeats 1000000 in
theorem drawsec_any {B g len cap p : Nat} {A : Option Addr} {w : World} (hR : Rd w B g A len cap p) (hp : p ≤ 100000) :
    Calls Try.prog 15 #[.pointer (some ⟨g, 0, none⟩)] w (SecDrawn w B g A len cap p) := by
  have HR := Lib.hid hR
  have hB := hR.big
  have hgl := hR.lt
  clear hR
  go_enter Try.func15, Try.ntmps15
  go_wp2_with fail
  refine (pick_any 20 HR.out (by omega) (by omega) (by omega)).mono ?_
  rintro e w1 ⟨x, hx, rfl, hR1, hg1, hz1⟩
  have HR1 := Lib.hid hR1
  have HG1 := Lib.hid hg1
  have HZ1 := Lib.hid hz1
  clear hR1 hg1 hz1
  by_cases h0 : x = 0
  · subst h0
    go_wp2_with fail
    refine (pick_any 4 (HR1.out.alloc _) (by omega) (by omega) (by omega)).mono ?_
    rintro e w2 ⟨y, hy, rfl, hR2, hg2, hz2⟩
    have hs1 := HZ1.out
    have hrow : w2.heap[w1.heap.size]? = some (.cells #[.int .i64 0, .int .i64 996, .int .i64 997, .int .i64 (-1)] 3 (0, 0)) :=
      (hg2.block w1.heap.size (by simp) (fun e => by injection e with e; omega)).trans (heap_alloc_new w1 _)
    have hcell := fun j => cell_of_row w2 w1.heap.size j _ _ (0, 0) hrow
    have hgr : w.grownBy w2 (some g) := (World.grownBy.trans HG1.out (grown_of_alloc w1 _ _)).trans hg2
    have hbel : Below B w w2 := ((((Below.refl B w).grown HG1.out (by omega) (fun k hk => by injection hk with hk; omega)).alloc (by omega) _).grown hg2 (by simp; omega) (fun k hk => by injection hk with hk; omega))
    have HR2 := Lib.hid hR2
    have HB2 := Lib.hid hbel
    have HGR := Lib.hid hgr
    clear hR2 hg2 hz2 hs1 hrow hbel hgr
    have hy4 : y = 0 ∨ y = 1 ∨ y = 2 ∨ y = 3 := by omega
    rcases hy4 with rfl | rfl | rfl | rfl
    · have hc := hcell 0
      clear hcell
      simp at hc
      go_wp2
      go_ret
      exact ⟨_, p + 1 + 1, by omega, by omega, by omega, rfl, HR2.out, HB2.out, HGR.out⟩
    · have hc := hcell 1
      clear hcell
      simp at hc
      go_wp2
      go_ret
      exact ⟨_, p + 1 + 1, by omega, by omega, by omega, rfl, HR2.out, HB2.out, HGR.out⟩
    · have hc := hcell 2
      clear hcell
      simp at hc
      go_wp2
      go_ret
      exact ⟨_, p + 1 + 1, by omega, by omega, by omega, rfl, HR2.out, HB2.out, HGR.out⟩
    · have hc := hcell 3
      clear hcell
      simp at hc
      go_wp2
      go_ret
      exact ⟨_, p + 1 + 1, by omega, by omega, by omega, rfl, HR2.out, HB2.out, HGR.out⟩
  · have hx0 : ((x : Int) == 0) = false := by simp; omega
    go_wp2_with fail
    refine (pick_any 99 HR1.out (by omega) (by omega) (by omega)).mono ?_
    rintro e w2 ⟨y, hy, rfl, hR2, hg2, hz2⟩
    have HR2 := Lib.hid hR2
    have HG2 := Lib.hid hg2
    have HZ2 := Lib.hid hz2
    clear hR2 hg2 hz2
    go_wp2_with fail
    refine (pick_any 10 HR2.out (by omega) (by omega) (by omega)).mono ?_
    rintro e w3 ⟨z, hz, rfl, hR3, hg3, hz3⟩
    have HR3 := Lib.hid hR3
    have HG3 := Lib.hid hg3
    clear hR3 hg3 hz3
    go_wp2
    go_ret
    exact ⟨_, p + 1 + 1 + 1, by omega, by omega, by omega, rfl, HR3.out, (World.grownBy.trans (World.grownBy.trans HG1.out HG2.out) HG3.out |> fun k => (Below.refl B w).grown k (by omega) (fun k hk => by injection hk with hk; omega)), World.grownBy.trans (World.grownBy.trans HG1.out HG2.out) HG3.out⟩

/-- What a draw of a number hands back. -/
def NumDrawn (w : World) (e : Ending) (w' : World) : Prop := ∃ d : Int, -1 ≤ d ∧ d ≤ 997 ∧ e = .returned (.int .i64 d) ∧ Below w.heap.size w w'
/-- What a draw of a number and leaves hands back. -/
def NumListDrawn (w : World) (e : Ending) (w' : World) : Prop :=
  ∃ b c zs d, e = .returned (.tuple #[.int .i64 d, .slice (some ⟨b, 0, none⟩) (List.length zs) c]) ∧ zs.length ≤ 28 ∧ Near zs ∧ -1 ≤ d ∧ d ≤ 997 ∧ OwnInts w' w.heap.size (some ⟨b, 0, none⟩) c zs ∧ Below w.heap.size w w'





end Go.Proofs.Ytkmebilhbjcfpaa
