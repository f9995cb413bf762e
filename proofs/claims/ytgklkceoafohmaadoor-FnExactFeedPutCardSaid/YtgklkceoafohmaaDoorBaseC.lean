/- Contracts of l91Digest and DrawDigestPair: they return integers from -1 to 991, move the reader on, and change nothing that was there before. Condition: the reader's place is at most 100000; the code's bytes lie in memory. Contracts of l91Leaves and of the draws of leaves: at most 28 integers from -1 to 991 in memory of the call's own; the reader moves on. Condition: the reader's place is at most 100000; the code's bytes lie in memory. Contracts of l91Secret, DrawHeadPublic and DrawHeadMake: a number from -1 to 997, and leaves; nothing that was there is changed. Condition: the reader's place is at most 100000; the code's bytes lie in memory. Contract of l91Text where more is drawn behind it: a text of at most 10 bytes; the reader moves on by at most 14 places; every other block lies as it lay. Condition: the reader's place is at most 100000; the code's bytes lie in memory. Contract of l91Bend: a copy of a proof, changed in one of several ways, in memory of the call's own; the reader moves on. Condition: the reader's place is at most 90000; the proof lies in memory. -/
import Derived.Test.YtgklkceoafohmaaDoorBaseA
import Derived.Test.YtgklkceoafohmaaDoorBaseG
namespace Go.Proofs.YtgklkceoafohmaaDoor
open Go.RowKit

def DigDrawn (w : World) (B g : Nat) (A : Option Addr) (len cap p : Nat) (e : Ending) (w' : World) : Prop :=
  ∃ (d : Int) (p' : Nat), -1 ≤ d ∧ d ≤ 991 ∧ p' ≤ p + 3 ∧ e = .returned (.int .i64 d) ∧ Rd w' B g A len cap p' ∧ Below B w w' ∧ w.grownBy w' (some g)

theorem grown_of_alloc (w : World) (o : Obj) (row : Option Nat) : w.grownBy (w.alloc o) row := ⟨rfl, rfl, rfl, by simp, fun i hi _ => Below.heap_alloc w o i hi⟩
theorem Picked.below {w w' : World} {B g : Nat} (hg : w.grownBy w' (some g)) (hb : B ≤ g) (hl : g < w.heap.size) : Below B w w' :=
  (Below.refl B w).grown hg (by omega) (fun k hk => by injection hk with hk; omega)

set_option maxHeartbeats 1000000 in
theorem drawdig_any {B g len cap p : Nat} {A : Option Addr} {w : World} (hR : Rd w B g A len cap p) (hp : p ≤ 100000) :
    Calls Tryd.prog 78 #[.pointer (some ⟨g, 0, none⟩)] w (DigDrawn w B g A len cap p) := by
  have HR := Lib.hid hR
  have hB := hR.big
  have hgl := hR.lt
  clear hR
  go_enter Tryd.func78, Tryd.ntmps78
  go_wp2_with fail
  refine (pick_any 20 HR.out (by omega) (by omega) (by omega)).mono ?_
  rintro e w1 ⟨x, hx, rfl, hR1, hg1, hz1⟩
  have HR1 := Lib.hid hR1
  have HG1 := Lib.hid hg1
  have HZ1 := Lib.hid hz1
  clear hR1 hg1 hz1
  by_cases h0 : x = 0
  · subst h0
    go_wp2_with fail
    refine (pick_any 4 (HR1.out.alloc _) (by omega) (by omega) (by omega)).mono ?_
    rintro e w2 ⟨y, hy, rfl, hR2, hg2, hz2⟩
    have hs1 := HZ1.out
    have hrow : w2.heap[w1.heap.size]? = some (.cells #[.int .i64 (-1), .int .i64 0, .int .i64 990, .int .i64 991] 3 (0, 0)) :=
      (hg2.block w1.heap.size (by simp) (fun e => by injection e with e; omega)).trans (heap_alloc_new w1 _)
    have hcell := fun j => cell_of_row w2 w1.heap.size j _ _ (0, 0) hrow
    have hgr : w.grownBy w2 (some g) := (World.grownBy.trans HG1.out (grown_of_alloc w1 _ _)).trans hg2
    have hbel : Below B w w2 := ((((Below.refl B w).grown HG1.out (by omega) (fun k hk => by injection hk with hk; omega)).alloc (by omega) _).grown hg2 (by simp; omega) (fun k hk => by injection hk with hk; omega))
    have HR2 := Lib.hid hR2
    have HB2 := Lib.hid hbel
    have HGR := Lib.hid hgr
    clear hR2 hg2 hz2 hs1 hrow hbel hgr
    have hy4 : y = 0 ∨ y = 1 ∨ y = 2 ∨ y = 3 := by omega
    rcases hy4 with rfl | rfl | rfl | rfl
    · have hc := hcell 0
      clear hcell
      simp at hc
      go_wp2
      go_ret
      exact ⟨_, p + 1 + 1, by omega, by omega, by omega, rfl, HR2.out, HB2.out, HGR.out⟩
    · have hc := hcell 1
      clear hcell
      simp at hc
      go_wp2
      go_ret
      exact ⟨_, p + 1 + 1, by omega, by omega, by omega, rfl, HR2.out, HB2.out, HGR.out⟩
    · have hc := hcell 2
      clear hcell
      simp at hc
      go_wp2
      go_ret
      exact ⟨_, p + 1 + 1, by omega, by omega, by omega, rfl, HR2.out, HB2.out, HGR.out⟩
    · have hc := hcell 3
      clear hcell
      simp at hc
      go_wp2
      go_ret
      exact ⟨_, p + 1 + 1, by omega, by omega, by omega, rfl, HR2.out, HB2.out, HGR.out⟩
  · have hx0 : ((x : Int) == 0) = false := by simp; omega
    go_wp2_with fail
    refine (pick_any 99 HR1.out (by omega) (by omega) (by omega)).mono ?_
    rintro e w2 ⟨y, hy, rfl, hR2, hg2, hz2⟩
    have HR2 := Lib.hid hR2
    have HG2 := Lib.hid hg2
    have HZ2 := Lib.hid hz2
    clear hR2 hg2 hz2
    go_wp2_with fail
    refine (pick_any 10 HR2.out (by omega) (by omega) (by omega)).mono ?_
    rintro e w3 ⟨z, hz, rfl, hR3, hg3, hz3⟩
    have HR3 := Lib.hid hR3
    have HG3 := Lib.hid hg3
    clear hR3 hg3 hz3
    go_wp2
    go_ret
    exact ⟨_, p + 1 + 1 + 1, by omega, by omega, by omega, rfl, HR3.out, (World.grownBy.trans (World.grownBy.trans HG1.out HG2.out) HG3.out |> fun k => (Below.refl B w).grown k (by omega) (fun k hk => by injection hk with hk; omega)), World.grownBy.trans (World.grownBy.trans HG1.out HG2.out) HG3.out⟩

end Go.Proofs.YtgklkceoafohmaaDoor

namespace Go.Proofs.YtgklkceoafohmaaDoor
open Go.RowKit
set_option linter.unusedVariables false

/-- Numbers that may be drawn. -/
def Near (zs : List Int) : Prop := ∀ x ∈ zs, -1 ≤ x ∧ x ≤ 991
theorem Near.snoc {zs : List Int} (h : Near zs) {x : Int} (hx : -1 ≤ x ∧ x ≤ 991) : Near (zs ++ [x]) := by
  intro y hy
  rcases List.mem_append.1 hy with e | e
  · exact h y e
  · have : y = x := by simpa using e
    subst this; exact hx
theorem Near.zeros {zs : List Int} (h : Near zs) (k : Nat) : Near (zs ++ zerosZ k) := by
  intro y hy
  rcases List.mem_append.1 hy with e | e
  · exact h y e
  · have := (List.mem_replicate.1 e).2
    subst this; omega
theorem Near.set {zs : List Int} (h : Near zs) (k : Nat) {x : Int} (hx : -1 ≤ x ∧ x ≤ 991) : Near (zs.set k x) := by
  intro y hy
  rcases List.mem_or_eq_of_mem_set hy with e | e
  · exact h y e
  · subst e; exact hx
theorem OwnInts.some_ {w : World} {base : Nat} {A : Option Addr} {cap : Nat} {zs : List Int} (h : OwnInts w base A cap zs) (hn : 0 < zs.length) : ∃ b, A = some ⟨b, 0, none⟩ := by
  obtain ⟨g, c, hv, _, _⟩ := World.ownsRow.form h hn
  injection hv with hA _ _
  exact ⟨g, hA⟩
/-- A row of the call's own is kept where another block has turned. -/
theorem OwnInts.keep {w w' : World} {base : Nat} {A : Option Addr} {cap : Nat} {zs : List Int} (h : OwnInts w base A cap zs) {row : Option Nat} (hg : w.grownBy w' row) (hr : ∀ k, row = some k → k < base) : OwnInts w' base A cap zs := by
  refine World.ownsRow.kept h hg ?_
  rcases h.2 with ⟨hv, _⟩ | ⟨g, c, cur, hv, hb, _⟩
  · left; rw [hv]; rfl
  · right
    rw [hv]
    intro e
    have := hr g (by simpa [Value.ownBlock] using e.symm)
    omega
theorem OwnInts.stored {w : World} {base b cap : Nat} {zs : List Int} (h : OwnInts w base (some ⟨b, 0, none⟩) cap zs) (j : Nat) (x : Int) : OwnInts (w.setCell ⟨b, j, none⟩ (.int .i64 x)) base (some ⟨b, 0, none⟩) cap (zs.set j x) := by
  have := (World.ownsRow.stored h j (.int .i64 x)).1
  unfold OwnInts
  rw [List.length_set]
  have e : vals (zs.set j x) = (vals zs).set j (i64 x) := by unfold vals; rw [List.map_set]
  rw [e]
  exact this

/-- Where the reader stands and what was drawn so far. -/
structure Drawing (w : World) (B g : Nat) (A : Option Addr) (len cap p : Nat) (base : Nat) (X : Option Addr) (c : Nat) (zs : List Int) (p' : Nat) (w' : World) : Prop where
  own : OwnInts w' base X c zs
  near : Near zs
  some_ : ∃ b, X = some ⟨b, 0, none⟩
  rd : Rd w' B g A len cap p'
  below : Below B w w'
  size : base ≤ w'.heap.size
  far : g < base
  top : w.heap.size ≤ base
  grown : w.grownBy w' (some g)
/-- A row above what was there turns: what was there is kept. -/
theorem grown_far {w w1 w2 : World} {g : Nat} {row : Option Nat} (h : w.grownBy w1 (some g)) (h2 : w1.grownBy w2 row) (hr : ∀ k, row = some k → w.heap.size ≤ k) : w.grownBy w2 (some g) :=
  ⟨h2.os.trans h.os, h2.tape.trans h.tape, h2.output.trans h.output, Nat.le_trans h.size h2.size, fun i hi hne => (h2.block i (Nat.lt_of_lt_of_le hi h.size) (fun e => by have := hr _ e.symm; omega)).trans (h.block i hi hne)⟩

def LeavesDrawn (w : World) (B g : Nat) (A : Option Addr) (len cap p : Nat) (e : Ending) (w' : World) : Prop :=
  ∃ X c zs p', e = .returned (.slice X zs.length c) ∧ zs.length ≤ 28 ∧ p' ≤ p + 60 ∧ Drawing w B g A len cap p w.heap.size X c zs p' w'

theorem Drawing.pick {w : World} {B g : Nat} {A : Option Addr} {len cap p base : Nat} {X : Option Addr} {c : Nat} {zs : List Int} {p' p2 : Nat} {w1 w2 : World} (h : Drawing w B g A len cap p base X c zs p' w1) (hR : Rd w2 B g A len cap p2) (hg : w1.grownBy w2 (some g)) : Drawing w B g A len cap p base X c zs p2 w2 :=
  ⟨h.own.keep hg (fun k hk => by injection hk with hk; have := h.far; omega), h.near, h.some_, hR, h.below.trans ((Below.refl B w1).grown hg (by have := h.rd.lt; have := h.rd.big; omega) (fun k hk => by injection hk with hk; have := h.rd.big; omega)), Nat.le_trans h.size hg.size, h.far, h.top, World.grownBy.trans h.grown hg⟩
theorem Drawing.app {w : World} {B g : Nat} {A : Option Addr} {len cap p base : Nat} {X : Option Addr} {c : Nat} {zs ys : List Int} {p' : Nat} {w1 w2 : World} {v : Value} (h : Drawing w B g A len cap p base X c zs p' w1) (hB : B ≤ base) (o : Option Obj)
    (hA : Appended (match o with | none => w1 | some o => w1.alloc o) base X zs.length c ys v w2) (hy : 0 < ys.length) (hn : Near ys) : ∃ X' c', v = .slice X' ys.length c' ∧ Drawing w B g A len cap p base X' c' ys p' w2 := by
  obtain ⟨⟨X', c', hv, hown⟩, hg, hbel⟩ := hA
  have hrow : ∀ k, Value.ownBlock (.slice X zs.length c) = some k → w.heap.size ≤ k := fun k hk => Nat.le_trans h.top (h.own.far (n := zs.length) k hk)
  refine ⟨X', c', hv, hown, hn, hown.some_ hy, ?_, ?_, ?_, h.far, h.top, ?_⟩
  · have hr : ∀ k, Value.ownBlock (.slice X zs.length c) = some k → B ≤ k ∧ k ≠ g := fun k hk => by
      have := h.own.far (n := zs.length) k hk
      have := h.far
      exact ⟨by omega, by omega⟩
    cases o with
    | none => exact h.rd.grown hg hr
    | some o => exact (h.rd.alloc o).grown hg hr
  · cases o with
    | none => exact h.below.trans (hbel.mono hB)
    | some o => exact (h.below.alloc (by have := h.rd.lt; have := h.rd.big; omega) o).trans (hbel.mono hB)
  · have := hg.size
    have := h.size
    cases o with
    | none => simp at *; omega
    | some o => simp at *; omega
  · cases o with
    | none => exact grown_far h.grown hg hrow
    | some o => exact grown_far (World.grownBy.trans h.grown (grown_of_alloc w1 o _)) hg hrow

theorem Rd.base {w : World} {B g : Nat} {A : Option Addr} {len cap p : Nat} (h : Rd w B g A len cap p) : B ≤ w.heap.size ∧ g < w.heap.size := ⟨by have := h.lt; have := h.big; omega, h.lt⟩



/-- What a draw of leaves hands back. -/
def ListDrawn (w : World) (e : Ending) (w' : World) : Prop :=
  ∃ b c zs, e = .returned (.slice (some ⟨b, 0, none⟩) zs.length c) ∧ zs.length ≤ 28 ∧ Near zs ∧ OwnInts w' w.heap.size (some ⟨b, 0, none⟩) c zs ∧ Below w.heap.size w w'

end Go.Proofs.YtgklkceoafohmaaDoor

namespace Go.Proofs.YtgklkceoafohmaaDoor
open Go.RowKit
set_option linter.unusedVariables false

def SecDrawn (w : World) (B g : Nat) (A : Option Addr) (len cap p : Nat) (e : Ending) (w' : World) : Prop :=
  ∃ (d : Int) (p' : Nat), -1 ≤ d ∧ d ≤ 997 ∧ p' ≤ p + 3 ∧ e = .returned (.int .i64 d) ∧ Rd w' B g A len cap p' ∧ Below B w w' ∧ w.grownBy w' (some g)

set_option maxHeartbeats 1000000 in
theorem drawsec_any {B g len cap p : Nat} {A : Option Addr} {w : World} (hR : Rd w B g A len cap p) (hp : p ≤ 100000) :
    Calls Tryd.prog 77 #[.pointer (some ⟨g, 0, none⟩)] w (SecDrawn w B g A len cap p) := by
  have HR := Lib.hid hR
  have hB := hR.big
  have hgl := hR.lt
  clear hR
  go_enter Tryd.func77, Tryd.ntmps77
  go_wp2_with fail
  refine (pick_any 20 HR.out (by omega) (by omega) (by omega)).mono ?_
  rintro e w1 ⟨x, hx, rfl, hR1, hg1, hz1⟩
  have HR1 := Lib.hid hR1
  have HG1 := Lib.hid hg1
  have HZ1 := Lib.hid hz1
  clear hR1 hg1 hz1
  by_cases h0 : x = 0
  · subst h0
    go_wp2_with fail
    refine (pick_any 4 (HR1.out.alloc _) (by omega) (by omega) (by omega)).mono ?_
    rintro e w2 ⟨y, hy, rfl, hR2, hg2, hz2⟩
    have hs1 := HZ1.out
    have hrow : w2.heap[w1.heap.size]? = some (.cells #[.int .i64 0, .int .i64 996, .int .i64 997, .int .i64 (-1)] 3 (0, 0)) :=
      (hg2.block w1.heap.size (by simp) (fun e => by injection e with e; omega)).trans (heap_alloc_new w1 _)
    have hcell := fun j => cell_of_row w2 w1.heap.size j _ _ (0, 0) hrow
    have hgr : w.grownBy w2 (some g) := (World.grownBy.trans HG1.out (grown_of_alloc w1 _ _)).trans hg2
    have hbel : Below B w w2 := ((((Below.refl B w).grown HG1.out (by omega) (fun k hk => by injection hk with hk; omega)).alloc (by omega) _).grown hg2 (by simp; omega) (fun k hk => by injection hk with hk; omega))
    have HR2 := Lib.hid hR2
    have HB2 := Lib.hid hbel
    have HGR := Lib.hid hgr
    clear hR2 hg2 hz2 hs1 hrow hbel hgr
    have hy4 : y = 0 ∨ y = 1 ∨ y = 2 ∨ y = 3 := by omega
    rcases hy4 with rfl | rfl | rfl | rfl
    · have hc := hcell 0
      clear hcell
      simp at hc
      go_wp2
      go_ret
      exact ⟨_, p + 1 + 1, by omega, by omega, by omega, rfl, HR2.out, HB2.out, HGR.out⟩
    · have hc := hcell 1
      clear hcell
      simp at hc
      go_wp2
      go_ret
      exact ⟨_, p + 1 + 1, by omega, by omega, by omega, rfl, HR2.out, HB2.out, HGR.out⟩
    · have hc := hcell 2
      clear hcell
      simp at hc
      go_wp2
      go_ret
      exact ⟨_, p + 1 + 1, by omega, by omega, by omega, rfl, HR2.out, HB2.out, HGR.out⟩
    · have hc := hcell 3
      clear hcell
      simp at hc
      go_wp2
      go_ret
      exact ⟨_, p + 1 + 1, by omega, by omega, by omega, rfl, HR2.out, HB2.out, HGR.out⟩
  · have hx0 : ((x : Int) == 0) = false := by simp; omega
    go_wp2_with fail
    refine (pick_any 99 HR1.out (by omega) (by omega) (by omega)).mono ?_
    rintro e w2 ⟨y, hy, rfl, hR2, hg2, hz2⟩
    have HR2 := Lib.hid hR2
    have HG2 := Lib.hid hg2
    have HZ2 := Lib.hid hz2
    clear hR2 hg2 hz2
    go_wp2_with fail
    refine (pick_any 10 HR2.out (by omega) (by omega) (by omega)).mono ?_
    rintro e w3 ⟨z, hz, rfl, hR3, hg3, hz3⟩
    have HR3 := Lib.hid hR3
    have HG3 := Lib.hid hg3
    clear hR3 hg3 hz3
    go_wp2
    go_ret
    exact ⟨_, p + 1 + 1 + 1, by omega, by omega, by omega, rfl, HR3.out, (World.grownBy.trans (World.grownBy.trans HG1.out HG2.out) HG3.out |> fun k => (Below.refl B w).grown k (by omega) (fun k hk => by injection hk with hk; omega)), World.grownBy.trans (World.grownBy.trans HG1.out HG2.out) HG3.out⟩

/-- What a draw of a number hands back. -/
def NumDrawn (w : World) (e : Ending) (w' : World) : Prop := ∃ d : Int, -1 ≤ d ∧ d ≤ 997 ∧ e = .returned (.int .i64 d) ∧ Below w.heap.size w w'
/-- What a draw of a number and leaves hands back. -/
def NumListDrawn (w : World) (e : Ending) (w' : World) : Prop :=
  ∃ b c zs d, e = .returned (.tuple #[.int .i64 d, .slice (some ⟨b, 0, none⟩) (List.length zs) c]) ∧ zs.length ≤ 28 ∧ Near zs ∧ -1 ≤ d ∧ d ≤ 997 ∧ OwnInts w' w.heap.size (some ⟨b, 0, none⟩) c zs ∧ Below w.heap.size w w'





end Go.Proofs.YtgklkceoafohmaaDoor

namespace Go.Proofs.YtgklkceoafohmaaDoor
open Go.RowKit
set_option linter.unusedVariables false

def TextRel (w : World) (B g : Nat) (A : Option Addr) (len cap p n : Nat) (out i : Value) (wr : World) : Prop :=
  ∃ (k p' : Nat) (s : ByteArray), k ≤ n ∧ s.size = k ∧ out = .string s ∧ i = .int .i64 (k : Int) ∧ p' ≤ p + 3 + k ∧ Rd wr B g A len cap p' ∧ w.grownBy wr (some g)

def TextDrawn (w : World) (B g : Nat) (A : Option Addr) (len cap p : Nat) (e : Ending) (w' : World) : Prop :=
  ∃ (s : ByteArray) (p' : Nat), s.size ≤ 10 ∧ p' ≤ p + 14 ∧ e = .returned (.string s) ∧ Rd w' B g A len cap p' ∧ w.grownBy w' (some g)

set_option maxHeartbeats 1000000 in
theorem drawtext_any {B g len cap p : Nat} {A : Option Addr} {w : World} (hR : Rd w B g A len cap p) (hp : p ≤ 100000) :
    Calls Tryd.prog 32 #[.pointer (some ⟨g, 0, none⟩)] w (TextDrawn w B g A len cap p) := by
  have HR := Lib.hid hR
  have hB := hR.big
  have hgl := hR.lt
  clear hR
  go_enter Tryd.func32, Tryd.ntmps32
  go_wp2_with fail
  refine (pick_any 9 HR.out (by omega) (by omega) (by omega)).mono ?_
  rintro e w1 ⟨n, hn, rfl, hR1, hg1, hz1⟩
  have HR1 := Lib.hid hR1
  have HG1 := Lib.hid hg1
  clear hR1 hg1 hz1
  go_wp2_with fail
  refine (pick_any 20 HR1.out (by omega) (by omega) (by omega)).mono ?_
  rintro e w2 ⟨x, hx, rfl, hR2, hg2, hz2⟩
  have HR2 := Lib.hid hR2
  have HB2 : Hid (w.grownBy w2 (some g)) := World.grownBy.trans HG1.out hg2
  clear hR2 hg2 hz2
  by_cases h0 : x = 0
  · subst h0
    go_wp2_with fail
    refine (pick_any 3 HR2.out (by omega) (by omega) (by omega)).mono ?_
    rintro e w3 ⟨z, hz, rfl, hR3, hg3, hz3⟩
    have HB3 : Hid (w.grownBy w3 (some g)) := World.grownBy.trans HB2.out hg3
    clear HR2 HB2
    have HR2 := Lib.hid hR3
    have HB2 := HB3
    clear hR3 hg3 hz3 HB3
    go_wp2_with fail
    go_loopw [3, 5] (TextRel w B g A len cap p (8 + z)) (fun _ i _ => (8 + z) - (intOf i).toNat)
    case atStart => exact ⟨0, _, ByteArray.empty, Nat.zero_le _, rfl, rfl, rfl, by omega, HR2.out, HB2.out⟩
    case round =>
      obtain ⟨k, p', s, hk, hs, rfl, rfl, hp', hRr, hbr⟩ := hrel
      have HRr := Lib.hid hRr
      have HBr := Lib.hid hbr
      have HS := Lib.hid hs
      have hss : s.size ≤ 10 := by omega
      clear hRr hbr hs HR2 HB2
      by_cases hlt : k < (8 + z)
      · go_wp2_with fail
        refine (pick_any 26 HRr.out (by omega) (by omega) (by omega)).mono ?_
        rintro e w3 ⟨y, hy, rfl, hR3, hg3, hz3⟩
        have HR3 := Lib.hid hR3
        have HB3 : Hid (w.grownBy w3 (some g)) := World.grownBy.trans HBr.out hg3
        have hzB : B ≤ w3.heap.size := by have := hR3.lt; omega
        clear hR3 hg3 hz3
        have hcv := run_one_byte w3 (97 + (y : Int))
        have hsz : (ByteArray.empty.push (UInt8.ofNat ((97 : Int) + (y : Int)).toNat)).size = 1 := rfl
        go_wp2_with fail
        exact ⟨⟨k + 1, p' + 1, _, by omega, push_size s _ k HS.out, rfl, by go_num, by omega, HR3.out.alloc _, World.grownBy.trans HB3.out (grown_of_alloc w3 _ _)⟩, by simp [intOf]; omega⟩
      · go_wp2
        go_ret
        exact ⟨s, p', hss, by omega, rfl, HRr.out, HBr.out⟩
  · have hx0 : ((x : Int) == 0) = false := by simp; omega
    go_wp2_with fail
    go_loopw [3, 5] (TextRel w B g A len cap p n) (fun _ i _ => n - (intOf i).toNat)
    case atStart => exact ⟨0, _, ByteArray.empty, Nat.zero_le _, rfl, rfl, rfl, by omega, HR2.out, HB2.out⟩
    case round =>
      obtain ⟨k, p', s, hk, hs, rfl, rfl, hp', hRr, hbr⟩ := hrel
      have HRr := Lib.hid hRr
      have HBr := Lib.hid hbr
      have HS := Lib.hid hs
      have hss : s.size ≤ 10 := by omega
      clear hRr hbr hs HR2 HB2
      by_cases hlt : k < n
      · go_wp2_with fail
        refine (pick_any 26 HRr.out (by omega) (by omega) (by omega)).mono ?_
        rintro e w3 ⟨y, hy, rfl, hR3, hg3, hz3⟩
        have HR3 := Lib.hid hR3
        have HB3 : Hid (w.grownBy w3 (some g)) := World.grownBy.trans HBr.out hg3
        have hzB : B ≤ w3.heap.size := by have := hR3.lt; omega
        clear hR3 hg3 hz3
        have hcv := run_one_byte w3 (97 + (y : Int))
        have hsz : (ByteArray.empty.push (UInt8.ofNat ((97 : Int) + (y : Int)).toNat)).size = 1 := rfl
        go_wp2_with fail
        exact ⟨⟨k + 1, p' + 1, _, by omega, push_size s _ k HS.out, rfl, by go_num, by omega, HR3.out.alloc _, World.grownBy.trans HB3.out (grown_of_alloc w3 _ _)⟩, by simp [intOf]; omega⟩
      · go_wp2
        go_ret
        exact ⟨s, p', hss, by omega, rfl, HRr.out, HBr.out⟩

end Go.Proofs.YtgklkceoafohmaaDoor

namespace Go.Proofs.YtgklkceoafohmaaDoor
open Go.RowKit
set_option linter.unusedVariables false

/-- A reader and a list of the call's own. -/
structure Reading (w : World) (B g : Nat) (A : Option Addr) (len cap : Nat) (base : Nat) (X : Option Addr) (c : Nat) (zs : List Int) (p' : Nat) (w' : World) : Prop where
  own : OwnInts w' base X c zs
  rd : Rd w' B g A len cap p'
  below : Below B w w'
  size : base ≤ w'.heap.size
  far : g < base
theorem Reading.pick {w : World} {B g : Nat} {A : Option Addr} {len cap base : Nat} {X : Option Addr} {c : Nat} {zs : List Int} {p' p2 : Nat} {w1 w2 : World} (h : Reading w B g A len cap base X c zs p' w1) (hR : Rd w2 B g A len cap p2) (hg : w1.grownBy w2 (some g)) : Reading w B g A len cap base X c zs p2 w2 :=
  ⟨h.own.keep hg (fun k hk => by injection hk with hk; have := h.far; omega), hR, h.below.trans ((Below.refl B w1).grown hg (by have := h.rd.lt; have := h.rd.big; omega) (fun k hk => by injection hk with hk; have := h.rd.big; omega)), Nat.le_trans h.size hg.size, h.far⟩
theorem Rd.belowS {w w' : World} {B g : Nat} {A : Option Addr} {len cap p : Nat} (h : Rd w B g A len cap p) (hb : Below w.heap.size w w') : Rd w' B g A len cap p :=
  h.keep (fun i hi => hb.block i (by have := h.lt; have := h.big; omega)) (hb.block g h.lt)

def Bent (w : World) (B g : Nat) (A : Option Addr) (len cap p n : Nat) (e : Ending) (w' : World) : Prop :=
  ∃ X c zs p', e = .returned (.slice X (List.length zs) c) ∧ zs.length ≤ n + 1 ∧ p' ≤ p + 10 ∧ Reading w B g A len cap w.heap.size X c zs p' w'

set_option maxHeartbeats 4000000 in
set_option maxRecDepth 100000 in
theorem bend_any {B g len cap p : Nat} {A : Option Addr} {w : World} (hR : Rd w B g A len cap p) (hp : p ≤ 90000) (Y : Option Addr) (cy : Nat) (ys : List Int) (hI : IntsAt w w.heap.size Y ys) (hn : ys.length ≤ 100) (hY : Y = none → cy = 0) :
    Calls Tryd.prog 35 #[.pointer (some ⟨g, 0, none⟩), .slice Y ys.length cy] w (Bent w B g A len cap p ys.length) := by
  have HR := Lib.hid hR
  have HI := Lib.hid hI
  have HY := Lib.hid hY
  obtain ⟨hBw, hgw⟩ := hR.base
  obtain ⟨n, HN⟩ : ∃ n, Hid (ys.length = n) := ⟨_, rfl⟩
  rw [HN.out] at hn ⊢
  clear hR hI hY
  go_enter Tryd.func35, Tryd.ntmps35
  go_wp2_with (at_builtin; refine wpList_app_ints rfl (.tmp 6) (.tmp 7) rfl _ w.heap.size _ _ [] rfl Y cy ys (by rw [HN.out]; rfl) (OwnInts.new w) (HI.out.allocS _) (by rw [HN.out]; simp; omega) (by simp) HY.out ?_; intro v w1 hA; rw [List.nil_append] at hA; obtain ⟨⟨A1, c1, rfl, hown1⟩, hg1, hb1⟩ := hA; have HO1 := Lib.hid hown1; have HB1 : Hid (Below w.heap.size w w1) := ((Below.refl _ w).alloc (Nat.le_refl _) _).trans hb1; clear hown1 hg1 hb1; rw [HN.out])
  have HD1 : Hid (Reading w B g A len cap w.heap.size A1 c1 ys p w1) := ⟨HO1.out, HR.out.belowS HB1.out, HB1.out.mono hBw, HB1.out.size, hgw⟩
  refine (pick_any 4 HD1.out.rd (by omega) (by omega) (by omega)).mono ?_
  rintro e w2 ⟨t, ht, rfl, hR2, hg2, hz2⟩
  have HD2 := Lib.hid (HD1.out.pick hR2 hg2)
  clear hR2 hg2 hz2
  have hz2 : w.heap.size ≤ w2.heap.size := HD2.out.size
  by_cases ht0 : t = 0
  · subst ht0
    go_wp2_with fail
    refine (drawdig_any HD2.out.rd (by omega)).mono ?_
    rintro e w3 ⟨d, p3, hd1, hd2, hp3, rfl, hR3, hb3, hg3⟩
    have HD3 := Lib.hid (HD2.out.pick hR3 hg3)
    clear hR3 hg3 hb3
    have hz3 : w.heap.size ≤ w3.heap.size := HD3.out.size
    obtain ⟨us, HU⟩ : ∃ us, Hid (ys ++ [d] = us) := ⟨_, rfl⟩
    have HUL : Hid (us.length = n + 1) := by show _ = _; rw [← HU.out, List.length_append, HN.out]; rfl
    go_wp2_with (at_builtin; refine wpList_app_ints rfl (.tmp 24) (.tmp 27) rfl _ w.heap.size A1 c1 ys (by rw [HN.out]; rfl) _ _ [d] rfl (HD3.out.own.alloc _) (one_new _ _) (by rw [HN.out]; simp; omega) (by simp; omega) (by simp) ?_; intro v w4 hA; rw [HU.out] at hA; have HA := Lib.hid hA; obtain ⟨⟨A4, c4, rfl, hown4⟩, hg4, hb4⟩ := hA; have HO4 := Lib.hid hown4; clear hown4 hg4 hb4)
    go_ret
    have hD := HD3.out
    refine ⟨A4, c4, us, p3, rfl, by rw [HUL.out]; omega, by omega, HO4.out, ?_, ?_, ?_, hD.far⟩
    · exact (hD.rd.alloc _).grown HA.out.grown (fun k hk => by have h1 := hD.own.far (n := ys.length) k hk; have h2 := hD.far; exact ⟨by omega, by omega⟩)
    · exact (hD.below.alloc (by omega) _).trans (HA.out.below.mono hBw)
    · have := HA.out.grown.size; simp at this; omega
  · have ht0' : ((t : Int) == 0) = false := by rw [beq_eq_false_iff_ne]; omega
    by_cases hn0 : n = 0
    · subst hn0
      by_cases ht1 : t = 1
      · subst ht1
        go_wp2
        go_ret
        exact ⟨A1, c1, ys, _, by rw [HN.out]; rfl, by rw [HN.out]; omega, by omega, HD2.out⟩
      · have ht1' : ((t : Int) == 1) = false := by rw [beq_eq_false_iff_ne]; omega
        go_wp2
        go_ret
        exact ⟨A1, c1, ys, _, by rw [HN.out]; rfl, by rw [HN.out]; omega, by omega, HD2.out⟩
    · obtain ⟨b1, hA1⟩ := HD2.out.own.some_ (by rw [HN.out]; omega)
      subst hA1
      have hnp : (0 : Int) < (n : Int) := by omega
      have hnp' : 0 < n := by omega
      by_cases ht1 : t = 1
      · subst ht1
        have hcl := HD2.out.own.le
        rw [HN.out] at hcl
        have hni : (n : Int) - 1 ≤ (c1 : Int) := by omega
        have hni0 : (0 : Int) ≤ (n : Int) - 1 := by omega
        have hc63 := hcl.2
        unfold maxLen at hc63
        go_wp2
        go_ret
        have hD := HD2.out
        have hl : (ys.take (n - 1)).length = n - 1 := by rw [List.length_take, HN.out]; omega
        exact ⟨_, c1, ys.take (n - 1), _, by rw [hl]; rfl, by rw [hl]; omega, by omega, hD.own.cut (n - 1) (by rw [HN.out]; omega), hD.rd, hD.below, hD.size, hD.far⟩
      · have ht1' : ((t : Int) == 1) = false := by rw [beq_eq_false_iff_ne]; omega
        go_wp2_with fail
        refine (pick_any n HD2.out.rd (by omega) (by omega) (by omega)).mono ?_
        rintro e w3 ⟨j, hj, rfl, hR3, hg3, hz3⟩
        have HD3 := Lib.hid (HD2.out.pick hR3 hg3)
        clear hR3 hg3 hz3
        go_wp2_with fail
        refine (drawdig_any HD3.out.rd (by omega)).mono ?_
        rintro e w4 ⟨d, p4, hd1, hd2, hp4, rfl, hR4, hb4, hg4⟩
        have HD4 := Lib.hid (HD3.out.pick hR4 hg4)
        clear hR4 hg4 hb4
        have hjz : j < ys.length := by rw [HN.out]; omega
        have hcell : w4.cell? ⟨b1, j, none⟩ = some (.int .i64 (nth ys j)) := by
          have h1 := (HD4.out.own.ints.lt (by omega)).2 j hjz
          rw [Nat.zero_add] at h1
          exact h1
        have hfro : w4.frozen? ⟨b1, j, none⟩ = false := World.ownsRow.frozenAt HD4.out.own j
        have hji : (j : Int) < (n : Int) := by omega
        clear hjz
        go_wp2
        go_ret
        have hD := HD4.out
        have hbb := hD.own.far (n := ys.length) b1 rfl
        have hfar := hD.far
        refine ⟨_, c1, ys.set j d, p4, by rw [List.length_set, HN.out]; rfl, by rw [List.length_set, HN.out]; omega, by omega, hD.own.stored j d, ?_, ?_, ?_, hD.far⟩
        · exact hD.rd.setOther (q := ⟨b1, j, none⟩) (by show B ≤ b1; omega) (by show b1 ≠ g; omega) _
        · exact hD.below.setCell (p := ⟨b1, j, none⟩) (by show B ≤ b1; omega) _
        · have := hD.size; simp [World.setCell]; exact this

end Go.Proofs.YtgklkceoafohmaaDoor
