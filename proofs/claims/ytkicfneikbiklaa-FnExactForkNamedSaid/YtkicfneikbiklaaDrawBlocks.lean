/- Contracts of l91Good and l91Blocks: a valid secret; at most 16 texts of at most 8 bytes in memory of the call's own; the reader moves on, and every other block lies as it lay. Condition: the reader's place is at most 50000; the code's bytes lie in memory. -/
import Derived.Test.YtkicfneikbiklaaBaseC
import Derived.Test.YtkicfneikbiklaaBaseH
namespace Go.Proofs.Ytkicfneikbiklaa
open Go.RowKit
set_option linter.unusedVariables false

theorem grown_then {w W w' : World} {row : Option Nat} (hg : w.grownBy W row) (hb : Below w.heap.size W w') : w.grownBy w' row :=
  ⟨hb.os.trans hg.os, hb.tape.trans hg.tape, hb.output.trans hg.output, Nat.le_trans hg.size hb.size, fun i hi hne => (hb.block i hi).trans (hg.block i hi hne)⟩
theorem grown_alloc {w W : World} {row : Option Nat} (hg : w.grownBy W row) (o : Obj) : w.grownBy (W.alloc o) row := World.grownBy.trans hg (grown_of_alloc W o row)
theorem Rd.then_ {w w' : World} {B g len cap p base : Nat} {A : Option Addr} (h : Rd w B g A len cap p) (hb : Below base w w') (hg : g < base) : Rd w' B g A len cap p :=
  h.keep (fun i hi => hb.block i (by have := h.big; omega)) (hb.block g hg)

def GoodDrawn (w : World) (B g : Nat) (A : Option Addr) (len cap p : Nat) (e : Ending) (w' : World) : Prop :=
  ∃ (d : Int) (p' : Nat), 1 ≤ d ∧ d ≤ 986 ∧ p' ≤ p + 2 ∧ e = .returned (.int .i64 d) ∧ Rd w' B g A len cap p' ∧ w.grownBy w' (some g)

set_option maxHeartbeats 1000000 in
theorem drawgood_any {B g len cap p : Nat} {A : Option Addr} {w : World} (hR : Rd w B g A len cap p) (hp : p ≤ 100000) :
    Calls Try.prog 32 #[.pointer (some ⟨g, 0, none⟩)] w (GoodDrawn w B g A len cap p) := by
  have HR := Lib.hid hR
  clear hR
  go_enter Try.func32, Try.ntmps32
  go_wp2_with fail
  refine (pick_any 99 HR.out (by omega) (by omega) (by omega)).mono ?_
  rintro e w1 ⟨x, hx, rfl, hR1, hg1, hz1⟩
  have HR1 := Lib.hid hR1
  have HG1 := Lib.hid hg1
  clear hR1 hg1 hz1
  go_wp2_with fail
  refine (pick_any 6 HR1.out (by omega) (by omega) (by omega)).mono ?_
  rintro e w2 ⟨y, hy, rfl, hR2, hg2, hz2⟩
  have HR2 := Lib.hid hR2
  have HG2 := Lib.hid (World.grownBy.trans HG1.out hg2)
  clear hR2 hg2 hz2
  go_wp2
  go_ret
  exact ⟨_, p + 1 + 1, by omega, by omega, by omega, rfl, HR2.out, HG2.out⟩

/-- Where the texts that are drawn stand. -/
structure Blocking (w : World) (B g : Nat) (A : Option Addr) (len cap p : Nat) (X : Option Addr) (c : Nat) (bs : List ByteArray) (w' : World) : Prop where
  own : OwnStrs w' w.heap.size X c bs
  short : ∀ x ∈ bs, x.size ≤ 8
  some_ : ∃ b, X = some ⟨b, 0, none⟩
  rd : Rd w' B g A len cap p
  grown : w.grownBy w' (some g)
theorem Blocking.app {w w1 w2 w3 : World} {B g len cap p p' : Nat} {A X : Option Addr} {c : Nat} {bs : List ByteArray} {t : ByteArray} {v : Value} (h : Blocking w B g A len cap p X c bs w1) (hgw : g < w.heap.size) (hR : Rd w2 B g A len cap p') (hg : w1.grownBy w2 (some g)) (ho : OwnStrs w2 w.heap.size X c bs) (ht : t.size ≤ 8) (o : Obj) (hA : AppendedS (w2.alloc o) w.heap.size X bs.length c (bs ++ [t]) v w3) : ∃ X' c', v = .slice X' (bs ++ [t]).length c' ∧ Blocking w B g A len cap p' X' c' (bs ++ [t]) w3 := by
  obtain ⟨⟨X', c', hv, ho3⟩, _, hb⟩ := hA
  refine ⟨X', c', hv, ho3, ?_, ?_, (hR.alloc o).then_ hb hgw, grown_then (grown_alloc (World.grownBy.trans h.grown hg) o) hb⟩
  · intro x hx
    rcases List.mem_append.1 hx with hx | hx
    · exact h.short x hx
    · have : x = t := by simpa using hx
      subst this; exact ht
  · obtain ⟨g', c'', hv', _, _⟩ := World.ownsRow.form ho3 (by simp)
    injection hv' with hA' _ _
    exact ⟨g', hA'⟩
/-- A row of texts of the call's own is kept where another block has turned. -/
theorem owns_keep {w w' : World} {base : Nat} {A : Option Addr} {cap : Nat} {zs : List ByteArray} (h : OwnStrs w base A cap zs) {row : Option Nat} (hg : w.grownBy w' row) (hr : ∀ k, row = some k → k < base) : OwnStrs w' base A cap zs := by
  refine World.ownsRow.kept h hg ?_
  rcases h.2 with ⟨hv, _⟩ | ⟨g, c, cur, hv, hb, _⟩
  · left; rw [hv]; rfl
  · right
    rw [hv]
    intro e
    have := hr g (by simpa [Value.ownBlock] using e.symm)
    omega
theorem ownbs_keep {w w' : World} {base : Nat} {A : Option Addr} {cap : Nat} {zs : List Bool} (h : OwnBools w base A cap zs) {row : Option Nat} (hg : w.grownBy w' row) (hr : ∀ k, row = some k → k < base) : OwnBools w' base A cap zs := by
  refine World.ownsRow.kept h hg ?_
  rcases h.2 with ⟨hv, _⟩ | ⟨g, c, cur, hv, hb, _⟩
  · left; rw [hv]; rfl
  · right
    rw [hv]
    intro e
    have := hr g (by simpa [Value.ownBlock] using e.symm)
    omega
theorem cut_size (t : ByteArray) : (t.extract 0 8).size ≤ 8 := by
  rw [ByteArray.size_extract]; omega

def BlocksDrawn (w : World) (B g : Nat) (A : Option Addr) (len cap p : Nat) (e : Ending) (w' : World) : Prop :=
  ∃ X c bs p', e = .returned (.slice X bs.length c) ∧ bs.length ≤ 16 ∧ p' ≤ p + 300 ∧ Blocking w B g A len cap p' X c bs w'



end Go.Proofs.Ytkicfneikbiklaa
