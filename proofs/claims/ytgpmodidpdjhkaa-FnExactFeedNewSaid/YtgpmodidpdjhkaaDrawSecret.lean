/- Contracts of l91Secret, DrawHeadPublic and DrawHeadMake: a number from -1 to 997, and leaves; nothing that was there is changed. Condition: the reader's place is at most 100000; the code's bytes lie in memory. -/
import Derived.Test.YtgpmodidpdjhkaaDrawLeaves
namespace Go.Proofs.Ytgpmodidpdjhkaa
open Go.RowKit
set_option linter.unusedVariables false

def SecDrawn (w : World) (B g : Nat) (A : Option Addr) (len cap p : Nat) (e : Ending) (w' : World) : Prop :=
  ∃ (d : Int) (p' : Nat), -1 ≤ d ∧ d ≤ 997 ∧ p' ≤ p + 3 ∧ e = .returned (.int .i64 d) ∧ Rd w' B g A len cap p' ∧ Below B w w' ∧ w.grownBy w' (some g)

set_option maxHeartbeats 1000000 in
theorem drawsec_any {B g len cap p : Nat} {A : Option Addr} {w : World} (hR : Rd w B g A len cap p) (hp : p ≤ 100000) :
    Calls Try.prog 34 #[.pointer (some ⟨g, 0, none⟩)] w (SecDrawn w B g A len cap p) := by
  have HR := Lib.hid hR
  have hB := hR.big
  have hgl := hR.lt
  clear hR
  go_enter Try.func34, Try.ntmps34
  go_wp2_with fail
  refine (pick_any 20 HR.out (by omega) (by omega) (by omega)).mono ?_
  rintro e w1 ⟨x, hx, rfl, hR1, hg1, hz1⟩
  have HR1 := Lib.hid hR1
  have HG1 := Lib.hid hg1
  have HZ1 := Lib.hid hz1
  clear hR1 hg1 hz1
  by_cases h0 : x = 0
  · subst h0
    go_wp2_with fail
    refine (pick_any 4 (HR1.out.alloc _) (by omega) (by omega) (by omega)).mono ?_
    rintro e w2 ⟨y, hy, rfl, hR2, hg2, hz2⟩
    have hs1 := HZ1.out
    have hrow : w2.heap[w1.heap.size]? = some (.cells #[.int .i64 0, .int .i64 996, .int .i64 997, .int .i64 (-1)] 3 (0, 0)) :=
      (hg2.block w1.heap.size (by simp) (fun e => by injection e with e; omega)).trans (heap_alloc_new w1 _)
    have hcell := fun j => cell_of_row w2 w1.heap.size j _ _ (0, 0) hrow
    have hgr : w.grownBy w2 (some g) := (World.grownBy.trans HG1.out (grown_of_alloc w1 _ _)).trans hg2
    have hbel : Below B w w2 := ((((Below.refl B w).grown HG1.out (by omega) (fun k hk => by injection hk with hk; omega)).alloc (by omega) _).grown hg2 (by simp; omega) (fun k hk => by injection hk with hk; omega))
    have HR2 := Lib.hid hR2
    have HB2 := Lib.hid hbel
    have HGR := Lib.hid hgr
    clear hR2 hg2 hz2 hs1 hrow hbel hgr
    have hy4 : y = 0 ∨ y = 1 ∨ y = 2 ∨ y = 3 := by omega
    rcases hy4 with rfl | rfl | rfl | rfl
    · have hc := hcell 0
      clear hcell
      simp at hc
      go_wp2
      go_ret
      exact ⟨_, p + 1 + 1, by omega, by omega, by omega, rfl, HR2.out, HB2.out, HGR.out⟩
    · have hc := hcell 1
      clear hcell
      simp at hc
      go_wp2
      go_ret
      exact ⟨_, p + 1 + 1, by omega, by omega, by omega, rfl, HR2.out, HB2.out, HGR.out⟩
    · have hc := hcell 2
      clear hcell
      simp at hc
      go_wp2
      go_ret
      exact ⟨_, p + 1 + 1, by omega, by omega, by omega, rfl, HR2.out, HB2.out, HGR.out⟩
    · have hc := hcell 3
      clear hcell
      simp at hc
      go_wp2
      go_ret
      exact ⟨_, p + 1 + 1, by omega, by omega, by omega, rfl, HR2.out, HB2.out, HGR.out⟩
  · have hx0 : ((x : Int) == 0) = false := by simp; omega
    go_wp2_with fail
    refine (pick_any 99 HR1.out (by omega) (by omega) (by omega)).mono ?_
    rintro e w2 ⟨y, hy, rfl, hR2, hg2, hz2⟩
    have HR2 := Lib.hid hR2
    have HG2 := Lib.hid hg2
    have HZ2 := Lib.hid hz2
    clear hR2 hg2 hz2
    go_wp2_with fail
    refine (pick_any 10 HR2.out (by omega) (by omega) (by omega)).mono ?_
    rintro e w3 ⟨z, hz, rfl, hR3, hg3, hz3⟩
    have HR3 := Lib.hid hR3
    have HG3 := Lib.hid hg3
    clear hR3 hg3 hz3
    go_wp2
    go_ret
    exact ⟨_, p + 1 + 1 + 1, by omega, by omega, by omega, rfl, HR3.out, (World.grownBy.trans (World.grownBy.trans HG1.out HG2.out) HG3.out |> fun k => (Below.refl B w).grown k (by omega) (fun k hk => by injection hk with hk; omega)), World.grownBy.trans (World.grownBy.trans HG1.out HG2.out) HG3.out⟩

/-- What a draw of a number hands back. -/
def NumDrawn (w : World) (e : Ending) (w' : World) : Prop := ∃ d : Int, -1 ≤ d ∧ d ≤ 997 ∧ e = .returned (.int .i64 d) ∧ Below w.heap.size w w'
/-- What a draw of a number and leaves hands back. -/
def NumListDrawn (w : World) (e : Ending) (w' : World) : Prop :=
  ∃ b c zs d, e = .returned (.tuple #[.int .i64 d, .slice (some ⟨b, 0, none⟩) (List.length zs) c]) ∧ zs.length ≤ 28 ∧ Near zs ∧ -1 ≤ d ∧ d ≤ 997 ∧ OwnInts w' w.heap.size (some ⟨b, 0, none⟩) c zs ∧ Below w.heap.size w w'





end Go.Proofs.Ytgpmodidpdjhkaa
