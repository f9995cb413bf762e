/- Contract of DrawBitsWants: two lists of at most 18 bits, each in memory of the call's own. Condition: the code's bytes lie in memory. -/
import Derived.Test.YtmgdngmcgokeeaaDrawBits
namespace Go.Proofs.Ytmgdngmcgokeeaa
open Go.RowKit
set_option linter.unusedVariables false

/-- A row is there wherever its block is as it was. -/
theorem OwnBools.block {w w' : World} {base b cap : Nat} {zs : List Bool} (h : OwnBools w base (some ⟨b, 0, none⟩) cap zs) (hb : w'.heap[b]? = w.heap[b]?) : OwnBools w' base (some ⟨b, 0, none⟩) cap zs := by
  refine ⟨h.1, ?_⟩
  rcases h.2 with h0 | ⟨g, c, cur, hv, hg, hgb, hr⟩
  · exact .inl h0
  · injection hv with hA hn hc
    injection hA with hA
    injection hA with hA _ _
    subst hA hc
    exact .inr ⟨b, cap, cur, rfl, hg, hb.trans hgb, hr⟩

def TwoDrawn (w : World) (e : Ending) (w' : World) : Prop :=
  ∃ b c xs b1 c1 ys, e = .returned (.tuple #[.slice (some ⟨b, 0, none⟩) xs.length c, .slice (some ⟨b1, 0, none⟩) ys.length c1]) ∧ xs.length ≤ 18 ∧ ys.length ≤ 18 ∧
    OwnBools w' w.heap.size (some ⟨b, 0, none⟩) c xs ∧ OwnBools w' w.heap.size (some ⟨b1, 0, none⟩) c1 ys ∧ Below w.heap.size w w'

set_option maxHeartbeats 1000000 in
theorem drawwants_any (A : Option Addr) (len cap : Nat) (w : World) (hI : In w A len cap) :
    Calls Try.prog 13 #[.slice A len cap] w (TwoDrawn w) := by
  have HI := Lib.hid hI
  clear hI
  go_enter Try.func13, Try.ntmps13
  go_wp2_with fail
  refine (open_any A len cap _ HI.out).mono ?_
  rintro e w1 ⟨len', cap', rfl, hR1, hb1⟩
  have HR1 := Lib.hid hR1
  have HB1 := Lib.hid hb1
  clear hR1 hb1
  go_wp2_with fail
  refine (bitsdraw_any HR1.out (by omega)).mono ?_
  rintro e w2 ⟨X, c, zs, p', rfl, hl, hp', hD⟩
  obtain ⟨b, hX⟩ := hD.some_
  subst hX
  have HD := Lib.hid hD
  clear hD
  go_wp2_with fail
  refine (bitsdraw_any HD.out.rd (by omega)).mono ?_
  rintro e w3 ⟨X1, c1, ys, p1, rfl, hl1, hp1, hD1⟩
  obtain ⟨b1, hX1⟩ := hD1.some_
  subst hX1
  have HD1 := Lib.hid hD1
  clear hD1
  go_wp2
  go_ret2
  have hb := World.ownsRow.lt HD.out.own b rfl
  have hfar := HD.out.far
  have hs1 := HB1.out.size
  have hs2 := HD.out.size
  refine ⟨b, c, zs, b1, c1, ys, rfl, hl, hl1, ?_, HD1.out.own.base_le (by omega), (HB1.out.trans HD.out.below).trans HD1.out.below⟩
  exact (HD.out.own.block (HD1.out.kept b hb.2 (by omega))).base_le hs1

end Go.Proofs.Ytmgdngmcgokeeaa
