/- What the listed variables of math/bits hold when the call begins: the cells of the table that are read (Tab); and that the door's own heap meets it. No conditions. -/
import Derived.Test.YtgklkceoafohmaaDoorRows
import Derived.Test.YtgklkceoafohmaaDoorBaseK
import Derived.ProofKit
import Derived.LaidMore
import Derived.OpenShut
import Derived.Stop.Joined
namespace Go.Proofs.YtgklkceoafohmaaDoor
open Go.ChangeShapes Go.WideShapes Go.ChangeAt Go.WideMaps Go.WideElems Go.RowKit
set_option linter.unusedVariables false

theorem own_knob : ownKnob Tryd.prog.godebug = none := by kernel_rfl
abbrev laid2 : List (String × DataW Unit) := Rows.fnExactFeedPutRow.laid
theorem t64 : (Tryd.prog.globals[1]?).map (·.type) = some 135 := by kernel_rfl
theorem cells5 : Tryd.prog.cellsOf 5 = 1 := by kernel_rfl

/-- The door's own heap meets the condition. -/
theorem door_met (os : Os) (args : Array Value) : laidMetH Tryd.prog laid2 ((World.doorLaid Tryd.prog 400 os).forCall (fun _ _ => 0) ⟨#[], args, []⟩).memory :=
  laidMetH_of_parts3 (fuel := 8) (laidMet_of_run' 8 (by kernel_rfl) (by kernel_rfl)) (by kernel_rfl) (by kernel_rfl)

theorem tab_of_laid {W : World} (h : laidMetH Tryd.prog laid2 W) : Tab W := by
  rw [MakeChecks.laidMetH_plain _ _ _ (by kernel_rfl)] at h
  obtain ⟨ps, ⟨g0, t0, cs0, f0, p0, q0, hg0, ht0, hv0, hd0, ⟨g1, t1, cs1, f1, p1, q1, hg1, ht1, hv1, hd1, _, _⟩, _⟩, _, _⟩ := h
  have hg1' : g1 = 1 := by
    have : Tryd.prog.globalNamed (Rows.fnExactFeedPutRow.named.getD 1 "") = some 1 := by kernel_rfl
    exact (Option.some.inj (this.symm.trans hg1)).symm
  subst hg1'
  obtain rfl := Option.some.inj (t64.symm.trans ht1)
  obtain ⟨xs, m1, rfl, hx1, hlen, hn3, hel⟩ := DataW.trod_array Tryd.underlying135 hd1
  simp only [Prod.mk.injEq] at hx1
  have hL := hx1.1
  have hat : ∀ (j : Nat) (v : Int), j < 64 → (match Rows.laid_math_bits_deBruijn64tab (H := Unit) with | .agg l => l[j]? | _ => none) = some (.lit (.int .u8 v)) → W.cell? ⟨1, j, none⟩ = some (.int .u8 v) := by
    intro j v hj hv
    have h1 : (xs.map (·.1))[j]? = some (.lit (.int .u8 v)) := by
      have h2 : (DataW.agg (xs.map (·.1)) : DataW Unit) = Rows.laid_math_bits_deBruijn64tab (H := Unit) := hL.symm
      rw [← h2] at hv
      exact hv
    rw [List.getElem?_map] at h1
    have h3 := hel j hj
    rw [cells5, Nat.mul_one] at h3
    cases hxj : xs[j]? with
    | none => rw [hxj] at h1; cases h1
    | some x =>
      rw [hxj] at h1 h3
      obtain ⟨k, e1, e2, _⟩ := DataW.trod_int Tryd.underlying5 h3
      have hk : k = v := by
        rw [e2] at h1
        simpa using h1
      subst hk
      rw [World.var?_cell hg1 hv1 j]
      have h4 : (cs1.toList.drop j)[0]? = some (.int .u8 k) := by
        have h5 : ((cs1.toList.drop j).take 1)[0]? = some (.int .u8 k) := by rw [e1]; rfl
        rwa [List.getElem?_take_of_lt (by omega)] at h5
      rw [List.getElem?_drop, Nat.add_zero] at h4
      rw [← Array.getElem?_toList]
      exact h4
  exact ⟨hat 0 0 (by omega) rfl, hat 1 1 (by omega) rfl, hat 3 2 (by omega) rfl, hat 7 3 (by omega) rfl, hat 15 4 (by omega) rfl⟩

end Go.Proofs.YtgklkceoafohmaaDoor
