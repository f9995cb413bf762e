/- What the listed package errors hold when the call begins: four different pointers to errors of errors.New's make (Errs); and that the door's own heap meets it. No conditions. After the kit's law of two sentinels. -/
import Derived.Test.YtlpdoieiiadhhaaDoorRows
import Derived.Test.YtlpdoieiiadhhaaDoorHeadCode
import Derived.ProofKit
import Derived.LaidMore
import Derived.OpenShut
import Derived.Stop.Joined
import Derived.Stop.LaidTwo
import Derived.WalkSmall
import Derived.Below
namespace Go.Proofs.YtlpdoieiiadhhaaDoor
open Go.ChangeShapes Go.WideShapes Go.ChangeAt Go.WideMaps Go.WideElems Go.RowKit
set_option linter.unusedVariables false

theorem own_knob : ownKnob Tryd.prog.godebug = none := by kernel_rfl
abbrev laid2 : List (String × DataW Unit) := Rows.fnForkHeadRow.laid
theorem gSame : Tryd.prog.globalNamed "loop.example/feedswarm/impl.errHeadSame" = some 0 := by kernel_rfl
theorem gOld : Tryd.prog.globalNamed "loop.example/feedswarm/impl.errHeadOld" = some 1 := by kernel_rfl
theorem gFork : Tryd.prog.globalNamed "loop.example/feedswarm/impl.errHeadFork" = some 2 := by kernel_rfl
theorem gWrong : Tryd.prog.globalNamed "loop.example/feedswarm/impl.errHeadWrong" = some 3 := by kernel_rfl
theorem tSame : (Tryd.prog.globals[0]?).map (·.type) = some 71 := by kernel_rfl
theorem tOld : (Tryd.prog.globals[1]?).map (·.type) = some 71 := by kernel_rfl
theorem tFork : (Tryd.prog.globals[2]?).map (·.type) = some 71 := by kernel_rfl
theorem tWrong : (Tryd.prog.globals[3]?).map (·.type) = some 71 := by kernel_rfl
theorem cellsErr : Tryd.prog.cellsOf 171 = 1 := by kernel_rfl
theorem cellsStr : Tryd.prog.cellsOf 9 = 1 := by kernel_rfl
theorem errStar : "*" ++ "errors.errorString" = "*errors.errorString" := by decide
theorem errRow (u : TypeId) (h : Tryd.prog.typeName? 3 u = some "*errors.errorString") : u = 144 :=
  typeName_ptr_named (nm := "errors.errorString") (by rw [errStar]; kernel_rfl) (by kernel_rfl) (by decide) u (by rw [errStar]; exact h)

/-- The door's own heap meets the condition. -/
theorem door_met (os : Os) (args : Array Value) : laidMetH Tryd.prog laid2 ((World.doorLaid Tryd.prog 400 os).forCall (fun _ _ => 0) ⟨#[], args, []⟩).memory :=
  laidMetH_of_parts3 (fuel := 8) (laidMet_of_run' 8 (by kernel_rfl) (by kernel_rfl)) (by kernel_rfl) (by kernel_rfl)

/-- The four variables, each whole. -/
structure ErrVars (w : World) (a0 a1 a2 a3 : Addr) : Prop where
  v0 : w.var? Tryd.prog "loop.example/feedswarm/impl.errHeadSame" = some #[errV a0]
  v1 : w.var? Tryd.prog "loop.example/feedswarm/impl.errHeadOld" = some #[errV a1]
  v2 : w.var? Tryd.prog "loop.example/feedswarm/impl.errHeadFork" = some #[errV a2]
  v3 : w.var? Tryd.prog "loop.example/feedswarm/impl.errHeadWrong" = some #[errV a3]
def ErrsIn (w : World) : Prop := ∃ a0 a1 a2 a3, Errs w a0 a1 a2 a3 ∧ ErrVars w a0 a1 a2 a3
theorem var_lt {w : World} {n : String} {g : Nat} {v : Value} (hg : Tryd.prog.globalNamed n = some g) (h : w.var? Tryd.prog n = some #[v]) : g < w.heap.size :=
  World.block_lt_of_cell? w ⟨g, 0, none⟩ (u := v) (by simpa using World.var?_cell hg h 0)
theorem ErrVars.below {w w' : World} {a0 a1 a2 a3 : Addr} (h : ErrVars w a0 a1 a2 a3) (hb : Below w.heap.size w w') : ErrVars w' a0 a1 a2 a3 :=
  ⟨var?_below hb gSame (var_lt gSame h.v0) h.v0, var?_below hb gOld (var_lt gOld h.v1) h.v1, var?_below hb gFork (var_lt gFork h.v2) h.v2, var?_below hb gWrong (var_lt gWrong h.v3) h.v3⟩
abbrev errNames : List String := ["loop.example/feedswarm/impl.errHeadWrong", "loop.example/feedswarm/impl.errHeadSame", "loop.example/feedswarm/impl.errHeadOld", "loop.example/feedswarm/impl.errHeadFork"]
abbrev errPlaces : List MemPlace := [.cell 3 0, .cell 0 0, .cell 1 0, .cell 2 0]
/-- The four variables read as tokens, in the row's order. -/
theorem vars_read4 {H : Type} (enc : TypeId × Value → H) {w : World} {a0 a1 a2 a3 : Addr} (h : ErrVars w a0 a1 a2 a3) (sp : Nat → Bool) :
    DataW.TrodVars enc Tryd.prog w sp errNames [tok enc (errV a3), tok enc (errV a0), tok enc (errV a1), tok enc (errV a2)] errPlaces :=
  ⟨_, _, #[errV a3], 1, [], _, gWrong, tWrong, h.v3, trod_held (v := errV a3) Tryd.underlying71 trivial 0, ⟨_, _, #[errV a0], 1, [], _, gSame, tSame, h.v0, trod_held (v := errV a0) Tryd.underlying71 trivial 0, ⟨_, _, #[errV a1], 1, [], _, gOld, tOld, h.v1, trod_held (v := errV a1) Tryd.underlying71 trivial 0, ⟨_, _, #[errV a2], 1, [], [], gFork, tFork, h.v2, trod_held (v := errV a2) Tryd.underlying71 trivial 0, rfl, rfl⟩, rfl⟩, rfl⟩, rfl⟩

set_option maxRecDepth 100000 in
theorem errs_of_laid {W : World} (h : laidMetH Tryd.prog laid2 W) : ErrsIn W := by
  rw [MakeChecks.laidMetH_plain _ _ _ (by kernel_rfl)] at h
  obtain ⟨ps, ⟨g0, t0, cs0, f0, p0, q0, hg0, ht0, hv0, hd0, ⟨g1, t1, cs1, f1, p1, q1, hg1, ht1, hv1, hd1, ⟨g2, t2, cs2, f2, p2, q2, hg2, ht2, hv2, hd2, ⟨g3, t3, cs3, f3, p3, q3, hg3, ht3, hv3, hd3, _, e3⟩, e2⟩, e1⟩, e0⟩, hnd, hrows⟩ := h
  obtain rfl := Option.some.inj (gSame.symm.trans hg0)
  obtain rfl := Option.some.inj (gOld.symm.trans hg1)
  obtain rfl := Option.some.inj (gFork.symm.trans hg2)
  obtain rfl := Option.some.inj (gWrong.symm.trans hg3)
  obtain rfl := Option.some.inj (tSame.symm.trans ht0)
  obtain rfl := Option.some.inj (tOld.symm.trans ht1)
  obtain rfl := Option.some.inj (tFork.symm.trans ht2)
  obtain rfl := Option.some.inj (tWrong.symm.trans ht3)
  subst e3
  subst e2
  subst e1
  subst e0
  obtain ⟨l0⟩ := cs0
  obtain ⟨l1⟩ := cs1
  obtain ⟨l2⟩ := cs2
  obtain ⟨l3⟩ := cs3
  have ok0 : ∀ u v, l0 = [.iface u v] → Value.okWide Tryd.prog W .any 0 u v := fun u v e => by
    subst e
    exact (hrows 0 0 (by simp [MemPlace.row])).2 u v (by simpa using World.var?_cell hg0 hv0 0)
  have ok1 : ∀ u v, l1 = [.iface u v] → Value.okWide Tryd.prog W .any 0 u v := fun u v e => by
    subst e
    exact (hrows 1 0 (by simp [MemPlace.row])).2 u v (by simpa using World.var?_cell hg1 hv1 0)
  have ok2 : ∀ u v, l2 = [.iface u v] → Value.okWide Tryd.prog W .any 0 u v := fun u v e => by
    subst e
    exact (hrows 2 0 (by simp [MemPlace.row])).2 u v (by simpa using World.var?_cell hg2 hv2 0)
  have ok3 : ∀ u v, l3 = [.iface u v] → Value.okWide Tryd.prog W .any 0 u v := fun u v e => by
    subst e
    exact (hrows 3 0 (by simp [MemPlace.row])).2 u v (by simpa using World.var?_cell hg3 hv3 0)
  obtain ⟨a0, s0, rfl, hc0, hs0, hz0, rfl⟩ := errorString_of_trod Tryd.underlying71 errRow Tryd.underlying144 Tryd.underlying171 rfl rfl Tryd.underlying9 cellsErr cellsStr hd0 ok0
  obtain ⟨a1, s1, rfl, hc1, hs1, hz1, rfl⟩ := errorString_of_trod Tryd.underlying71 errRow Tryd.underlying144 Tryd.underlying171 rfl rfl Tryd.underlying9 cellsErr cellsStr hd1 ok1
  obtain ⟨a2, s2, rfl, hc2, hs2, hz2, rfl⟩ := errorString_of_trod Tryd.underlying71 errRow Tryd.underlying144 Tryd.underlying171 rfl rfl Tryd.underlying9 cellsErr cellsStr hd2 ok2
  obtain ⟨a3, s3, rfl, hc3, hs3, hz3, rfl⟩ := errorString_of_trod Tryd.underlying71 errRow Tryd.underlying144 Tryd.underlying171 rfl rfl Tryd.underlying9 cellsErr cellsStr hd3 ok3
  refine ⟨a0, a1, a2, a3, ⟨by simpa using World.var?_cell hg0 hv0 0, by simpa using World.var?_cell hg1 hv1 0, by simpa using World.var?_cell hg2 hv2 0, by simpa using World.var?_cell hg3 hv3 0, (hrows a0.block a0.off (by simp [MemPlace.row])).1, (hrows a1.block a1.off (by simp [MemPlace.row])).1, (hrows a2.block a2.off (by simp [MemPlace.row])).1, (hrows a3.block a3.off (by simp [MemPlace.row])).1, ?_, ?_, ?_, ?_, ?_, ?_⟩, ⟨hv0, hv1, hv2, hv3⟩⟩ <;>
    (rintro rfl; simp [MemPlace.row] at hnd)

end Go.Proofs.YtlpdoieiiadhhaaDoor
