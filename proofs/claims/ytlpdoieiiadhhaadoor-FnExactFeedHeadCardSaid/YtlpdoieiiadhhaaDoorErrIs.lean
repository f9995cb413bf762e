/- Contracts of errors.Is at pointers of errors.New's make: the same pointer, nil, another pointer. Condition of the last: both rows bear the range (0, 0). After the guide's worked text on sentinels. -/
import Derived.Test.YtlpdoieiiadhhaaDoorChecked
import Derived.WalkKit
import Derived.LaidEql
import Derived.Stop.Asserts
import Derived.RowKitTokens
namespace Go.Proofs.YtlpdoieiiadhhaaDoor
open Go.RowKit Go.Extern.Stop Go.Stop Go.Extern
set_option linter.unusedVariables false
set_option maxRecDepth 100000

/-- An error of errors.New's make. -/
abbrev errV (a : Addr) : Value := .iface 144 (.pointer (some a))

theorem is_typeOf (v : Value) (w : World) : (Extern.ReflectliteType.typeOf #[.iface 144 v]).run Tryd.prog w = .ok (.iface 134 (.agg #[.pointer (some ⟨4, 144, none⟩)])) w := by kernel_rfl
theorem is_comparable (w : World) : (find Tryd.f137).map (fun g => (g #[.agg #[.pointer (some ⟨4, 144, none⟩)]]).run Tryd.prog w) = some (.ok (.bool true) w) := by kernel_rfl
theorem is_method (v : Value) (w : World) : (Go.method 283 134 v "Comparable").run Tryd.prog w = .ok (137, v) w := by kernel_rfl
theorem is_comp : (Tryd.prog.info? 144).map (·.comparable) = some true := by kernel_rfl
theorem is_size : (Tryd.prog.info? 171).map (·.size) = some 1 := by kernel_rfl
theorem is_noIs (v : Value) (xT : TypeId) (w : World) : (Instr.typeAssert (.iface 144 v) xT 136 true).run Tryd.prog w = .ok (.tuple #[.nilIface, .bool false]) w := run_typeAssert_lacksB Tryd.underlying136 (by kernel_rfl) (by kernel_rfl) v xT w
theorem is_noUnwrap (v : Value) (xT : TypeId) (w : World) : (Instr.typeAssert (.iface 144 v) xT 139 true).run Tryd.prog w = .ok (.tuple #[.nilIface, .bool false]) w := run_typeAssert_lacksB Tryd.underlying139 (by kernel_rfl) (by kernel_rfl) v xT w
theorem is_noUnwraps (v : Value) (xT : TypeId) (w : World) : (Instr.typeAssert (.iface 144 v) xT 141 true).run Tryd.prog w = .ok (.tuple #[.nilIface, .bool false]) w := run_typeAssert_lacksB Tryd.underlying141 (by kernel_rfl) (by kernel_rfl) v xT w

theorem is_nil (b : Addr) (w : World) :
    Calls Tryd.prog 89 #[.nilIface, errV b] w fun e w' => e = .returned (.bool false) ∧ w' = w := by
  have hn := run_eql_iface_nil_left (P := Tryd.prog) w 144 (.pointer (some b)) Tryd.underlying71
  go_enter Tryd.func89, Tryd.ntmps89
  go_wp2
  go_ret
  exact ⟨rfl, rfl⟩

theorem is_same (a : Addr) (w : World) :
    Calls Tryd.prog 89 #[errV a, errV a] w fun e w' => e = .returned (.bool true) ∧ w' = w := by
  obtain ⟨i, hi, hcmp⟩ := Option.map_eq_some_iff.1 is_comp
  obtain ⟨j, hj, hjs⟩ := Option.map_eq_some_iff.1 is_size
  have h8 := @run_callFunc_extern Tryd.prog 109 _ Extern.ReflectliteType.typeOf Tryd.func109 (by kernel_rfl) (by kernel_rfl) (by kernel_rfl) (by kernel_rfl)
  obtain ⟨g, hg, cT⟩ := Option.map_eq_some_iff.1 (is_comparable w)
  have h32 := @run_callFunc_extern Tryd.prog 137 _ g Tryd.func137 (by kernel_rfl) (by kernel_rfl) (by kernel_rfl) hg
  have tT := is_typeOf
  have mR := is_method
  have heq := run_eql_iface_ptr_same (P := Tryd.prog) w a Tryd.underlying71 Tryd.underlying144 hi hcmp hj
  go_enter Tryd.func89, Tryd.ntmps89
  go_wp2
  refine wp_loop_rounds 1 ?_
  rw [rounds_succ]
  go_wp2
  go_ret
  exact ⟨rfl, rfl⟩

theorem is_other (a b : Addr) (ca cb : Array Value) (ta tb : TypeId) (w : World) (hne : a ≠ b) (ha : w.heap[a.block]? = some (.cells ca ta (0, 0))) (hb : w.heap[b.block]? = some (.cells cb tb (0, 0))) :
    Calls Tryd.prog 89 #[errV a, errV b] w fun e w' => e = .returned (.bool false) ∧ w' = w := by
  obtain ⟨i, hi, hcmp⟩ := Option.map_eq_some_iff.1 is_comp
  obtain ⟨j, hj, hjs⟩ := Option.map_eq_some_iff.1 is_size
  have h8 := @run_callFunc_extern Tryd.prog 109 _ Extern.ReflectliteType.typeOf Tryd.func109 (by kernel_rfl) (by kernel_rfl) (by kernel_rfl) (by kernel_rfl)
  obtain ⟨g, hg, cT⟩ := Option.map_eq_some_iff.1 (is_comparable w)
  have h32 := @run_callFunc_extern Tryd.prog 137 _ g Tryd.func137 (by kernel_rfl) (by kernel_rfl) (by kernel_rfl) hg
  have tT := is_typeOf
  have mR := is_method
  have nE := is_noIs
  have uE := is_noUnwrap
  have vE := is_noUnwraps
  have heq := run_eql_iface_ptr_other (P := Tryd.prog) w Tryd.underlying71 Tryd.underlying144 hi hcmp hj (by rw [hjs]; decide) hne ha hb
  go_enter Tryd.func89, Tryd.ntmps89
  go_wp2
  refine wp_loop_rounds 1 ?_
  rw [rounds_succ]
  go_wp2
  go_ret
  exact ⟨rfl, rfl⟩

end Go.Proofs.YtlpdoieiiadhhaaDoor
