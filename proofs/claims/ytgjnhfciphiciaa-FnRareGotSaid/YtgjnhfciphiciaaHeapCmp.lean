/- Contracts of cmp.Compare, cmp.Or and of the methods of a heap of blocks: Len, Less, Swap, Push, Pop. Conditions: the heap lies in memory of the call's own, at most a million elements. -/
import Derived.Test.YtgjnhfciphiciaaRow
import Derived.Test.YtgjnhfciphiciaaBlk
import Derived.Test.YtgjnhfciphiciaaExactRow
import Derived.Deep.DeepCutAuto
import Derived.Lib.Hide
namespace Go.Proofs.Ytgjnhfciphiciaa
open Go.RowKit
set_option linter.unusedVariables false

theorem wrap_nil (ts : Array TypeId) (t : TypeId) (a : Addr) (x y : ByteArray) : Builtin.ssaWrapNilChk_ ts t #[.pointer (some a), .string x, .string y] = pure (.pointer (some a)) := rfl
/-- A method with a value receiver, called at a pointer to a slice. -/
theorem meth_value {P : Program} {fuel : Nat} {T E : TypeId} {name : String} {f : FuncId} {e : TypeId} (hu : P.underlying T = some (.pointer E)) (he : P.underlying E = some (.slice e)) (hr : ((P.info? T).bind (fun i => i.methods.find? (·.name == name))).map (fun m => (m.path, m.func)) = some (#[], some (f, false)))
    (a : Addr) (v : Value) (w : World) (h : w.cell? a = some v) : (method (fuel + 1) T (.pointer (some a)) name).run P w = .ok (f, v) w := by
  obtain ⟨m, hm, hmf⟩ := Option.map_eq_some_iff.1 hr
  obtain ⟨i, hi, hf⟩ := Option.bind_eq_some_iff.1 hm
  injection hmf with h1 h2
  unfold method
  simp [typeInfo, hi, hf, h1, h2, follow, receiverAt, run_underlying hu, run_underlying he, Place.get, wrap_nil, loadVar, isAgg, strVal, asAddr, h]
/-- A method with a pointer receiver. -/
theorem meth_ptr {P : Program} {fuel : Nat} {T E : TypeId} {name : String} {f : FuncId} (hu : P.underlying T = some (.pointer E)) (hr : ((P.info? T).bind (fun i => i.methods.find? (·.name == name))).map (fun m => (m.path, m.func)) = some (#[], some (f, true)))
    (v : Value) (w : World) : (method (fuel + 1) T v name).run P w = .ok (f, v) w := by
  obtain ⟨m, hm, hmf⟩ := Option.map_eq_some_iff.1 hr
  obtain ⟨i, hi, hf⟩ := Option.bind_eq_some_iff.1 hm
  injection hmf with h1 h2
  unfold method
  simp [typeInfo, hi, hf, h1, h2, follow, receiverAt, run_underlying hu, Place.get]

theorem heap_len (fuel g : Nat) (v : Value) (w : World) (h : w.cell? ⟨g, 0, none⟩ = some v) : (method (fuel + 1) 46 (.pointer (some ⟨g, 0, none⟩)) "Len").run Try.prog w = .ok (38, v) w := meth_value Try.underlying46 Try.underlying55 (by kernel_rfl) _ v w h
theorem heap_less (fuel g : Nat) (v : Value) (w : World) (h : w.cell? ⟨g, 0, none⟩ = some v) : (method (fuel + 1) 46 (.pointer (some ⟨g, 0, none⟩)) "Less").run Try.prog w = .ok (66, v) w := meth_value Try.underlying46 Try.underlying55 (by kernel_rfl) _ v w h
theorem heap_swap (fuel g : Nat) (v : Value) (w : World) (h : w.cell? ⟨g, 0, none⟩ = some v) : (method (fuel + 1) 46 (.pointer (some ⟨g, 0, none⟩)) "Swap").run Try.prog w = .ok (69, v) w := meth_value Try.underlying46 Try.underlying55 (by kernel_rfl) _ v w h
theorem heap_push (fuel : Nat) (v : Value) (w : World) : (method (fuel + 1) 46 v "Push").run Try.prog w = .ok (68, v) w := meth_ptr Try.underlying46 (by kernel_rfl) v w
theorem heap_pop (fuel : Nat) (v : Value) (w : World) : (method (fuel + 1) 46 v "Pop").run Try.prog w = .ok (67, v) w := meth_ptr Try.underlying46 (by kernel_rfl) v w

def cmpI (a b : Int) : Int := if a < b then -1 else if b < a then 1 else 0
def orI (a b : Int) : Int := if a = 0 then b else a

set_option maxHeartbeats 1000000 in
theorem isnan_any (a : Int) (w : World) : Calls Try.prog 72 #[.int .i64 a] w fun e w' => e = .returned (.bool false) ∧ w' = w := by
  go_enter Try.func72, Try.ntmps72
  go_wp2
  go_ret
  exact ⟨by simp, rfl⟩
set_option maxHeartbeats 1000000 in
theorem compare_any (a b : Int) (w : World) : Calls Try.prog 71 #[.int .i64 a, .int .i64 b] w fun e w' => e = .returned (.int .i64 (cmpI a b)) ∧ w' = w := by
  have C1 := fun w => isnan_any a w
  have C2 := fun w => isnan_any b w
  obtain ⟨r, hr, hR⟩ : ∃ r, cmpI a b = r ∧ ((a < b ∧ r = -1) ∨ (¬ a < b ∧ b < a ∧ r = 1) ∨ (¬ a < b ∧ ¬ b < a ∧ r = 0)) := by
    refine ⟨_, rfl, ?_⟩
    unfold cmpI
    by_cases h1 : a < b
    · exact .inl ⟨h1, if_pos h1⟩
    · by_cases h2 : b < a
      · exact .inr (.inl ⟨h1, h2, by rw [if_neg h1, if_pos h2]⟩)
      · exact .inr (.inr ⟨h1, h2, by rw [if_neg h1, if_neg h2]⟩)
  rw [hr]
  clear hr
  rcases hR with ⟨h1, rfl⟩ | ⟨h1, h2, rfl⟩ | ⟨h1, h2, rfl⟩
  · go_enter Try.func71, Try.ntmps71
    go_wp2_with fail
    refine (C1 _).mono ?_
    rintro e w1 ⟨rfl, rfl⟩
    go_wp2_with fail
    refine (C2 _).mono ?_
    rintro e w1 ⟨rfl, rfl⟩
    go_wp2
    go_ret
    exact ⟨rfl, rfl⟩
  · go_enter Try.func71, Try.ntmps71
    go_wp2_with fail
    refine (C1 _).mono ?_
    rintro e w1 ⟨rfl, rfl⟩
    go_wp2_with fail
    refine (C2 _).mono ?_
    rintro e w1 ⟨rfl, rfl⟩
    go_wp2
    go_ret
    exact ⟨rfl, rfl⟩
  · go_enter Try.func71, Try.ntmps71
    go_wp2_with fail
    refine (C1 _).mono ?_
    rintro e w1 ⟨rfl, rfl⟩
    go_wp2_with fail
    refine (C2 _).mono ?_
    rintro e w1 ⟨rfl, rfl⟩
    go_wp2
    go_ret
    exact ⟨rfl, rfl⟩
set_option maxHeartbeats 1000000 in
theorem or_any (A : Option Addr) (cap : Nat) (a b : Int) (w : World) (hI : IntsAt w w.heap.size A [a, b]) : Calls Try.prog 70 #[.slice A 2 cap] w fun e w' => e = .returned (.int .i64 (orI a b)) ∧ w' = w := by
  obtain ⟨g, o, rfl, _, hc⟩ := hI (by simp)
  have c0 : w.cell? ⟨g, o + 0, none⟩ = some (.int .i64 a) := hc 0 (by simp)
  have c1 : w.cell? ⟨g, o + 1, none⟩ = some (.int .i64 b) := hc 1 (by simp)
  rw [Nat.add_zero] at c0
  clear hc hI
  have ho : orI a b = if a = 0 then b else a := rfl
  by_cases h0 : a = 0
  · rw [ho, if_pos h0]
    clear ho
    subst h0
    by_cases h1 : b = 0
    · subst h1
      go_enter Try.func70, Try.ntmps70
      go_wp2
      refine wp_loop_rounds 3 ?_
      rw [rounds_succ]
      go_wp2
      rw [rounds_succ]
      go_wp2
      rw [rounds_succ]
      go_wp2
      go_ret
      exact ⟨rfl, rfl⟩
    · have hb : (b == 0) = false := beq_eq_false_iff_ne.2 h1
      go_enter Try.func70, Try.ntmps70
      go_wp2
      refine wp_loop_rounds 2 ?_
      rw [rounds_succ]
      go_wp2
      rw [rounds_succ]
      go_wp2
      go_ret
      exact ⟨rfl, rfl⟩
  · rw [ho, if_neg h0]
    clear ho
    have ha : (a == 0) = false := beq_eq_false_iff_ne.2 h0
    go_enter Try.func70, Try.ntmps70
    go_wp2
    refine wp_loop_rounds 1 ?_
    rw [rounds_succ]
    go_wp2
    go_ret
    exact ⟨rfl, rfl⟩

end Go.Proofs.Ytgjnhfciphiciaa
