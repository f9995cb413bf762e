/- How several zeros (a slice that was just made) are appended to a slice of integers of the call's own. Conditions: the lengths stay below 2^31. -/
import Derived.Test.YtgpmodidpdjhkaaAppend
import Derived.Lib.AppendZerosOnto
namespace Go.Proofs.Ytgpmodidpdjhkaa
open Go.RowKit
set_option linter.unusedVariables false

def zerosZ (k : Nat) : List Int := List.replicate k 0
theorem zeroCells_vals (k : Nat) : (Builtin.zeroCells (Value.int .i64 0).cells k) = (vals (zerosZ k)).toArray := by
  apply Array.ext'
  simp [Builtin.zeroCells, Value.cells, vals, zerosZ]
  apply List.ext_getElem
  · simp
  · intro i h1 h2
    simp [Nat.mod_one]
theorem zerosZ_length (k : Nat) : (zerosZ k).length = k := List.length_replicate

set_option maxRecDepth 100000 in
theorem run_app_zeros (W : World) (base ty : Nat) (A : Option Addr) (c : Nat) (ds : List Int) (k : Nat) (hk : 0 < k) (hown : OwnInts W base A c ds) (hl : ds.length + k ≤ 1000000) (hbase : base ≤ W.heap.size) :
    ∃ v w', (Builtin.append_ #[38, 3] ty #[.slice A ds.length c, .int .i64 k]).run Try.prog W = .ok v w' ∧ Appended W base A ds.length c (ds ++ zerosZ k) v w' := by
  obtain ⟨i0, hi0, hz0, hz1, hz2⟩ := info_parts int_info
  have hlen : (ds ++ zerosZ k).length = ds.length + k := by rw [List.length_append, zerosZ_length]
  have hfar := fun g => hown.far (n := ds.length) g
  by_cases hroom : ds.length + k ≤ c
  · rcases hown.2 with ⟨hv, hn⟩ | ⟨g, cap, cur, hv, hbg, hg, hnc, hcm, hcs, htake⟩
    · injection hv with _ _ hc; omega
    · injection hv with hA _ hc
      subst hA hc
      rw [Nat.mul_one] at hcs htake
      have hst := run_storeCells_at Try.prog g (ds.length * 1) 3 (vals (zerosZ k)) 0 cur W hg (by rw [vals_length, zerosZ_length]; omega) (vals_one _)
      simp only [Nat.add_zero, Nat.mul_one] at hst
      have hneg : ¬ ((k : Int) < 0) := by omega
      have hw : IntKind.i64.wrap (k : Int) = k := IntWalk.i64_in _ (by omega)
      have h48i : ¬ (281474976710656 < (k : Int) * 8) := by omega
      have hk0 : ¬ k = 0 := by omega
      refine ⟨.slice (some ⟨g, 0, none⟩) (ds.length + k) c, W.setRow g (cur.toList.take ds.length ++ vals (zerosZ k) ++ cur.toList.drop (ds.length + (vals (zerosZ k)).length)).toArray, ?_, ?_⟩
      · simp [Builtin.append_, run_underlying Try.underlying38, run_underlying Try.underlying3, sizeOf, typeInfo, zeroValue, hi0, hz0, hz1, hz2, asInt, asIntOf, hw, hneg, h48i, hk0, hroom, Addr.add_lit, zeroCells_vals, hst]
      · refine ⟨⟨some ⟨g, 0, none⟩, c, by rw [hlen], ?_⟩, ⟨rfl, rfl, rfl, by simp, fun j _ hj => setRow_other W g j _ (fun e => hj (by simp [Value.ownBlock, e]))⟩, ⟨rfl, rfl, rfl, by simp, fun j hj => setRow_other W g j _ (by omega)⟩⟩
        unfold OwnInts
        rw [hlen]
        refine ⟨by rw [vals_length, hlen]; omega, .inr ⟨g, c, _, rfl, hbg, setRow_heap W g cur _ 3 _ hg, hroom, hcm, ?_, ?_⟩⟩
        · simp only [List.size_toArray, List.length_append, List.length_take, List.length_drop, Array.length_toList, vals_length, zerosZ_length]
          omega
        · rw [Nat.mul_one, htake, vals_append]
          have : ds.length + k = (vals ds ++ vals (zerosZ k)).length := by rw [List.length_append, vals_length, vals_length, zerosZ_length]
          rw [this]
          exact List.take_left
  · have hold : (Builtin.firstCells i0.size ds.length (.slice A ds.length c)).run Try.prog W.drew = .ok (vals ds).toArray W.drew := by
      rcases hown.2 with ⟨hv, hn⟩ | ⟨g, cap, cur, hv, hbg, hg, hnc, hcm, hcs, htake⟩
      · injection hv with hA _ _
        subst hA
        have : ds = [] := List.eq_nil_of_length_eq_zero hn
        subst this
        exact run_firstCells_none W.drew i0.size 0 0 c
      · injection hv with hA _ hc
        subst hA
        exact run_firstCells_some W.drew i0.size ds.length ⟨g, 0, none⟩ ds.length c (vals ds) (by rw [vals_length, hz1, Nat.mul_one]) (World.ownsRow.cells hown (g := g) rfl)
    have hr := Lib.run_append_grow_zeros (P := Try.prog) W 38 3 ty 3 i0 (.int .i64 0) .i64 .i64 Try.underlying38 Try.underlying3 hi0 hz0 A ds.length c (vals ds) hold k hk (by omega) (by omega) (by omega) (by rw [hz2]; omega) (by
      rw [hz2]
      exact growslice_fits (by omega) (by omega))
    refine ⟨_, _, hr, ?_⟩
    have hge := grownCap_ge W (ds.length + k) c 3
    have hcm : grownCap W (ds.length + k) c 3 ≤ maxLen := grownCap_le_maxLen W (ds.length + k) c 3 (by unfold maxLen; omega)
    refine ⟨⟨some ⟨W.heap.size, 0, none⟩, grownCap W (ds.length + k) c 3, by rw [hlen], ?_⟩, ⟨rfl, rfl, rfl, by simp, fun j hj _ => Below.heap_alloc W.drew _ j hj⟩, ⟨rfl, rfl, rfl, by simp, fun j hj => Below.heap_alloc W.drew _ j (by simp; omega)⟩⟩
    unfold OwnInts
    rw [hlen]
    refine ⟨by rw [vals_length, hlen]; omega, .inr ⟨W.heap.size, _, _, rfl, hbase, heap_alloc_new W.drew _, hge, hcm, ?_, ?_⟩⟩
    · rw [zeroCells_vals, zeroCells_vals]
      simp only [Array.size_append, List.size_toArray, vals_length, zerosZ_length]
      omega
    · rw [zeroCells_vals, zeroCells_vals, Nat.mul_one, vals_append]
      simp only [Array.toList_append]
      have : ds.length + k = (vals ds ++ vals (zerosZ k)).length := by rw [List.length_append, vals_length, vals_length, zerosZ_length]
      rw [this]
      exact List.take_left

theorem wpList_app_zeros {ops : Array Oper} {rest : List Oper} {o : Oper} {a : Act} {Q : Exit → Act → World → Prop} (hgd : o.guard = none) (s x : Operand) (ho : o.op = .call { callee := .builtin .append, args := #[s, x], argTypes := #[38, 3] })
    (W : World) (base : Nat) (A : Option Addr) (c : Nat) (ds : List Int) (hs : a.eval s = .slice A ds.length c) (k : Nat) (hk : 0 < k) (hx : a.eval x = .int .i64 k)
    (hown : OwnInts W base A c ds) (hl : ds.length + k ≤ 1000000) (hbase : base ≤ W.heap.size)
    (h : ∀ v w', Appended W base A ds.length c (ds ++ zerosZ k) v w' → wpList Try.prog ops Q rest (a.put o.dst v) w') : wpList Try.prog ops Q (o :: rest) a W := by
  obtain ⟨v', w', hrun, h2⟩ := run_app_zeros W base o.type A c ds k hk hown hl hbase
  exact Lib.wpList_append_run W hgd s x 38 3 ho _ _ hs hx v' w' hrun (h v' w' h2)

end Go.Proofs.Ytgpmodidpdjhkaa
