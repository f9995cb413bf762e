/- How one integer, or several, are appended to a slice of integers of the call's own. Conditions: the lengths stay below 2^31. -/
import Derived.Test.YtgpmodidpdjhkaaWords
import Derived.Maps.AppendAt
import Derived.RegionTactic
namespace Go.Proofs.Ytgpmodidpdjhkaa
open Go.RowKit
set_option linter.unusedVariables false

/-- What an append leaves. -/
structure Appended (W : World) (base : Nat) (A : Option Addr) (n c : Nat) (zs : List Int) (v : Value) (w' : World) : Prop where
  own : ∃ A' c', v = .slice A' zs.length c' ∧ OwnInts w' base A' c' zs
  grown : W.grownBy w' (Value.ownBlock (.slice A n c))
  below : Below base W w'

theorem OwnInts.far {w : World} {base : Nat} {A : Option Addr} {cap n : Nat} {zs : List Int} (h : OwnInts w base A cap zs) : ∀ g, Value.ownBlock (.slice A n cap) = some g → base ≤ g := by
  intro g hg
  rcases h.2 with ⟨hv, _⟩ | ⟨g', c, cur, hv, hb, _⟩
  · injection hv with hA _ _; subst hA; cases hg
  · injection hv with hA _ _; subst hA
    simp [Value.ownBlock] at hg
    omega
theorem OwnInts.alloc {w : World} {base : Nat} {A : Option Addr} {cap : Nat} {zs : List Int} (h : OwnInts w base A cap zs) (o : Obj) : OwnInts (w.alloc o) base A cap zs := World.ownsRow.alloc h o

set_option maxRecDepth 100000 in
theorem run_app_ints (W : World) (base ty : Nat) (A : Option Addr) (c : Nat) (ds : List Int) (B : Option Addr) (bc : Nat) (zs : List Int) (hown : OwnInts W base A c ds) (hI : IntsAt W W.heap.size B zs) (hl : ds.length + zs.length ≤ 2147483647) (hbase : base ≤ W.heap.size) (hB : B = none → bc = 0) :
    ∃ v w', (Builtin.append_ #[38, 38] ty #[.slice A ds.length c, .slice B zs.length bc]).run Try.prog W = .ok v w' ∧ Appended W base A ds.length c (ds ++ zs) v w' := by
  obtain ⟨i0, hi0, hz0, hz1, hz2⟩ := info_parts int_info
  rcases B with _ | ad
  · have h0 : zs = [] := by
      cases zs with
      | nil => rfl
      | cons z zs => obtain ⟨b, o, e, _⟩ := hI (by simp); cases e
    subst h0
    refine ⟨.slice A ds.length c, W, ?_, ⟨A, c, by simp, by simpa using hown⟩, World.grownBy.refl W _, Below.refl _ _⟩
    have hk := hown
    unfold OwnInts at hk
    rcases hk.2 with ⟨hv, hn⟩ | ⟨g, cap, cur, hv, _, _, hnc, _⟩
    · rw [hv]
      simp [Builtin.append_, run_underlying Try.underlying38, sizeOf, typeInfo, hi0, Builtin.lenOf, Builtin.firstCells]
    · rw [hv]
      simp [Builtin.append_, run_underlying Try.underlying38, sizeOf, typeInfo, hi0, Builtin.lenOf, Builtin.firstCells, hnc, storeCells]
  · have hcells : ∀ j u, (vals zs)[j]? = some u → W.cell? (ad.add j) = some u := by
      intro j u hu
      have hj : j < zs.length := by
        have := (List.getElem?_eq_some_iff.1 hu).1
        rwa [vals_length] at this
      obtain ⟨b, o, e, _, hc⟩ := hI (by omega)
      injection e with e
      subst e
      rw [vals_get zs j hj] at hu
      rw [Addr.add_lit, ← hu]
      exact hc j hj
    obtain ⟨v', w', hrun, h2, h3, _, h5⟩ := run_append_own_at (P := Try.prog) W base 38 ty 3 i0 _ 1 8 Try.underlying38 hi0 hz0 hz1 hz2 rfl (by omega) _ ds.length (vals ds) hown ad zs.length bc (vals zs) (by rw [vals_length, Nat.mul_one]) hcells (vals_one zs) (by unfold maxLen; omega) (by omega) hbase
    refine ⟨v', w', hrun, ?_, h3, (Below.refl _ _).grown h3 hbase (fun k hk => hown.far k hk)⟩
    rw [← vals_append] at h2
    rcases h2.2 with ⟨hv, hn⟩ | ⟨g, cap, cur, hv, hr⟩
    · refine ⟨none, 0, ?_, ?_⟩
      · rw [hv, List.length_append, hn]
      · unfold OwnInts; rw [List.length_append, hn]; rw [hn, hv] at h2; exact h2
    · refine ⟨some ⟨g, 0, none⟩, cap, ?_, ?_⟩
      · rw [hv, List.length_append]
      · unfold OwnInts; rw [List.length_append]; rw [hv] at h2; exact h2

theorem wp_app_ints {o : Oper} {a : Act} {K : Act → World → Prop} {Q : Exit → Act → World → Prop} (s x : Operand) (ho : o.op = .call { callee := .builtin .append, args := #[s, x], argTypes := #[38, 38] })
    (W : World) (base : Nat) (A : Option Addr) (c : Nat) (ds : List Int) (hs : a.eval s = .slice A ds.length c) (B : Option Addr) (bc : Nat) (zs : List Int) (hx : a.eval x = .slice B zs.length bc)
    (hown : OwnInts W base A c ds) (hI : IntsAt W W.heap.size B zs) (hl : ds.length + zs.length ≤ 2147483647) (hbase : base ≤ W.heap.size) (hB : B = none → bc = 0)
    (h : ∀ v w', Appended W base A ds.length c (ds ++ zs) v w' → K (a.put o.dst v) w') : o.wp Try.prog a W K Q := by
  obtain ⟨v', w', hrun, h2⟩ := run_app_ints W base o.type A c ds B bc zs hown hI hl hbase hB
  unfold Oper.wp execOp
  simp only [ho, resolve, invoke, builtin, Sem.run_bind, Sem.run_pure, Result.andThen_ok, List.map_toArray, List.map_cons, List.map_nil, hs, hx, hrun]
  exact h v' w' h2

theorem wpList_app_ints {ops : Array Oper} {rest : List Oper} {o : Oper} {a : Act} {Q : Exit → Act → World → Prop} (hgd : o.guard = none) (s x : Operand) (ho : o.op = .call { callee := .builtin .append, args := #[s, x], argTypes := #[38, 38] })
    (W : World) (base : Nat) (A : Option Addr) (c : Nat) (ds : List Int) (hs : a.eval s = .slice A ds.length c) (B : Option Addr) (bc : Nat) (zs : List Int) (hx : a.eval x = .slice B zs.length bc)
    (hown : OwnInts W base A c ds) (hI : IntsAt W W.heap.size B zs) (hl : ds.length + zs.length ≤ 2147483647) (hbase : base ≤ W.heap.size) (hB : B = none → bc = 0)
    (h : ∀ v w', Appended W base A ds.length c (ds ++ zs) v w' → wpList Try.prog ops Q rest (a.put o.dst v) w') : wpList Try.prog ops Q (o :: rest) a W :=
  wpList_plain hgd fun _ hK => wp_app_ints s x ho W base A c ds hs B bc zs hx hown hI hl hbase hB fun v' w' h2 => hK _ _ (h v' w' h2)

theorem step_app_ints {ops : Array Oper} {o : Oper} {a : Act} {K : Act → World → Prop} {Q : Exit → Act → World → Prop} {E : Prop} (hgd : o.guard = none) (s x : Operand) (ho : o.op = .call { callee := .builtin .append, args := #[s, x], argTypes := #[38, 38] })
    (W : World) (base : Nat) (A : Option Addr) (c : Nat) (ds : List Int) (hs : a.eval s = .slice A ds.length c) (B : Option Addr) (bc : Nat) (zs : List Int) (hx : a.eval x = .slice B zs.length bc)
    (hown : OwnInts W base A c ds) (hI : IntsAt W W.heap.size B zs) (hl : ds.length + zs.length ≤ 2147483647) (hbase : base ≤ W.heap.size) (hB : B = none → bc = 0)
    (h : ∀ v w', Appended W base A ds.length c (ds ++ zs) v w' → K (a.put o.dst v) w') :
    if Region.wanted o (yielded ops a.tmps) = true then Oper.wp Try.prog o a W K Q else E := by
  have hw : Region.wanted o (yielded ops a.tmps) = true := by simp [Region.wanted, hgd]
  rw [if_pos hw]
  exact wp_app_ints s x ho W base A c ds hs B bc zs hx hown hI hl hbase hB h

/-- One element that was just laid in a block of its own. -/
theorem one_new (W : World) (z : Int) : IntsAt (W.alloc (.cells #[.int .i64 z] 3)) (W.alloc (.cells #[.int .i64 z] 3)).heap.size (some ⟨W.heap.size, 0, none⟩) [z] := fun _ => by
  refine ⟨W.heap.size, 0, rfl, by simp, fun k hk => ?_⟩
  have : k = 0 := by simp at hk; omega
  subst this
  have := cell_one_new W (.int .i64 z) 3 0 (.int .i64 z) rfl
  rw [Addr.add_lit] at this
  exact this

end Go.Proofs.Ytgpmodidpdjhkaa
