/- Words for memory, of bools: a slice of bools that reads as a list, a slice of the call's own that holds bools, how both are kept, and how bools are appended. Conditions: the lengths stay below 2^31. -/
import Derived.Test.YtgjnhfciphiciaaBaseA
namespace Go.Proofs.Ytgjnhfciphiciaa
open Go.RowKit
set_option linter.unusedVariables false

abbrev vb (b : Bool) : Value := .bool b
/-- The k-th number. -/
def bth (zs : List Bool) (k : Nat) : Bool := zs.getD k false
theorem bth_eq (zs : List Bool) (k : Nat) : bth zs k = zs.getD k false := rfl
def bals (zs : List Bool) : List Value := zs.map vb
theorem bals_length (zs : List Bool) : (bals zs).length = zs.length := List.length_map _
theorem bals_append (a b : List Bool) : bals (a ++ b) = bals a ++ bals b := List.map_append
theorem bals_one (zs : List Bool) : ∀ u ∈ bals zs, u.oneCell' = true := by
  intro u hu
  obtain ⟨z, _, rfl⟩ := List.mem_map.1 hu
  rfl
theorem bals_get (zs : List Bool) (k : Nat) (h : k < zs.length) : (bals zs)[k]? = some (vb (bth zs k)) := by
  unfold bals bth
  rw [List.getElem?_map, List.getElem?_eq_getElem h, List.getD_eq_getElem?_getD, List.getElem?_eq_getElem h]
  rfl

/-- The slice at A begins with the numbers zs; its cells lie below block B. -/
def BoolsAt (w : World) (B : Nat) (A : Option Addr) (zs : List Bool) : Prop :=
  0 < zs.length → ∃ b o, A = some ⟨b, o, none⟩ ∧ b < B ∧ ∀ k, k < zs.length → w.cell? ⟨b, o + k, none⟩ = some (.bool (bth zs k))

section
variable {w w' : World} {B B' : Nat} {A : Option Addr} {zs : List Bool}
theorem BoolsAt.nil : BoolsAt w B A [] := fun h => absurd h (by simp)
theorem BoolsAt.at_ (h : BoolsAt w B A zs) (hn : 0 < zs.length) : ∃ b o, A = some ⟨b, o, none⟩ ∧ b < B ∧ ∀ k, k < zs.length → w.cell? ⟨b, o + k, none⟩ = some (.bool (bth zs k)) := h hn
theorem BoolsAt.keep (h : BoolsAt w B A zs) (hk : ∀ p : Addr, p.block < B → w'.cell? p = w.cell? p) : BoolsAt w' B A zs := fun hn => by
  obtain ⟨b, o, e, hb, hc⟩ := h hn
  exact ⟨b, o, e, hb, fun k hk' => (hk _ hb).trans (hc k hk')⟩
theorem BoolsAt.more (h : BoolsAt w B A zs) (hB : B ≤ B') : BoolsAt w B' A zs := fun hn => by
  obtain ⟨b, o, e, hb, hc⟩ := h hn
  exact ⟨b, o, e, by omega, hc⟩
theorem BoolsAt.below {C : Nat} (h : BoolsAt w B A zs) (hb : Below C w w') (hC : B ≤ C) : BoolsAt w' B A zs := h.keep fun _ hp => hb.cell (by omega)
theorem BoolsAt.drewN (h : BoolsAt w B A zs) (k : Nat) : BoolsAt (w.drewN k) B A zs := h
theorem BoolsAt.alloc (h : BoolsAt w B A zs) (hB : B ≤ w.heap.size) (o : Obj) : BoolsAt (w.alloc o) B A zs := h.keep fun p hp => World.cell?_alloc_lt w o p (by omega)
theorem BoolsAt.allocS (h : BoolsAt w w.heap.size A zs) (o : Obj) : BoolsAt (w.alloc o) (w.alloc o).heap.size A zs := (h.alloc (Nat.le_refl _) o).more (by simp)
theorem BoolsAt.belowS (h : BoolsAt w w.heap.size A zs) (hb : Below w.heap.size w w') : BoolsAt w' w'.heap.size A zs := (h.below hb (Nat.le_refl _)).more hb.size
theorem BoolsAt.grown {row : Option Nat} (h : BoolsAt w B A zs) (hg : w.grownBy w' row) (hB : B ≤ w.heap.size) (hr : ∀ g, row = some g → B ≤ g) : BoolsAt w' B A zs :=
  h.keep fun p hp => World.cell?_of_block (hg.block p.block (by omega) (fun e => by have := hr _ e.symm; omega))
/-- A part of such a slice. -/
theorem BoolsAt.part (h : BoolsAt w B A zs) (s n : Nat) {b o : Nat} (hA : A = some ⟨b, o, none⟩) : BoolsAt w B (some ⟨b, o + s, none⟩) ((zs.drop s).take n) := fun hn => by
  rw [List.length_take, List.length_drop] at hn
  obtain ⟨b', o', e, hb, hc⟩ := h (by omega)
  subst hA
  injection e with e
  injection e with e1 e2
  subst e1 e2
  refine ⟨b, o + s, rfl, hb, fun k hk => ?_⟩
  rw [List.length_take, List.length_drop] at hk
  rw [Nat.add_assoc, hc (s + k) (by omega), bth, bth, List.getD_eq_getElem?_getD, List.getD_eq_getElem?_getD, List.getElem?_take_of_lt (by omega), List.getElem?_drop]
theorem BoolsAt.first (h : BoolsAt w B A zs) (n : Nat) : BoolsAt w B A (zs.take n) := fun hn => by
  rw [List.length_take] at hn
  obtain ⟨b, o, e, hb, hc⟩ := h (by omega)
  refine ⟨b, o, e, hb, fun k hk => ?_⟩
  rw [List.length_take] at hk
  rw [hc k (by omega), bth, bth, List.getD_eq_getElem?_getD, List.getD_eq_getElem?_getD, List.getElem?_take_of_lt (by omega)]
theorem BoolsAt.lt {b o : Nat} (h : BoolsAt w B (some ⟨b, o, none⟩) zs) (hn : 0 < zs.length) : b < B ∧ ∀ k, k < zs.length → w.cell? ⟨b, o + k, none⟩ = some (.bool (bth zs k)) := by
  obtain ⟨b', o', e, hb, hc⟩ := h hn
  injection e with e
  injection e with e1 e2
  subst e1 e2
  exact ⟨hb, hc⟩
end

/-- A slice of the call's own (from block base on) that holds the numbers zs. -/
def OwnBools (w : World) (base : Nat) (A : Option Addr) (cap : Nat) (zs : List Bool) : Prop :=
  w.ownsRow base 4 1 (.slice A zs.length cap) zs.length (bals zs)
section
variable {w w' : World} {base : Nat} {A : Option Addr} {cap : Nat} {zs : List Bool}
theorem OwnBools.ints (h : OwnBools w base A cap zs) : BoolsAt w w.heap.size A zs := fun hn => by
  obtain ⟨g, c, hv, _, hlt⟩ := World.ownsRow.form h hn
  injection hv with hA _ _
  subst hA
  refine ⟨g, 0, rfl, hlt, fun k hk => ?_⟩
  have := World.ownsRow.cells h (g := g) rfl k (vb (bth zs k)) (bals_get zs k hk)
  rw [Addr.add_lit] at this
  exact this
theorem OwnBools.le (h : OwnBools w base A cap zs) : zs.length ≤ cap ∧ cap ≤ maxLen := by
  rcases h.2 with ⟨hv, hn⟩ | ⟨g, c, cur, hv, _, _, h1, h2, _⟩
  · injection hv with _ _ hc; exact ⟨by omega, by omega⟩
  · injection hv with _ _ hc; subst hc; exact ⟨h1, h2⟩
theorem OwnBools.below (h : OwnBools w base A cap zs) (hb : Below w.heap.size w w') : OwnBools w' base A cap zs :=
  World.ownsRow.kept h (grown_of_below hb none) (by
    rcases h.2 with ⟨hv, _⟩ | ⟨g, c, cur, hv, _⟩
    · left; rw [hv]; rfl
    · right; rw [hv]; simp [Value.ownBlock])
theorem OwnBools.drewN (h : OwnBools w base A cap zs) (n : Nat) : OwnBools (w.drewN n) base A cap zs := h
/-- An empty slice that was just made. -/
theorem OwnBools.new (w : World) : OwnBools (w.alloc (.cells #[] 4)) w.heap.size (some ⟨w.heap.size, 0, none⟩) 0 [] :=
  World.ownsRow_lit w #[] 0 (Nat.le_refl _) (by simp [maxLen]) (by simp)
theorem OwnBools.base_le (h : OwnBools w base A cap zs) {b : Nat} (hb : b ≤ base) : OwnBools w b A cap zs := by
  refine ⟨h.1, ?_⟩
  rcases h.2 with h0 | ⟨g, c, cur, hv, hg, hr⟩
  · exact .inl h0
  · exact .inr ⟨g, c, cur, hv, by omega, hr⟩
end

/-- What a function hands back that makes a slice of integers: the numbers zs in memory of its own; nothing that was there is changed. -/
def RetBools (w : World) (zs : List Bool) (e : Ending) (w' : World) : Prop :=
  ∃ A cap, e = .returned (.slice A zs.length cap) ∧ OwnBools w' w.heap.size A cap zs ∧ Below w.heap.size w w'

theorem bool_info : (Try.prog.info? 4).map (fun i => (i.zero, i.size, i.bytes)) = some (some (.bool false), 1, 1) := by kernel_rfl

/-- What an append leaves. -/
structure AppendedB (W : World) (base : Nat) (A : Option Addr) (n c : Nat) (zs : List Bool) (v : Value) (w' : World) : Prop where
  own : ∃ A' c', v = .slice A' zs.length c' ∧ OwnBools w' base A' c' zs
  grown : W.grownBy w' (Value.ownBlock (.slice A n c))
  below : Below base W w'

theorem OwnBools.far {w : World} {base : Nat} {A : Option Addr} {cap n : Nat} {zs : List Bool} (h : OwnBools w base A cap zs) : ∀ g, Value.ownBlock (.slice A n cap) = some g → base ≤ g := by
  intro g hg
  rcases h.2 with ⟨hv, _⟩ | ⟨g', c, cur, hv, hb, _⟩
  · injection hv with hA _ _; subst hA; cases hg
  · injection hv with hA _ _; subst hA
    simp [Value.ownBlock] at hg
    omega
theorem OwnBools.alloc {w : World} {base : Nat} {A : Option Addr} {cap : Nat} {zs : List Bool} (h : OwnBools w base A cap zs) (o : Obj) : OwnBools (w.alloc o) base A cap zs := World.ownsRow.alloc h o

set_option maxRecDepth 100000 in
theorem run_app_bools (W : World) (base ty : Nat) (A : Option Addr) (c : Nat) (ds : List Bool) (B : Option Addr) (bc : Nat) (zs : List Bool) (hown : OwnBools W base A c ds) (hI : BoolsAt W W.heap.size B zs) (hl : ds.length + zs.length ≤ 2147483647) (hbase : base ≤ W.heap.size) (hB : B = none → bc = 0) :
    ∃ v w', (Builtin.append_ #[28, 28] ty #[.slice A ds.length c, .slice B zs.length bc]).run Try.prog W = .ok v w' ∧ AppendedB W base A ds.length c (ds ++ zs) v w' := by
  obtain ⟨i0, hi0, hz0, hz1, hz2⟩ := info_parts bool_info
  rcases B with _ | ad
  · have h0 : zs = [] := by
      cases zs with
      | nil => rfl
      | cons z zs => obtain ⟨b, o, e, _⟩ := hI (by simp); cases e
    subst h0
    refine ⟨.slice A ds.length c, W, ?_, ⟨A, c, by simp, by simpa using hown⟩, World.grownBy.refl W _, Below.refl _ _⟩
    have hk := hown
    unfold OwnBools at hk
    rcases hk.2 with ⟨hv, hn⟩ | ⟨g, cap, cur, hv, _, _, hnc, _⟩
    · rw [hv]
      simp [Builtin.append_, run_underlying Try.underlying28, sizeOf, typeInfo, hi0, Builtin.lenOf, Builtin.firstCells]
    · rw [hv]
      simp [Builtin.append_, run_underlying Try.underlying28, sizeOf, typeInfo, hi0, Builtin.lenOf, Builtin.firstCells, hnc, storeCells]
  · have hcells : ∀ j u, (bals zs)[j]? = some u → W.cell? (ad.add j) = some u := by
      intro j u hu
      have hj : j < zs.length := by
        have := (List.getElem?_eq_some_iff.1 hu).1
        rwa [bals_length] at this
      obtain ⟨b, o, e, _, hc⟩ := hI (by omega)
      injection e with e
      subst e
      rw [bals_get zs j hj] at hu
      rw [Addr.add_lit, ← hu]
      exact hc j hj
    obtain ⟨v', w', hrun, h2, h3, _, h5⟩ := run_append_own_at (P := Try.prog) W base 28 ty 4 i0 _ 1 1 Try.underlying28 hi0 hz0 hz1 hz2 rfl (by omega) _ ds.length (bals ds) hown ad zs.length bc (bals zs) (by rw [bals_length, Nat.mul_one]) hcells (bals_one zs) (by unfold maxLen; omega) (by omega) hbase
    refine ⟨v', w', hrun, ?_, h3, (Below.refl _ _).grown h3 hbase (fun k hk => hown.far k hk)⟩
    rw [← bals_append] at h2
    rcases h2.2 with ⟨hv, hn⟩ | ⟨g, cap, cur, hv, hr⟩
    · refine ⟨none, 0, ?_, ?_⟩
      · rw [hv, List.length_append, hn]
      · unfold OwnBools; rw [List.length_append, hn]; rw [hn, hv] at h2; exact h2
    · refine ⟨some ⟨g, 0, none⟩, cap, ?_, ?_⟩
      · rw [hv, List.length_append]
      · unfold OwnBools; rw [List.length_append]; rw [hv] at h2; exact h2

theorem wp_app_bools {o : Oper} {a : Act} {K : Act → World → Prop} {Q : Exit → Act → World → Prop} (s x : Operand) (ho : o.op = .call { callee := .builtin .append, args := #[s, x], argTypes := #[28, 28] })
    (W : World) (base : Nat) (A : Option Addr) (c : Nat) (ds : List Bool) (hs : a.eval s = .slice A ds.length c) (B : Option Addr) (bc : Nat) (zs : List Bool) (hx : a.eval x = .slice B zs.length bc)
    (hown : OwnBools W base A c ds) (hI : BoolsAt W W.heap.size B zs) (hl : ds.length + zs.length ≤ 2147483647) (hbase : base ≤ W.heap.size) (hB : B = none → bc = 0)
    (h : ∀ v w', AppendedB W base A ds.length c (ds ++ zs) v w' → K (a.put o.dst v) w') : o.wp Try.prog a W K Q := by
  obtain ⟨v', w', hrun, h2⟩ := run_app_bools W base o.type A c ds B bc zs hown hI hl hbase hB
  unfold Oper.wp execOp
  simp only [ho, resolve, invoke, builtin, Sem.run_bind, Sem.run_pure, Result.andThen_ok, List.map_toArray, List.map_cons, List.map_nil, hs, hx, hrun]
  exact h v' w' h2

theorem wpList_app_bools {ops : Array Oper} {rest : List Oper} {o : Oper} {a : Act} {Q : Exit → Act → World → Prop} (hgd : o.guard = none) (s x : Operand) (ho : o.op = .call { callee := .builtin .append, args := #[s, x], argTypes := #[28, 28] })
    (W : World) (base : Nat) (A : Option Addr) (c : Nat) (ds : List Bool) (hs : a.eval s = .slice A ds.length c) (B : Option Addr) (bc : Nat) (zs : List Bool) (hx : a.eval x = .slice B zs.length bc)
    (hown : OwnBools W base A c ds) (hI : BoolsAt W W.heap.size B zs) (hl : ds.length + zs.length ≤ 2147483647) (hbase : base ≤ W.heap.size) (hB : B = none → bc = 0)
    (h : ∀ v w', AppendedB W base A ds.length c (ds ++ zs) v w' → wpList Try.prog ops Q rest (a.put o.dst v) w') : wpList Try.prog ops Q (o :: rest) a W :=
  wpList_plain hgd fun _ hK => wp_app_bools s x ho W base A c ds hs B bc zs hx hown hI hl hbase hB fun v' w' h2 => hK _ _ (h v' w' h2)

theorem step_app_bools {ops : Array Oper} {o : Oper} {a : Act} {K : Act → World → Prop} {Q : Exit → Act → World → Prop} {E : Prop} (hgd : o.guard = none) (s x : Operand) (ho : o.op = .call { callee := .builtin .append, args := #[s, x], argTypes := #[28, 28] })
    (W : World) (base : Nat) (A : Option Addr) (c : Nat) (ds : List Bool) (hs : a.eval s = .slice A ds.length c) (B : Option Addr) (bc : Nat) (zs : List Bool) (hx : a.eval x = .slice B zs.length bc)
    (hown : OwnBools W base A c ds) (hI : BoolsAt W W.heap.size B zs) (hl : ds.length + zs.length ≤ 2147483647) (hbase : base ≤ W.heap.size) (hB : B = none → bc = 0)
    (h : ∀ v w', AppendedB W base A ds.length c (ds ++ zs) v w' → K (a.put o.dst v) w') :
    if Region.wanted o (yielded ops a.tmps) = true then Oper.wp Try.prog o a W K Q else E := by
  have hw : Region.wanted o (yielded ops a.tmps) = true := by simp [Region.wanted, hgd]
  rw [if_pos hw]
  exact wp_app_bools s x ho W base A c ds hs B bc zs hx hown hI hl hbase hB h

/-- One element that was just laid in a block of its own. -/
theorem one_newB (W : World) (z : Bool) : BoolsAt (W.alloc (.cells #[.bool z] 4)) (W.alloc (.cells #[.bool z] 4)).heap.size (some ⟨W.heap.size, 0, none⟩) [z] := fun _ => by
  refine ⟨W.heap.size, 0, rfl, by simp, fun k hk => ?_⟩
  have : k = 0 := by simp at hk; omega
  subst this
  have := cell_one_new W (.bool z) 4 0 (.bool z) rfl
  rw [Addr.add_lit] at this
  exact this

end Go.Proofs.Ytgjnhfciphiciaa
