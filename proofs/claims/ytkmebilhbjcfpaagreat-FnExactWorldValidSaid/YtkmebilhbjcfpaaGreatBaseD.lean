/- Words for memory, of bools: a slice of bools that reads as a list, a slice of the call's own that holds bools, how both are kept, and how bools are appended. Conditions: the lengths stay below 2^31. Words for memory, of texts: a slice of texts that reads as a list, a slice of the call's own that holds texts, how both are kept, and how texts are appended. Conditions: the lengths stay below 2^31. Ma -/
import Derived.Test.YtkmebilhbjcfpaaGreatBaseA
import Derived.Laws.Strings
import Derived.RangeFuncNested
import Derived.RangeFuncBound
import Derived.RangeFuncCalls
import Derived.RangeFuncLeaves
import Derived.RangeFuncBox
import Derived.Shelf.Abstract
import Derived.Shelf.RegionOpen
import Derived.OwnWalkIn
import Derived.TacticsInMore
import Derived.LoopNIn
import Derived.LoopIn
import Derived.Deep.QuietTactic
import Derived.BigQuiet
import Derived.Deep.OwnRows
namespace Go.Proofs.YtkmebilhbjcfpaaGreat
open Go.RowKit
set_option linter.unusedVariables false

abbrev vb (b : Bool) : Value := .bool b
/-- The k-th number. -/
def bth (zs : List Bool) (k : Nat) : Bool := zs.getD k false
theorem bth_eq (zs : List Bool) (k : Nat) : bth zs k = zs.getD k false := rfl
def bals (zs : List Bool) : List Value := zs.map vb
theorem bals_length (zs : List Bool) : (bals zs).length = zs.length := List.length_map _
theorem bals_append (a b : List Bool) : bals (a ++ b) = bals a ++ bals b := List.map_append
theorem bals_one (zs : List Bool) : ∀ u ∈ bals zs, u.oneCell' = true := by
  intro u hu
  obtain ⟨z, _, rfl⟩ := List.mem_map.1 hu
  rfl
theorem bals_get (zs : List Bool) (k : Nat) (h : k < zs.length) : (bals zs)[k]? = some (vb (bth zs k)) := by
  unfold bals bth
  rw [List.getElem?_map, List.getElem?_eq_getElem h, List.getD_eq_getElem?_getD, List.getElem?_eq_getElem h]
  rfl

/-- The slice at A begins with the numbers zs; its cells lie below block B. -/
def BoolsAt (w : World) (B : Nat) (A : Option Addr) (zs : List Bool) : Prop :=
  0 < zs.length → ∃ b o, A = some ⟨b, o, none⟩ ∧ b < B ∧ ∀ k, k < zs.length → w.cell? ⟨b, o + k, none⟩ = some (.bool (bth zs k))

section
variable {w w' : World} {B B' : Nat} {A : Option Addr} {zs : List Bool}
theorem BoolsAt.nil : BoolsAt w B A [] := fun h => absurd h (by simp)
theorem BoolsAt.at_ (h : BoolsAt w B A zs) (hn : 0 < zs.length) : ∃ b o, A = some ⟨b, o, none⟩ ∧ b < B ∧ ∀ k, k < zs.length → w.cell? ⟨b, o + k, none⟩ = some (.bool (bth zs k)) := h hn
theorem BoolsAt.keep (h : BoolsAt w B A zs) (hk : ∀ p : Addr, p.block < B → w'.cell? p = w.cell? p) : BoolsAt w' B A zs := fun hn => by
  obtain ⟨b, o, e, hb, hc⟩ := h hn
  exact ⟨b, o, e, hb, fun k hk' => (hk _ hb).trans (hc k hk')⟩
theorem BoolsAt.more (h : BoolsAt w B A zs) (hB : B ≤ B') : BoolsAt w B' A zs := fun hn => by
  obtain ⟨b, o, e, hb, hc⟩ := h hn
  exact ⟨b, o, e, by omega, hc⟩
theorem BoolsAt.below {C : Nat} (h : BoolsAt w B A zs) (hb : Below C w w') (hC : B ≤ C) : BoolsAt w' B A zs := h.keep fun _ hp => hb.cell (by omega)
theorem BoolsAt.drewN (h : BoolsAt w B A zs) (k : Nat) : BoolsAt (w.drewN k) B A zs := h
theorem BoolsAt.alloc (h : BoolsAt w B A zs) (hB : B ≤ w.heap.size) (o : Obj) : BoolsAt (w.alloc o) B A zs := h.keep fun p hp => World.cell?_alloc_lt w o p (by omega)
theorem BoolsAt.allocS (h : BoolsAt w w.heap.size A zs) (o : Obj) : BoolsAt (w.alloc o) (w.alloc o).heap.size A zs := (h.alloc (Nat.le_refl _) o).more (by simp)
theorem BoolsAt.belowS (h : BoolsAt w w.heap.size A zs) (hb : Below w.heap.size w w') : BoolsAt w' w'.heap.size A zs := (h.below hb (Nat.le_refl _)).more hb.size
theorem BoolsAt.grown {row : Option Nat} (h : BoolsAt w B A zs) (hg : w.grownBy w' row) (hB : B ≤ w.heap.size) (hr : ∀ g, row = some g → B ≤ g) : BoolsAt w' B A zs :=
  h.keep fun p hp => World.cell?_of_block (hg.block p.block (by omega) (fun e => by have := hr _ e.symm; omega))
/-- A part of such a slice. -/
theorem BoolsAt.part (h : BoolsAt w B A zs) (s n : Nat) {b o : Nat} (hA : A = some ⟨b, o, none⟩) : BoolsAt w B (some ⟨b, o + s, none⟩) ((zs.drop s).take n) := fun hn => by
  rw [List.length_take, List.length_drop] at hn
  obtain ⟨b', o', e, hb, hc⟩ := h (by omega)
  subst hA
  injection e with e
  injection e with e1 e2
  subst e1 e2
  refine ⟨b, o + s, rfl, hb, fun k hk => ?_⟩
  rw [List.length_take, List.length_drop] at hk
  rw [Nat.add_assoc, hc (s + k) (by omega), bth, bth, List.getD_eq_getElem?_getD, List.getD_eq_getElem?_getD, List.getElem?_take_of_lt (by omega), List.getElem?_drop]
theorem BoolsAt.first (h : BoolsAt w B A zs) (n : Nat) : BoolsAt w B A (zs.take n) := fun hn => by
  rw [List.length_take] at hn
  obtain ⟨b, o, e, hb, hc⟩ := h (by omega)
  refine ⟨b, o, e, hb, fun k hk => ?_⟩
  rw [List.length_take] at hk
  rw [hc k (by omega), bth, bth, List.getD_eq_getElem?_getD, List.getD_eq_getElem?_getD, List.getElem?_take_of_lt (by omega)]
theorem BoolsAt.lt {b o : Nat} (h : BoolsAt w B (some ⟨b, o, none⟩) zs) (hn : 0 < zs.length) : b < B ∧ ∀ k, k < zs.length → w.cell? ⟨b, o + k, none⟩ = some (.bool (bth zs k)) := by
  obtain ⟨b', o', e, hb, hc⟩ := h hn
  injection e with e
  injection e with e1 e2
  subst e1 e2
  exact ⟨hb, hc⟩
end

/-- A slice of the call's own (from block base on) that holds the numbers zs. -/
def OwnBools (w : World) (base : Nat) (A : Option Addr) (cap : Nat) (zs : List Bool) : Prop :=
  w.ownsRow base 4 1 (.slice A zs.length cap) zs.length (bals zs)
section
variable {w w' : World} {base : Nat} {A : Option Addr} {cap : Nat} {zs : List Bool}
theorem OwnBools.ints (h : OwnBools w base A cap zs) : BoolsAt w w.heap.size A zs := fun hn => by
  obtain ⟨g, c, hv, _, hlt⟩ := World.ownsRow.form h hn
  injection hv with hA _ _
  subst hA
  refine ⟨g, 0, rfl, hlt, fun k hk => ?_⟩
  have := World.ownsRow.cells h (g := g) rfl k (vb (bth zs k)) (bals_get zs k hk)
  rw [Addr.add_lit] at this
  exact this
theorem OwnBools.le (h : OwnBools w base A cap zs) : zs.length ≤ cap ∧ cap ≤ maxLen := by
  rcases h.2 with ⟨hv, hn⟩ | ⟨g, c, cur, hv, _, _, h1, h2, _⟩
  · injection hv with _ _ hc; exact ⟨by omega, by omega⟩
  · injection hv with _ _ hc; subst hc; exact ⟨h1, h2⟩
theorem OwnBools.below (h : OwnBools w base A cap zs) (hb : Below w.heap.size w w') : OwnBools w' base A cap zs :=
  World.ownsRow.kept h (grown_of_below hb none) (by
    rcases h.2 with ⟨hv, _⟩ | ⟨g, c, cur, hv, _⟩
    · left; rw [hv]; rfl
    · right; rw [hv]; simp [Value.ownBlock])
theorem OwnBools.drewN (h : OwnBools w base A cap zs) (n : Nat) : OwnBools (w.drewN n) base A cap zs := h
/-- An empty slice that was just made. -/
theorem OwnBools.new (w : World) : OwnBools (w.alloc (.cells #[] 4)) w.heap.size (some ⟨w.heap.size, 0, none⟩) 0 [] :=
  World.ownsRow_lit w #[] 0 (Nat.le_refl _) (by simp [maxLen]) (by simp)
theorem OwnBools.base_le (h : OwnBools w base A cap zs) {b : Nat} (hb : b ≤ base) : OwnBools w b A cap zs := by
  refine ⟨h.1, ?_⟩
  rcases h.2 with h0 | ⟨g, c, cur, hv, hg, hr⟩
  · exact .inl h0
  · exact .inr ⟨g, c, cur, hv, by omega, hr⟩
end

/-- What a function hands back that makes a slice of integers: the numbers zs in memory of its own; nothing that was there is changed. -/
def RetBools (w : World) (zs : List Bool) (e : Ending) (w' : World) : Prop :=
  ∃ A cap, e = .returned (.slice A zs.length cap) ∧ OwnBools w' w.heap.size A cap zs ∧ Below w.heap.size w w'

theorem bool_info : (Tryz.prog.info? 4).map (fun i => (i.zero, i.size, i.bytes)) = some (some (.bool false), 1, 1) := by kernel_rfl

/-- What an append leaves. -/
structure AppendedB (W : World) (base : Nat) (A : Option Addr) (n c : Nat) (zs : List Bool) (v : Value) (w' : World) : Prop where
  own : ∃ A' c', v = .slice A' zs.length c' ∧ OwnBools w' base A' c' zs
  grown : W.grownBy w' (Value.ownBlock (.slice A n c))
  below : Below base W w'

theorem OwnBools.far {w : World} {base : Nat} {A : Option Addr} {cap n : Nat} {zs : List Bool} (h : OwnBools w base A cap zs) : ∀ g, Value.ownBlock (.slice A n cap) = some g → base ≤ g := by
  intro g hg
  rcases h.2 with ⟨hv, _⟩ | ⟨g', c, cur, hv, hb, _⟩
  · injection hv with hA _ _; subst hA; cases hg
  · injection hv with hA _ _; subst hA
    simp [Value.ownBlock] at hg
    omega
theorem OwnBools.alloc {w : World} {base : Nat} {A : Option Addr} {cap : Nat} {zs : List Bool} (h : OwnBools w base A cap zs) (o : Obj) : OwnBools (w.alloc o) base A cap zs := World.ownsRow.alloc h o

set_option maxRecDepth 100000 in
theorem run_app_bools (W : World) (base ty : Nat) (A : Option Addr) (c : Nat) (ds : List Bool) (B : Option Addr) (bc : Nat) (zs : List Bool) (hown : OwnBools W base A c ds) (hI : BoolsAt W W.heap.size B zs) (hl : ds.length + zs.length ≤ 2147483647) (hbase : base ≤ W.heap.size) (hB : B = none → bc = 0) :
    ∃ v w', (Builtin.append_ #[54, 54] ty #[.slice A ds.length c, .slice B zs.length bc]).run Tryz.prog W = .ok v w' ∧ AppendedB W base A ds.length c (ds ++ zs) v w' := by
  obtain ⟨i0, hi0, hz0, hz1, hz2⟩ := info_parts bool_info
  rcases B with _ | ad
  · have h0 : zs = [] := by
      cases zs with
      | nil => rfl
      | cons z zs => obtain ⟨b, o, e, _⟩ := hI (by simp); cases e
    subst h0
    refine ⟨.slice A ds.length c, W, ?_, ⟨A, c, by simp, by simpa using hown⟩, World.grownBy.refl W _, Below.refl _ _⟩
    have hk := hown
    unfold OwnBools at hk
    rcases hk.2 with ⟨hv, hn⟩ | ⟨g, cap, cur, hv, _, _, hnc, _⟩
    · rw [hv]
      simp [Builtin.append_, run_underlying Tryz.underlying54, sizeOf, typeInfo, hi0, Builtin.lenOf, Builtin.firstCells]
    · rw [hv]
      simp [Builtin.append_, run_underlying Tryz.underlying54, sizeOf, typeInfo, hi0, Builtin.lenOf, Builtin.firstCells, hnc, storeCells]
  · have hcells : ∀ j u, (bals zs)[j]? = some u → W.cell? (ad.add j) = some u := by
      intro j u hu
      have hj : j < zs.length := by
        have := (List.getElem?_eq_some_iff.1 hu).1
        rwa [bals_length] at this
      obtain ⟨b, o, e, _, hc⟩ := hI (by omega)
      injection e with e
      subst e
      rw [bals_get zs j hj] at hu
      rw [Addr.add_lit, ← hu]
      exact hc j hj
    obtain ⟨v', w', hrun, h2, h3, _, h5⟩ := run_append_own_at (P := Tryz.prog) W base 54 ty 4 i0 _ 1 1 Tryz.underlying54 hi0 hz0 hz1 hz2 rfl (by omega) _ ds.length (bals ds) hown ad zs.length bc (bals zs) (by rw [bals_length, Nat.mul_one]) hcells (bals_one zs) (by unfold maxLen; omega) (by omega) hbase
    refine ⟨v', w', hrun, ?_, h3, (Below.refl _ _).grown h3 hbase (fun k hk => hown.far k hk)⟩
    rw [← bals_append] at h2
    rcases h2.2 with ⟨hv, hn⟩ | ⟨g, cap, cur, hv, hr⟩
    · refine ⟨none, 0, ?_, ?_⟩
      · rw [hv, List.length_append, hn]
      · unfold OwnBools; rw [List.length_append, hn]; rw [hn, hv] at h2; exact h2
    · refine ⟨some ⟨g, 0, none⟩, cap, ?_, ?_⟩
      · rw [hv, List.length_append]
      · unfold OwnBools; rw [List.length_append]; rw [hv] at h2; exact h2

theorem wp_app_bools {o : Oper} {a : Act} {K : Act → World → Prop} {Q : Exit → Act → World → Prop} (s x : Operand) (ho : o.op = .call { callee := .builtin .append, args := #[s, x], argTypes := #[54, 54] })
    (W : World) (base : Nat) (A : Option Addr) (c : Nat) (ds : List Bool) (hs : a.eval s = .slice A ds.length c) (B : Option Addr) (bc : Nat) (zs : List Bool) (hx : a.eval x = .slice B zs.length bc)
    (hown : OwnBools W base A c ds) (hI : BoolsAt W W.heap.size B zs) (hl : ds.length + zs.length ≤ 2147483647) (hbase : base ≤ W.heap.size) (hB : B = none → bc = 0)
    (h : ∀ v w', AppendedB W base A ds.length c (ds ++ zs) v w' → K (a.put o.dst v) w') : o.wp Tryz.prog a W K Q := by
  obtain ⟨v', w', hrun, h2⟩ := run_app_bools W base o.type A c ds B bc zs hown hI hl hbase hB
  unfold Oper.wp execOp
  simp only [ho, resolve, invoke, builtin, Sem.run_bind, Sem.run_pure, Result.andThen_ok, List.map_toArray, List.map_cons, List.map_nil, hs, hx, hrun]
  exact h v' w' h2

theorem wpList_app_bools {ops : Array Oper} {rest : List Oper} {o : Oper} {a : Act} {Q : Exit → Act → World → Prop} (hgd : o.guard = none) (s x : Operand) (ho : o.op = .call { callee := .builtin .append, args := #[s, x], argTypes := #[54, 54] })
    (W : World) (base : Nat) (A : Option Addr) (c : Nat) (ds : List Bool) (hs : a.eval s = .slice A ds.length c) (B : Option Addr) (bc : Nat) (zs : List Bool) (hx : a.eval x = .slice B zs.length bc)
    (hown : OwnBools W base A c ds) (hI : BoolsAt W W.heap.size B zs) (hl : ds.length + zs.length ≤ 2147483647) (hbase : base ≤ W.heap.size) (hB : B = none → bc = 0)
    (h : ∀ v w', AppendedB W base A ds.length c (ds ++ zs) v w' → wpList Tryz.prog ops Q rest (a.put o.dst v) w') : wpList Tryz.prog ops Q (o :: rest) a W :=
  wpList_plain hgd fun _ hK => wp_app_bools s x ho W base A c ds hs B bc zs hx hown hI hl hbase hB fun v' w' h2 => hK _ _ (h v' w' h2)

theorem step_app_bools {ops : Array Oper} {o : Oper} {a : Act} {K : Act → World → Prop} {Q : Exit → Act → World → Prop} {E : Prop} (hgd : o.guard = none) (s x : Operand) (ho : o.op = .call { callee := .builtin .append, args := #[s, x], argTypes := #[54, 54] })
    (W : World) (base : Nat) (A : Option Addr) (c : Nat) (ds : List Bool) (hs : a.eval s = .slice A ds.length c) (B : Option Addr) (bc : Nat) (zs : List Bool) (hx : a.eval x = .slice B zs.length bc)
    (hown : OwnBools W base A c ds) (hI : BoolsAt W W.heap.size B zs) (hl : ds.length + zs.length ≤ 2147483647) (hbase : base ≤ W.heap.size) (hB : B = none → bc = 0)
    (h : ∀ v w', AppendedB W base A ds.length c (ds ++ zs) v w' → K (a.put o.dst v) w') :
    if Region.wanted o (yielded ops a.tmps) = true then Oper.wp Tryz.prog o a W K Q else E := by
  have hw : Region.wanted o (yielded ops a.tmps) = true := by simp [Region.wanted, hgd]
  rw [if_pos hw]
  exact wp_app_bools s x ho W base A c ds hs B bc zs hx hown hI hl hbase hB h

/-- One element that was just laid in a block of its own. -/
theorem one_newB (W : World) (z : Bool) : BoolsAt (W.alloc (.cells #[.bool z] 4)) (W.alloc (.cells #[.bool z] 4)).heap.size (some ⟨W.heap.size, 0, none⟩) [z] := fun _ => by
  refine ⟨W.heap.size, 0, rfl, by simp, fun k hk => ?_⟩
  have : k = 0 := by simp at hk; omega
  subst this
  have := cell_one_new W (.bool z) 4 0 (.bool z) rfl
  rw [Addr.add_lit] at this
  exact this

end Go.Proofs.YtkmebilhbjcfpaaGreat

namespace Go.Proofs.YtkmebilhbjcfpaaGreat
open Go.RowKit
set_option linter.unusedVariables false

theorem toList_inj {a b : ByteArray} (h : a.toList = b.toList) : a = b := by
  rw [Go.ByteArray.toList_eq, Go.ByteArray.toList_eq] at h
  cases a with | mk a =>
  cases b with | mk b =>
  cases a; cases b
  simp at h
  rw [h]

abbrev vs (b : ByteArray) : Value := .string b
/-- The k-th number. -/
def sth (zs : List ByteArray) (k : Nat) : ByteArray := zs.getD k ByteArray.empty
theorem sth_eq (zs : List ByteArray) (k : Nat) : sth zs k = zs.getD k ByteArray.empty := rfl
def sals (zs : List ByteArray) : List Value := zs.map vs
theorem sals_length (zs : List ByteArray) : (sals zs).length = zs.length := List.length_map _
theorem sals_append (a b : List ByteArray) : sals (a ++ b) = sals a ++ sals b := List.map_append
theorem sals_one (zs : List ByteArray) : ∀ u ∈ sals zs, u.oneCell' = true := by
  intro u hu
  obtain ⟨z, _, rfl⟩ := List.mem_map.1 hu
  rfl
theorem sals_get (zs : List ByteArray) (k : Nat) (h : k < zs.length) : (sals zs)[k]? = some (vs (sth zs k)) := by
  unfold sals sth
  rw [List.getElem?_map, List.getElem?_eq_getElem h, List.getD_eq_getElem?_getD, List.getElem?_eq_getElem h]
  rfl

/-- The slice at A begins with the numbers zs; its cells lie below block B. -/
def StrsAt (w : World) (B : Nat) (A : Option Addr) (zs : List ByteArray) : Prop :=
  0 < zs.length → ∃ b o, A = some ⟨b, o, none⟩ ∧ b < B ∧ ∀ k, k < zs.length → w.cell? ⟨b, o + k, none⟩ = some (.string (sth zs k))

section
variable {w w' : World} {B B' : Nat} {A : Option Addr} {zs : List ByteArray}
theorem StrsAt.nil : StrsAt w B A [] := fun h => absurd h (by simp)
theorem StrsAt.at_ (h : StrsAt w B A zs) (hn : 0 < zs.length) : ∃ b o, A = some ⟨b, o, none⟩ ∧ b < B ∧ ∀ k, k < zs.length → w.cell? ⟨b, o + k, none⟩ = some (.string (sth zs k)) := h hn
theorem StrsAt.keep (h : StrsAt w B A zs) (hk : ∀ p : Addr, p.block < B → w'.cell? p = w.cell? p) : StrsAt w' B A zs := fun hn => by
  obtain ⟨b, o, e, hb, hc⟩ := h hn
  exact ⟨b, o, e, hb, fun k hk' => (hk _ hb).trans (hc k hk')⟩
theorem StrsAt.more (h : StrsAt w B A zs) (hB : B ≤ B') : StrsAt w B' A zs := fun hn => by
  obtain ⟨b, o, e, hb, hc⟩ := h hn
  exact ⟨b, o, e, by omega, hc⟩
theorem StrsAt.below {C : Nat} (h : StrsAt w B A zs) (hb : Below C w w') (hC : B ≤ C) : StrsAt w' B A zs := h.keep fun _ hp => hb.cell (by omega)
theorem StrsAt.drewN (h : StrsAt w B A zs) (k : Nat) : StrsAt (w.drewN k) B A zs := h
theorem StrsAt.alloc (h : StrsAt w B A zs) (hB : B ≤ w.heap.size) (o : Obj) : StrsAt (w.alloc o) B A zs := h.keep fun p hp => World.cell?_alloc_lt w o p (by omega)
theorem StrsAt.allocS (h : StrsAt w w.heap.size A zs) (o : Obj) : StrsAt (w.alloc o) (w.alloc o).heap.size A zs := (h.alloc (Nat.le_refl _) o).more (by simp)
theorem StrsAt.belowS (h : StrsAt w w.heap.size A zs) (hb : Below w.heap.size w w') : StrsAt w' w'.heap.size A zs := (h.below hb (Nat.le_refl _)).more hb.size
theorem StrsAt.grown {row : Option Nat} (h : StrsAt w B A zs) (hg : w.grownBy w' row) (hB : B ≤ w.heap.size) (hr : ∀ g, row = some g → B ≤ g) : StrsAt w' B A zs :=
  h.keep fun p hp => World.cell?_of_block (hg.block p.block (by omega) (fun e => by have := hr _ e.symm; omega))
/-- A part of such a slice. -/
theorem StrsAt.part (h : StrsAt w B A zs) (s n : Nat) {b o : Nat} (hA : A = some ⟨b, o, none⟩) : StrsAt w B (some ⟨b, o + s, none⟩) ((zs.drop s).take n) := fun hn => by
  rw [List.length_take, List.length_drop] at hn
  obtain ⟨b', o', e, hb, hc⟩ := h (by omega)
  subst hA
  injection e with e
  injection e with e1 e2
  subst e1 e2
  refine ⟨b, o + s, rfl, hb, fun k hk => ?_⟩
  rw [List.length_take, List.length_drop] at hk
  rw [Nat.add_assoc, hc (s + k) (by omega), sth, sth, List.getD_eq_getElem?_getD, List.getD_eq_getElem?_getD, List.getElem?_take_of_lt (by omega), List.getElem?_drop]
theorem StrsAt.first (h : StrsAt w B A zs) (n : Nat) : StrsAt w B A (zs.take n) := fun hn => by
  rw [List.length_take] at hn
  obtain ⟨b, o, e, hb, hc⟩ := h (by omega)
  refine ⟨b, o, e, hb, fun k hk => ?_⟩
  rw [List.length_take] at hk
  rw [hc k (by omega), sth, sth, List.getD_eq_getElem?_getD, List.getD_eq_getElem?_getD, List.getElem?_take_of_lt (by omega)]
theorem StrsAt.lt {b o : Nat} (h : StrsAt w B (some ⟨b, o, none⟩) zs) (hn : 0 < zs.length) : b < B ∧ ∀ k, k < zs.length → w.cell? ⟨b, o + k, none⟩ = some (.string (sth zs k)) := by
  obtain ⟨b', o', e, hb, hc⟩ := h hn
  injection e with e
  injection e with e1 e2
  subst e1 e2
  exact ⟨hb, hc⟩
end

/-- A slice of the call's own (from block base on) that holds the numbers zs. -/
def OwnStrs (w : World) (base : Nat) (A : Option Addr) (cap : Nat) (zs : List ByteArray) : Prop :=
  w.ownsRow base 9 1 (.slice A zs.length cap) zs.length (sals zs)
section
variable {w w' : World} {base : Nat} {A : Option Addr} {cap : Nat} {zs : List ByteArray}
theorem OwnStrs.ints (h : OwnStrs w base A cap zs) : StrsAt w w.heap.size A zs := fun hn => by
  obtain ⟨g, c, hv, _, hlt⟩ := World.ownsRow.form h hn
  injection hv with hA _ _
  subst hA
  refine ⟨g, 0, rfl, hlt, fun k hk => ?_⟩
  have := World.ownsRow.cells h (g := g) rfl k (vs (sth zs k)) (sals_get zs k hk)
  rw [Addr.add_lit] at this
  exact this
theorem OwnStrs.le (h : OwnStrs w base A cap zs) : zs.length ≤ cap ∧ cap ≤ maxLen := by
  rcases h.2 with ⟨hv, hn⟩ | ⟨g, c, cur, hv, _, _, h1, h2, _⟩
  · injection hv with _ _ hc; exact ⟨by omega, by omega⟩
  · injection hv with _ _ hc; subst hc; exact ⟨h1, h2⟩
theorem OwnStrs.below (h : OwnStrs w base A cap zs) (hb : Below w.heap.size w w') : OwnStrs w' base A cap zs :=
  World.ownsRow.kept h (grown_of_below hb none) (by
    rcases h.2 with ⟨hv, _⟩ | ⟨g, c, cur, hv, _⟩
    · left; rw [hv]; rfl
    · right; rw [hv]; simp [Value.ownBlock])
theorem OwnStrs.drewN (h : OwnStrs w base A cap zs) (n : Nat) : OwnStrs (w.drewN n) base A cap zs := h
/-- An empty slice that was just made. -/
theorem OwnStrs.new (w : World) : OwnStrs (w.alloc (.cells #[] 9)) w.heap.size (some ⟨w.heap.size, 0, none⟩) 0 [] :=
  World.ownsRow_lit w #[] 0 (Nat.le_refl _) (by simp [maxLen]) (by simp)
theorem OwnStrs.base_le (h : OwnStrs w base A cap zs) {b : Nat} (hb : b ≤ base) : OwnStrs w b A cap zs := by
  refine ⟨h.1, ?_⟩
  rcases h.2 with h0 | ⟨g, c, cur, hv, hg, hr⟩
  · exact .inl h0
  · exact .inr ⟨g, c, cur, hv, by omega, hr⟩
end

/-- What a function hands back that makes a slice of integers: the numbers zs in memory of its own; nothing that was there is changed. -/
def RetStrs (w : World) (zs : List ByteArray) (e : Ending) (w' : World) : Prop :=
  ∃ A cap, e = .returned (.slice A zs.length cap) ∧ OwnStrs w' w.heap.size A cap zs ∧ Below w.heap.size w w'

theorem string_info : (Tryz.prog.info? 9).map (fun i => (i.zero, i.size, i.bytes)) = some (some (.string ByteArray.empty), 1, 16) := by kernel_rfl

/-- What an append leaves. -/
structure AppendedS (W : World) (base : Nat) (A : Option Addr) (n c : Nat) (zs : List ByteArray) (v : Value) (w' : World) : Prop where
  own : ∃ A' c', v = .slice A' zs.length c' ∧ OwnStrs w' base A' c' zs
  grown : W.grownBy w' (Value.ownBlock (.slice A n c))
  below : Below base W w'

theorem OwnStrs.far {w : World} {base : Nat} {A : Option Addr} {cap n : Nat} {zs : List ByteArray} (h : OwnStrs w base A cap zs) : ∀ g, Value.ownBlock (.slice A n cap) = some g → base ≤ g := by
  intro g hg
  rcases h.2 with ⟨hv, _⟩ | ⟨g', c, cur, hv, hb, _⟩
  · injection hv with hA _ _; subst hA; cases hg
  · injection hv with hA _ _; subst hA
    simp [Value.ownBlock] at hg
    omega
theorem OwnStrs.alloc {w : World} {base : Nat} {A : Option Addr} {cap : Nat} {zs : List ByteArray} (h : OwnStrs w base A cap zs) (o : Obj) : OwnStrs (w.alloc o) base A cap zs := World.ownsRow.alloc h o

set_option maxRecDepth 100000 in
theorem run_app_strs (W : World) (base ty : Nat) (A : Option Addr) (c : Nat) (ds : List ByteArray) (B : Option Addr) (bc : Nat) (zs : List ByteArray) (hown : OwnStrs W base A c ds) (hI : StrsAt W W.heap.size B zs) (hl : ds.length + zs.length ≤ 2147483647) (hbase : base ≤ W.heap.size) (hB : B = none → bc = 0) :
    ∃ v w', (Builtin.append_ #[53, 53] ty #[.slice A ds.length c, .slice B zs.length bc]).run Tryz.prog W = .ok v w' ∧ AppendedS W base A ds.length c (ds ++ zs) v w' := by
  obtain ⟨i0, hi0, hz0, hz1, hz2⟩ := info_parts string_info
  rcases B with _ | ad
  · have h0 : zs = [] := by
      cases zs with
      | nil => rfl
      | cons z zs => obtain ⟨b, o, e, _⟩ := hI (by simp); cases e
    subst h0
    refine ⟨.slice A ds.length c, W, ?_, ⟨A, c, by simp, by simpa using hown⟩, World.grownBy.refl W _, Below.refl _ _⟩
    have hk := hown
    unfold OwnStrs at hk
    rcases hk.2 with ⟨hv, hn⟩ | ⟨g, cap, cur, hv, _, _, hnc, _⟩
    · rw [hv]
      simp [Builtin.append_, run_underlying Tryz.underlying53, sizeOf, typeInfo, hi0, Builtin.lenOf, Builtin.firstCells]
    · rw [hv]
      simp [Builtin.append_, run_underlying Tryz.underlying53, sizeOf, typeInfo, hi0, Builtin.lenOf, Builtin.firstCells, hnc, storeCells]
  · have hcells : ∀ j u, (sals zs)[j]? = some u → W.cell? (ad.add j) = some u := by
      intro j u hu
      have hj : j < zs.length := by
        have := (List.getElem?_eq_some_iff.1 hu).1
        rwa [sals_length] at this
      obtain ⟨b, o, e, _, hc⟩ := hI (by omega)
      injection e with e
      subst e
      rw [sals_get zs j hj] at hu
      rw [Addr.add_lit, ← hu]
      exact hc j hj
    obtain ⟨v', w', hrun, h2, h3, _, h5⟩ := run_append_own_at (P := Tryz.prog) W base 53 ty 9 i0 _ 1 16 Tryz.underlying53 hi0 hz0 hz1 hz2 rfl (by omega) _ ds.length (sals ds) hown ad zs.length bc (sals zs) (by rw [sals_length, Nat.mul_one]) hcells (sals_one zs) (by unfold maxLen; omega) (by omega) hbase
    refine ⟨v', w', hrun, ?_, h3, (Below.refl _ _).grown h3 hbase (fun k hk => hown.far k hk)⟩
    rw [← sals_append] at h2
    rcases h2.2 with ⟨hv, hn⟩ | ⟨g, cap, cur, hv, hr⟩
    · refine ⟨none, 0, ?_, ?_⟩
      · rw [hv, List.length_append, hn]
      · unfold OwnStrs; rw [List.length_append, hn]; rw [hn, hv] at h2; exact h2
    · refine ⟨some ⟨g, 0, none⟩, cap, ?_, ?_⟩
      · rw [hv, List.length_append]
      · unfold OwnStrs; rw [List.length_append]; rw [hv] at h2; exact h2

theorem wp_app_strs {o : Oper} {a : Act} {K : Act → World → Prop} {Q : Exit → Act → World → Prop} (s x : Operand) (ho : o.op = .call { callee := .builtin .append, args := #[s, x], argTypes := #[53, 53] })
    (W : World) (base : Nat) (A : Option Addr) (c : Nat) (ds : List ByteArray) (hs : a.eval s = .slice A ds.length c) (B : Option Addr) (bc : Nat) (zs : List ByteArray) (hx : a.eval x = .slice B zs.length bc)
    (hown : OwnStrs W base A c ds) (hI : StrsAt W W.heap.size B zs) (hl : ds.length + zs.length ≤ 2147483647) (hbase : base ≤ W.heap.size) (hB : B = none → bc = 0)
    (h : ∀ v w', AppendedS W base A ds.length c (ds ++ zs) v w' → K (a.put o.dst v) w') : o.wp Tryz.prog a W K Q := by
  obtain ⟨v', w', hrun, h2⟩ := run_app_strs W base o.type A c ds B bc zs hown hI hl hbase hB
  unfold Oper.wp execOp
  simp only [ho, resolve, invoke, builtin, Sem.run_bind, Sem.run_pure, Result.andThen_ok, List.map_toArray, List.map_cons, List.map_nil, hs, hx, hrun]
  exact h v' w' h2

theorem wpList_app_strs {ops : Array Oper} {rest : List Oper} {o : Oper} {a : Act} {Q : Exit → Act → World → Prop} (hgd : o.guard = none) (s x : Operand) (ho : o.op = .call { callee := .builtin .append, args := #[s, x], argTypes := #[53, 53] })
    (W : World) (base : Nat) (A : Option Addr) (c : Nat) (ds : List ByteArray) (hs : a.eval s = .slice A ds.length c) (B : Option Addr) (bc : Nat) (zs : List ByteArray) (hx : a.eval x = .slice B zs.length bc)
    (hown : OwnStrs W base A c ds) (hI : StrsAt W W.heap.size B zs) (hl : ds.length + zs.length ≤ 2147483647) (hbase : base ≤ W.heap.size) (hB : B = none → bc = 0)
    (h : ∀ v w', AppendedS W base A ds.length c (ds ++ zs) v w' → wpList Tryz.prog ops Q rest (a.put o.dst v) w') : wpList Tryz.prog ops Q (o :: rest) a W :=
  wpList_plain hgd fun _ hK => wp_app_strs s x ho W base A c ds hs B bc zs hx hown hI hl hbase hB fun v' w' h2 => hK _ _ (h v' w' h2)

theorem step_app_strs {ops : Array Oper} {o : Oper} {a : Act} {K : Act → World → Prop} {Q : Exit → Act → World → Prop} {E : Prop} (hgd : o.guard = none) (s x : Operand) (ho : o.op = .call { callee := .builtin .append, args := #[s, x], argTypes := #[53, 53] })
    (W : World) (base : Nat) (A : Option Addr) (c : Nat) (ds : List ByteArray) (hs : a.eval s = .slice A ds.length c) (B : Option Addr) (bc : Nat) (zs : List ByteArray) (hx : a.eval x = .slice B zs.length bc)
    (hown : OwnStrs W base A c ds) (hI : StrsAt W W.heap.size B zs) (hl : ds.length + zs.length ≤ 2147483647) (hbase : base ≤ W.heap.size) (hB : B = none → bc = 0)
    (h : ∀ v w', AppendedS W base A ds.length c (ds ++ zs) v w' → K (a.put o.dst v) w') :
    if Region.wanted o (yielded ops a.tmps) = true then Oper.wp Tryz.prog o a W K Q else E := by
  have hw : Region.wanted o (yielded ops a.tmps) = true := by simp [Region.wanted, hgd]
  rw [if_pos hw]
  exact wp_app_strs s x ho W base A c ds hs B bc zs hx hown hI hl hbase hB h

/-- One element that was just laid in a block of its own. -/
theorem one_newS (W : World) (z : ByteArray) : StrsAt (W.alloc (.cells #[.string z] 9)) (W.alloc (.cells #[.string z] 9)).heap.size (some ⟨W.heap.size, 0, none⟩) [z] := fun _ => by
  refine ⟨W.heap.size, 0, rfl, by simp, fun k hk => ?_⟩
  have : k = 0 := by simp at hk; omega
  subst this
  have := cell_one_new W (.string z) 9 0 (.string z) rfl
  rw [Addr.add_lit] at this
  exact this

end Go.Proofs.YtkmebilhbjcfpaaGreat

namespace Go.Proofs.YtkmebilhbjcfpaaGreat

/-- Runs so far, and the run that is open: whether it is of bits that are set, and its length. -/
def stepR (s : List (Bool × Nat) × Bool × Nat) (b : Bool) : List (Bool × Nat) × Bool × Nat :=
  if b = s.2.1 then (s.1, s.2.1, s.2.2 + 1) else (s.1 ++ [(s.2.1, s.2.2)], b, 1)
def runSt (bs : List Bool) : List (Bool × Nat) × Bool × Nat := bs.foldl stepR ([], false, 0)
/-- The runs of bits. -/
def runsL (bs : List Bool) : List (Bool × Nat) := (runSt bs).1 ++ (if 0 < (runSt bs).2.2 then [((runSt bs).2.1, (runSt bs).2.2)] else [])
theorem take_bth (bs : List Bool) (k : Nat) (h : k < bs.length) : bs.take (k + 1) = bs.take k ++ [bth bs k] := by
  rw [List.take_succ_eq_append_getElem h, bth, List.getD_eq_getElem?_getD, List.getElem?_eq_getElem h]; rfl
theorem runSt_snoc (bs : List Bool) (b : Bool) : runSt (bs ++ [b]) = stepR (runSt bs) b := by unfold runSt; rw [List.foldl_append]; rfl
theorem runSt_next (bs : List Bool) (k : Nat) (h : k < bs.length) : runSt (bs.take (k + 1)) = stepR (runSt (bs.take k)) (bth bs k) := by rw [take_bth bs k h, runSt_snoc]
theorem runSt_same {bs : List Bool} {k : Nat} (h : k < bs.length) {R : List (Bool × Nat)} {s : Bool} {n : Nat} (hs : runSt (bs.take k) = (R, s, n)) (hb : bth bs k = s) : runSt (bs.take (k + 1)) = (R, s, n + 1) := by
  rw [runSt_next bs k h, hs, stepR, if_pos hb]
theorem runSt_other {bs : List Bool} {k : Nat} (h : k < bs.length) {R : List (Bool × Nat)} {s : Bool} {n : Nat} (hs : runSt (bs.take k) = (R, s, n)) (hb : ¬ bth bs k = s) : runSt (bs.take (k + 1)) = (R ++ [(s, n)], bth bs k, 1) := by
  rw [runSt_next bs k h, hs, stepR, if_neg hb]
/-- Few runs, none longer than the list. -/
theorem runSt_le (bs : List Bool) : (runSt bs).1.length ≤ bs.length ∧ (runSt bs).2.2 ≤ bs.length ∧ ∀ p ∈ (runSt bs).1, p.2 ≤ bs.length := by
  have rev : ∀ l : List Bool, (runSt l.reverse).1.length ≤ l.length ∧ (runSt l.reverse).2.2 ≤ l.length ∧ ∀ p ∈ (runSt l.reverse).1, p.2 ≤ l.length := by
    intro l
    induction l with
    | nil => exact ⟨Nat.le_refl _, Nat.le_refl _, fun p hp => by cases hp⟩
    | cons b l ih =>
      obtain ⟨h1, h2, h3⟩ := ih
      rw [List.reverse_cons, runSt_snoc, stepR]
      split
      · exact ⟨by simp; omega, by simp; omega, fun p hp => by have := h3 p hp; simp; omega⟩
      · refine ⟨by simp; omega, by simp, fun p hp => ?_⟩
        rcases List.mem_append.1 hp with hp | hp
        · have := h3 p hp; simp; omega
        · have : p = ((runSt l.reverse).2.1, (runSt l.reverse).2.2) := by simpa using hp
          subst this
          simp; omega
  have := rev bs.reverse
  rwa [List.reverse_reverse, List.length_reverse] at this
theorem runsL_length (bs : List Bool) : (runsL bs).length ≤ bs.length + 1 := by
  have := (runSt_le bs).1
  unfold runsL
  rw [List.length_append]
  split <;> simp <;> omega

/-- The number of bits that are set. -/
def cntB (bs : List Bool) : Nat := bs.foldl (fun n b => if b then n + 1 else n) 0
theorem cntB_snoc (bs : List Bool) (b : Bool) : cntB (bs ++ [b]) = cntB bs + (if b then 1 else 0) := by
  unfold cntB
  rw [List.foldl_append]
  cases b <;> rfl
theorem cntB_next (bs : List Bool) (k : Nat) (h : k < bs.length) : cntB (bs.take (k + 1)) = cntB (bs.take k) + (if bth bs k then 1 else 0) := by rw [take_bth bs k h, cntB_snoc]
/-- The lengths of the runs of bits that are set, together. -/
def sumSet (rs : List (Bool × Nat)) : Nat := rs.foldl (fun n p => if p.1 then n + p.2 else n) 0
theorem sumSet_snoc (rs : List (Bool × Nat)) (p : Bool × Nat) : sumSet (rs ++ [p]) = sumSet rs + (if p.1 then p.2 else 0) := by
  unfold sumSet
  rw [List.foldl_append]
  obtain ⟨s, n⟩ := p
  cases s <;> rfl
theorem cnt_runSt : ∀ bs : List Bool, cntB bs = sumSet (runSt bs).1 + (if (runSt bs).2.1 then (runSt bs).2.2 else 0) := by
  have rev : ∀ l : List Bool, cntB l.reverse = sumSet (runSt l.reverse).1 + (if (runSt l.reverse).2.1 then (runSt l.reverse).2.2 else 0) := by
    intro l
    induction l with
    | nil => rfl
    | cons b l ih =>
      rw [List.reverse_cons, runSt_snoc, cntB_snoc, ih, stepR]
      by_cases hb : b = (runSt l.reverse).2.1
      · rw [if_pos hb]
        subst hb
        cases (runSt l.reverse).2.1 <;> simp <;> omega
      · rw [if_neg hb]
        dsimp only
        rw [sumSet_snoc]
  intro bs
  have := rev bs.reverse
  rwa [List.reverse_reverse] at this
theorem sumSet_runsL (bs : List Bool) : sumSet (runsL bs) = cntB bs := by
  rw [cnt_runSt, runsL]
  split
  · rw [sumSet_snoc]
  · rw [List.append_nil]
    have : (runSt bs).2.2 = 0 := by omega
    rw [this]
    simp
theorem cntB_le (bs : List Bool) : cntB bs ≤ bs.length := by
  have rev : ∀ l : List Bool, cntB l.reverse ≤ l.length := by
    intro l
    induction l with
    | nil => exact Nat.le_refl _
    | cons b l ih => rw [List.reverse_cons, cntB_snoc]; cases b <;> simp <;> omega
  have := rev bs.reverse
  rwa [List.reverse_reverse, List.length_reverse] at this

/-- A run that yield is handed: short. -/
structure Run where
  set : Bool
  len : Nat
  small : len ≤ 16
def Run.pair (r : Run) : Bool × Nat := (r.set, r.len)
theorem sumSet_small (rs : List Run) : sumSet (rs.map Run.pair) ≤ 16 * rs.length := by
  have rev : ∀ l : List Run, sumSet (l.reverse.map Run.pair) ≤ 16 * l.length := by
    intro l
    induction l with
    | nil => exact Nat.le_refl _
    | cons r l ih =>
      rw [List.reverse_cons, List.map_append, List.map_cons, List.map_nil, sumSet_snoc]
      have := r.small
      have h2 : (if r.pair.1 then r.pair.2 else 0) ≤ 16 := by
        split
        · exact this
        · omega
      simp only [List.length_cons]
      omega
  have := rev rs.reverse
  rwa [List.reverse_reverse, List.length_reverse] at this

end Go.Proofs.YtkmebilhbjcfpaaGreat

namespace Go.Proofs.YtkmebilhbjcfpaaGreat
open Go.RowKit Go.Shelf
set_option linter.unusedVariables false

attribute [local go_sem] Oper.semAt_some

/-- What yield is handed. -/
abbrev runVals (r : Run) : Array Value := #[.bool r.set, .int .i64 (r.len : Int)]







end Go.Proofs.YtkmebilhbjcfpaaGreat

namespace Go.Proofs.YtkmebilhbjcfpaaGreat
open Go.RowKit Go.Shelf
set_option linter.unusedVariables false





section
attribute [local go_sem] Oper.semAt_some



end





/-- What BitsCount answers. -/
def countOr (bs : List Bool) : Int := if bs.length ≤ 16 then (cntB bs : Int) else -1
theorem countOr_yes {bs : List Bool} (h : bs.length ≤ 16) : countOr bs = (cntB bs : Int) := if_pos h
theorem countOr_no {bs : List Bool} (h : 16 < bs.length) : countOr bs = -1 := if_neg (by omega)



set_option maxHeartbeats 1000000 in
theorem scount_any (A : Option Addr) (cap : Nat) (bs : List Bool) (w : World) (hI : BoolsAt w w.heap.size A bs) (hm : bs.length ≤ maxLen) :
    Calls Tryz.prog 58 #[.slice A bs.length cap] w fun e w' => e = .returned (.int .i64 (cntB bs : Int)) ∧ w = w' := by
  unfold maxLen at hm
  have HI := Lib.hid hI
  clear hI
  obtain ⟨m, HM⟩ : ∃ m, Hid (bs.length = m) := ⟨_, rfl⟩
  rw [HM.out] at hm ⊢
  go_enter Tryz.func58, Tryz.ntmps58
  go_wp2
  go_loop [3, 4] (fun x i => ∃ k c : Nat, k ≤ m ∧ c ≤ k ∧ i = .int .i64 k ∧ x = .int .i64 c ∧ Hid (cntB (bs.take k) = c)) (fun _ i => m - (intOf i).toNat)
  case atStart => exact ⟨0, 0, by omega, by omega, rfl, rfl, rfl⟩
  case round =>
    obtain ⟨k, c, hk, hc, rfl, rfl, HC⟩ := hrel
    by_cases hlt : k < m
    · have hkz : k < bs.length := by rw [HM.out]; exact hlt
      obtain ⟨b, o, rfl, hb, hcs⟩ := HI.out (by omega)
      have hck := hcs k hkz
      have hki : (k : Int) < (m : Int) := by omega
      have hn := cntB_next bs k hkz
      rw [HC.out] at hn
      cases hv : bth bs k with
      | true =>
        rw [hv] at hck hn
        have HN : Hid (cntB (bs.take (k + 1)) = c + 1) := hn
        clear hn hcs hv hkz
        go_wp2
        go_round
        case rel => exact ⟨k + 1, c + 1, by omega, by omega, by go_num, by go_num, HN⟩
        case measure => simp [intOf]; omega
      | false =>
        rw [hv] at hck hn
        have HN : Hid (cntB (bs.take (k + 1)) = c) := hn
        clear hn hcs hv hkz
        go_wp2
        go_round
        case rel => exact ⟨k + 1, c, by omega, by omega, by go_num, rfl, HN⟩
        case measure => simp [intOf]; omega
    · have HE : Hid (c = cntB bs) := by
        show _ = _
        rw [← HC.out, List.take_of_length_le (by rw [HM.out]; omega)]
      go_wp2
      go_ret
      exact ⟨ret_int (by rw [HE.out]), rfl⟩



end Go.Proofs.YtkmebilhbjcfpaaGreat

namespace Go.Proofs.YtkmebilhbjcfpaaGreat
open Go.RowKit
set_option linter.unusedVariables false

theorem eqb_take (a b : List Bool) (k : Nat) (ha : k < a.length) (hb : k < b.length) (h : a.take k = b.take k) (e : bth a k = bth b k) : a.take (k + 1) = b.take (k + 1) := by
  rw [List.take_succ_eq_append_getElem ha, List.take_succ_eq_append_getElem hb, h]
  unfold bth at e
  rw [List.getD_eq_getElem?_getD, List.getD_eq_getElem?_getD, List.getElem?_eq_getElem ha, List.getElem?_eq_getElem hb] at e
  simp at e
  rw [e]
theorem eqb_ne (a b : List Bool) (k : Nat) (e : bth a k ≠ bth b k) : decide (a = b) = false := by
  rw [decide_eq_false_iff_not]
  intro h
  subst h
  exact e rfl

set_option maxHeartbeats 1000000 in
theorem eqb_any (A : Option Addr) (cap : Nat) (xs : List Bool) (A1 : Option Addr) (cap1 : Nat) (ys : List Bool) (w : World) (hI : BoolsAt w w.heap.size A xs) (hJ : BoolsAt w w.heap.size A1 ys) (hm : xs.length ≤ maxLen) (hm1 : ys.length ≤ maxLen) :
    Calls Tryz.prog 136 #[.slice A xs.length cap, .slice A1 ys.length cap1] w fun e w' => e = .returned (.bool (decide (xs = ys))) ∧ ∃ q, w' = w.drewN q := by
  unfold maxLen at hm hm1
  have HI := Lib.hid hI
  have HJ := Lib.hid hJ
  clear hI hJ
  by_cases hl : xs.length = ys.length
  · obtain ⟨n, HN⟩ : ∃ n, Hid (xs.length = n) := ⟨_, rfl⟩
    have HN1 : Hid (ys.length = n) := by show _ = _; rw [← hl]; exact HN.out
    rw [HN.out] at hm ⊢
    rw [HN1.out] at hm1 ⊢
    clear hl
    go_enter Tryz.func136, Tryz.ntmps136
    go_wp2
    go_loopw [5] (fun i w' => ∃ k : Nat, k ≤ n ∧ i = .int .i64 k ∧ Hid (xs.take k = ys.take k) ∧ ∃ q, w' = w.drewN q) (fun i _ => n - (intOf i).toNat)
    case atStart => exact ⟨0, Nat.zero_le _, rfl, rfl, 0, rfl⟩
    case round =>
      obtain ⟨k, hk, rfl, HD, q, rfl⟩ := hrel
      by_cases hlt : k < n
      · have hlx : k < xs.length := by rw [HN.out]; exact hlt
        have hly : k < ys.length := by rw [HN1.out]; exact hlt
        obtain ⟨b, o, rfl, hb, hc⟩ := HI.out (by omega)
        obtain ⟨b1, o1, rfl, hb1, hc1⟩ := HJ.out (by omega)
        have hck := hc k hlx
        have hck1 := hc1 k hly
        have hk0 : (0 : Int) ≤ (k : Int) := by omega
        have hk1 : (k : Int) < (n : Int) := by omega
        by_cases hv : bth xs k = bth ys k
        · have HT : Hid (xs.take (k + 1) = ys.take (k + 1)) := eqb_take xs ys k hlx hly HD.out hv
          have hvb : (!bth xs k == bth ys k) = false := by simp [hv]
          clear hc hc1 hlx hly hv
          go_wp2_with fail
          go_quiet (fail)
          go_wp2
          go_roundw
          case rel => exact ⟨k + 1, by omega, by go_num, HT, _, rfl⟩
          case measure => simp [intOf]; omega
        · have HE := Lib.hid (eqb_ne xs ys k hv)
          have hvb : (!bth xs k == bth ys k) = true := by simp [hv]
          clear hc hc1 hlx hly hv
          go_wp2_with fail
          go_quiet (fail)
          go_wp2
          go_ret
          exact ⟨ret_bool HE.out.symm, _, by first | rfl | exact World.drewN_drewN _ _ _⟩
      · have HE : Hid (decide (xs = ys) = true) := by
          show _ = _
          rw [decide_eq_true_iff]
          have := HD.out
          rw [List.take_of_length_le (by rw [HN.out]; omega), List.take_of_length_le (by rw [HN1.out]; omega)] at this
          exact this
        go_wp2
        go_ret
        exact ⟨ret_bool HE.out.symm, _, rfl⟩
  · have HE : Hid (decide (xs = ys) = false) := by show _ = _; rw [decide_eq_false_iff_not]; exact fun e => hl (by rw [e])
    have hne : ((xs.length : Int) != (ys.length : Int)) = true := by simp; omega
    clear hl
    go_enter Tryz.func136, Tryz.ntmps136
    go_wp2
    go_ret
    exact ⟨ret_bool HE.out.symm, 0, rfl⟩

end Go.Proofs.YtkmebilhbjcfpaaGreat

namespace Go.Proofs.YtkmebilhbjcfpaaGreat
open Go.RowKit
set_option linter.unusedVariables false

theorem sameb_take (a b : List Bool) (k : Nat) (ha : k < a.length) (hb : k < b.length) (h : a.take k = b.take k) (e : bth a k = bth b k) : a.take (k + 1) = b.take (k + 1) := by
  rw [List.take_succ_eq_append_getElem ha, List.take_succ_eq_append_getElem hb, h]
  unfold bth at e
  rw [List.getD_eq_getElem?_getD, List.getD_eq_getElem?_getD, List.getElem?_eq_getElem ha, List.getElem?_eq_getElem hb] at e
  simp at e
  rw [e]
theorem sameb_ne (a b : List Bool) (k : Nat) (e : bth a k ≠ bth b k) : decide (a = b) = false := by
  rw [decide_eq_false_iff_not]
  intro h
  subst h
  exact e rfl



end Go.Proofs.YtkmebilhbjcfpaaGreat

namespace Go.Proofs.YtkmebilhbjcfpaaGreat
open Go.RowKit
set_option linter.unusedVariables false

theorem eqs_take (a b : List ByteArray) (k : Nat) (ha : k < a.length) (hb : k < b.length) (h : a.take k = b.take k) (e : sth a k = sth b k) : a.take (k + 1) = b.take (k + 1) := by
  rw [List.take_succ_eq_append_getElem ha, List.take_succ_eq_append_getElem hb, h]
  unfold sth at e
  rw [List.getD_eq_getElem?_getD, List.getD_eq_getElem?_getD, List.getElem?_eq_getElem ha, List.getElem?_eq_getElem hb] at e
  simp at e
  rw [e]
theorem eqs_ne (a b : List ByteArray) (k : Nat) (e : sth a k ≠ sth b k) : decide (a = b) = false := by
  rw [decide_eq_false_iff_not]
  intro h
  subst h
  exact e rfl

set_option maxHeartbeats 1000000 in
theorem eqs_any (A : Option Addr) (cap : Nat) (xs : List ByteArray) (A1 : Option Addr) (cap1 : Nat) (ys : List ByteArray) (w : World) (hI : StrsAt w w.heap.size A xs) (hJ : StrsAt w w.heap.size A1 ys) (hm : xs.length ≤ maxLen) (hm1 : ys.length ≤ maxLen) :
    Calls Tryz.prog 135 #[.slice A xs.length cap, .slice A1 ys.length cap1] w fun e w' => e = .returned (.bool (decide (xs = ys))) ∧ ∃ q, w' = w.drewN q := by
  unfold maxLen at hm hm1
  have HI := Lib.hid hI
  have HJ := Lib.hid hJ
  clear hI hJ
  by_cases hl : xs.length = ys.length
  · obtain ⟨n, HN⟩ : ∃ n, Hid (xs.length = n) := ⟨_, rfl⟩
    have HN1 : Hid (ys.length = n) := by show _ = _; rw [← hl]; exact HN.out
    rw [HN.out] at hm ⊢
    rw [HN1.out] at hm1 ⊢
    clear hl
    go_enter Tryz.func135, Tryz.ntmps135
    go_wp2
    go_loopw [5] (fun i w' => ∃ k : Nat, k ≤ n ∧ i = .int .i64 k ∧ Hid (xs.take k = ys.take k) ∧ ∃ q, w' = w.drewN q) (fun i _ => n - (intOf i).toNat)
    case atStart => exact ⟨0, Nat.zero_le _, rfl, rfl, 0, rfl⟩
    case round =>
      obtain ⟨k, hk, rfl, HD, q, rfl⟩ := hrel
      by_cases hlt : k < n
      · have hlx : k < xs.length := by rw [HN.out]; exact hlt
        have hly : k < ys.length := by rw [HN1.out]; exact hlt
        obtain ⟨b, o, rfl, hb, hc⟩ := HI.out (by omega)
        obtain ⟨b1, o1, rfl, hb1, hc1⟩ := HJ.out (by omega)
        have hck := hc k hlx
        have hck1 := hc1 k hly
        have hk0 : (0 : Int) ≤ (k : Int) := by omega
        have hk1 : (k : Int) < (n : Int) := by omega
        by_cases hv : sth xs k = sth ys k
        · have HT : Hid (xs.take (k + 1) = ys.take (k + 1)) := eqs_take xs ys k hlx hly HD.out hv
          have hvb : ((sth xs k).toList == (sth ys k).toList) = true := by rw [hv]; simp
          clear hc hc1 hlx hly hv
          go_wp2_with fail
          go_quiet (fail)
          go_wp2
          go_roundw
          case rel => exact ⟨k + 1, by omega, by go_num, HT, _, rfl⟩
          case measure => simp [intOf]; omega
        · have HE := Lib.hid (eqs_ne xs ys k hv)
          have hvb : ((sth xs k).toList == (sth ys k).toList) = false := by rw [beq_eq_false_iff_ne]; exact fun e => hv (toList_inj e)
          clear hc hc1 hlx hly hv
          go_wp2_with fail
          go_quiet (fail)
          go_wp2
          go_ret
          exact ⟨ret_bool HE.out.symm, _, by first | rfl | exact World.drewN_drewN _ _ _⟩
      · have HE : Hid (decide (xs = ys) = true) := by
          show _ = _
          rw [decide_eq_true_iff]
          have := HD.out
          rw [List.take_of_length_le (by rw [HN.out]; omega), List.take_of_length_le (by rw [HN1.out]; omega)] at this
          exact this
        go_wp2
        go_ret
        exact ⟨ret_bool HE.out.symm, _, rfl⟩
  · have HE : Hid (decide (xs = ys) = false) := by show _ = _; rw [decide_eq_false_iff_not]; exact fun e => hl (by rw [e])
    have hne : ((xs.length : Int) != (ys.length : Int)) = true := by simp; omega
    clear hl
    go_enter Tryz.func135, Tryz.ntmps135
    go_wp2
    go_ret
    exact ⟨ret_bool HE.out.symm, 0, rfl⟩

end Go.Proofs.YtkmebilhbjcfpaaGreat

namespace Go.Proofs.YtkmebilhbjcfpaaGreat
open Go.RowKit
set_option linter.unusedVariables false

theorem sames_take (a b : List ByteArray) (k : Nat) (ha : k < a.length) (hb : k < b.length) (h : a.take k = b.take k) (e : sth a k = sth b k) : a.take (k + 1) = b.take (k + 1) := by
  rw [List.take_succ_eq_append_getElem ha, List.take_succ_eq_append_getElem hb, h]
  unfold sth at e
  rw [List.getD_eq_getElem?_getD, List.getD_eq_getElem?_getD, List.getElem?_eq_getElem ha, List.getElem?_eq_getElem hb] at e
  simp at e
  rw [e]
theorem sames_ne (a b : List ByteArray) (k : Nat) (e : sth a k ≠ sth b k) : decide (a = b) = false := by
  rw [decide_eq_false_iff_not]
  intro h
  subst h
  exact e rfl



end Go.Proofs.YtkmebilhbjcfpaaGreat

namespace Go.Proofs.YtkmebilhbjcfpaaGreat
open Go.RowKit
set_option linter.unusedVariables false

theorem madeCells_vals (n : Nat) : madeCells #[Value.int .i64 0] n = (vals (zerosZ n)).toArray := by
  apply Array.ext'
  rw [toList_madeCells_one]
  simp [vals, zerosZ]
theorem own_made (w : World) (n : Nat) (hn : n ≤ 1048576) : OwnInts (w.alloc (.cells (vals (zerosZ n)).toArray 3)) w.heap.size (some ⟨w.heap.size, 0, none⟩) n (zerosZ n) := by
  have := World.ownsRow_lit (e := 3) (size := 1) w (vals (zerosZ n)).toArray n (Nat.le_refl _) (by unfold maxLen; omega) (by rw [List.size_toArray, vals_length, zerosZ_length]; omega)
  unfold OwnInts
  rw [zerosZ_length]
  exact this
theorem own_stored {w : World} {base b cap : Nat} {zs : List Int} (h : OwnInts w base (some ⟨b, 0, none⟩) cap zs) (j : Nat) (x : Int) : OwnInts (w.setCell ⟨b, j, none⟩ (.int .i64 x)) base (some ⟨b, 0, none⟩) cap (zs.set j x) ∧ w.grownBy (w.setCell ⟨b, j, none⟩ (.int .i64 x)) (some b) := by
  have := World.ownsRow.stored h j (.int .i64 x)
  refine ⟨?_, this.2⟩
  unfold OwnInts
  rw [List.length_set]
  have e : vals (zs.set j x) = (vals zs).set j (i64 x) := by unfold vals; rw [List.map_set]
  rw [e]
  exact this.1
theorem own_cell {w : World} {base b cap : Nat} {zs : List Int} (h : OwnInts w base (some ⟨b, 0, none⟩) cap zs) (j : Nat) (hj : j < zs.length) : w.cell? ⟨b, j, none⟩ = some (.int .i64 (nth zs j)) ∧ w.frozen? ⟨b, j, none⟩ = false := by
  have h1 := (h.ints.lt (by omega)).2 j hj
  rw [Nat.zero_add] at h1
  exact ⟨h1, World.ownsRow.frozenAt h j⟩
theorem copy_step (zs : List Int) (k n : Nat) (hn : zs.length = n) (hk : k < n) : (zs.take k ++ zerosZ (n - k)).set k (nth zs k) = zs.take (k + 1) ++ zerosZ (n - (k + 1)) := by
  have hl : (zs.take k).length = k := by rw [List.length_take]; omega
  have e : n - k = (n - (k + 1)) + 1 := by omega
  have hz : zerosZ (n - k) = 0 :: zerosZ (n - (k + 1)) := by rw [e]; rfl
  have ht : zs.take (k + 1) = zs.take k ++ [nth zs k] := by
    rw [List.take_succ_eq_append_getElem (by omega), nth, List.getD_eq_getElem?_getD, List.getElem?_eq_getElem (by omega)]; rfl
  rw [hz, ht, List.set_append_right _ _ (by omega), hl, Nat.sub_self, List.append_assoc]
  rfl
theorem nth_zeros (zs : List Int) (k n : Nat) (hn : zs.length = n) (hk : k < n) : (zs.take k ++ zerosZ (n - k)).length = n := by rw [List.length_append, List.length_take, zerosZ_length]; omega

def Copied (w : World) (zs : List Int) (e : Ending) (w' : World) : Prop :=
  e = .returned (.slice (some ⟨w.heap.size, 0, none⟩) zs.length zs.length) ∧ OwnInts w' w.heap.size (some ⟨w.heap.size, 0, none⟩) zs.length zs ∧ Below w.heap.size w w'

set_option maxHeartbeats 2000000 in
theorem toInts_any (A : Option Addr) (cap : Nat) (zs : List Int) (w : World) (hI : IntsAt w w.heap.size A zs) (hm : zs.length ≤ 1048576) :
    Calls Tryz.prog 116 #[.slice A zs.length cap] w (Copied w zs) := by
  have HI := Lib.hid hI
  obtain ⟨n, HN⟩ : ∃ n, Hid (zs.length = n) := ⟨_, rfl⟩
  rw [HN.out] at hm ⊢
  clear hI
  have hmk := run_make_row' (P := Tryz.prog) 39 3 (.int .i64 0) 8 Tryz.underlying39 int_info rfl .i64 .i64 n (by omega) (by omega)
  simp only [madeCells_vals] at hmk
  go_enter Tryz.func116, Tryz.ntmps116
  go_wp2
  clear hmk
  go_loopw [4] (fun i w' => ∃ k : Nat, k ≤ n ∧ i = .int .i64 k ∧ Hid (OwnInts w' w.heap.size (some ⟨w.heap.size, 0, none⟩) n (zs.take k ++ zerosZ (n - k))) ∧ Hid (Below w.heap.size w w')) (fun i _ => n - (intOf i).toNat)
  case atStart => exact ⟨0, by omega, rfl, (by show OwnInts _ _ _ _ _; have := own_made w n hm; simpa using this), (Below.refl _ _).alloc (Nat.le_refl _) _⟩
  case round =>
    obtain ⟨k, hk, rfl, HO, HB⟩ := hrel
    by_cases hlt : k < n
    · have hkz : k < zs.length := by rw [HN.out]; exact hlt
      obtain ⟨b, o, rfl, hb, hc⟩ := (HI.out.below HB.out (Nat.le_refl _)) (by omega)
      have hck := hc k hkz
      have hlen := nth_zeros zs k n HN.out hlt
      obtain ⟨hcx, hfx⟩ := own_cell HO.out k (by omega)
      have hki : (k : Int) < (n : Int) := by omega
      have hs := own_stored HO.out k (nth zs k)
      rw [copy_step zs k n HN.out hlt] at hs
      have HS := Lib.hid hs.1
      have HBS : Hid (Below w.heap.size w (wr.setCell ⟨w.heap.size, k, none⟩ (.int .i64 (nth zs k)))) := HB.out.setCell (p := ⟨w.heap.size, k, none⟩) (Nat.le_refl _) _
      have hne : b ≠ w.heap.size := by omega
      clear hc hkz hlen hs
      go_wp2
      go_roundw
      case rel => exact ⟨k + 1, by omega, by go_num, HS, HBS⟩
      case measure => simp [intOf]; omega
    · have hkn : k = n := by omega
      subst hkn
      have ho := HO.out
      rw [Nat.sub_self, List.take_of_length_le (by rw [HN.out]; omega)] at ho
      have HO' : Hid (OwnInts wr w.heap.size (some ⟨w.heap.size, 0, none⟩) k zs) := by show OwnInts _ _ _ _ _; simpa [zerosZ] using ho
      clear ho
      go_wp2
      go_ret
      refine ⟨?_, ?_, HB.out⟩
      · rw [HN.out]; rfl
      · rw [HN.out]; exact HO'.out

/-- The numbers from j on. -/
def marks : Nat → Nat → List Int
  | _, 0 => []
  | j, n + 1 => (j : Int) :: marks (j + 1) n
theorem marks_length : ∀ j n, (marks j n).length = n := by
  intro j n
  induction n generalizing j with
  | zero => rfl
  | succ n ih => show (marks (j + 1) n).length + 1 = n + 1; rw [ih]
theorem marks_nth : ∀ j n k, k < n → nth (marks j n) k = ((j + k : Nat) : Int) := by
  intro j n
  induction n generalizing j with
  | zero => intro k h; omega
  | succ n ih =>
    intro k h
    cases k with
    | zero => rfl
    | succ k =>
      have := ih (j + 1) k (by omega)
      show nth (marks (j + 1) n) k = _
      rw [this, Nat.add_assoc, Nat.add_comm 1 k]
theorem marks_snoc : ∀ j k, marks j (k + 1) = marks j k ++ [((j + k : Nat) : Int)] := by
  intro j k
  induction k generalizing j with
  | zero => rfl
  | succ k ih =>
    show (j : Int) :: marks (j + 1) (k + 1) = (j : Int) :: marks (j + 1) k ++ [_]
    rw [ih (j + 1), Nat.add_assoc, Nat.add_comm 1 k]
    rfl
theorem marks_step (zs : List Int) (j k : Nat) (hk : k < zs.length) : (marks j k ++ zs.drop k).set k ((j + k : Nat) : Int) = marks j (k + 1) ++ zs.drop (k + 1) := by
  have hd := List.drop_eq_getElem_cons hk
  rw [marks_snoc, List.set_append_right _ _ (by rw [marks_length]; omega), marks_length, Nat.sub_self, hd, List.append_assoc]
  rfl

def Marked (w : World) (base : Nat) (A : Option Addr) (cap n : Nat) (e : Ending) (w' : World) : Prop :=
  e = .returned (.int .i64 ((1 + n : Nat) : Int)) ∧ OwnInts w' base A cap (marks 1 n) ∧ (∀ b, A = some ⟨b, 0, none⟩ → w.grownBy w' (some b)) ∧ (A = none → w = w')

set_option maxHeartbeats 2000000 in
theorem mark_some (base b cap : Nat) (zs : List Int) (w : World) (hO : OwnInts w base (some ⟨b, 0, none⟩) cap zs) (hm : zs.length ≤ 1048576) :
    Calls Tryz.prog 14 #[.slice (some ⟨b, 0, none⟩) zs.length cap, .int .i64 1] w (Marked w base (some ⟨b, 0, none⟩) cap zs.length) := by
  have HO := Lib.hid hO
  obtain ⟨n, HN⟩ : ∃ n, Hid (zs.length = n) := ⟨_, rfl⟩
  rw [HN.out] at hm ⊢
  clear hO
  go_enter Tryz.func14, Tryz.ntmps14
  go_wp2
  go_loopw [1, 5] (fun x i w' => ∃ k : Nat, k ≤ n ∧ x = .int .i64 ((1 + k : Nat) : Int) ∧ i = .int .i64 k ∧ Hid (OwnInts w' base (some ⟨b, 0, none⟩) cap (marks 1 k ++ zs.drop k)) ∧ Hid (w.grownBy w' (some b))) (fun _ i _ => n - (intOf i).toNat)
  case atStart => exact ⟨0, by omega, rfl, rfl, HO, World.grownBy.refl _ _⟩
  case round =>
    obtain ⟨k, hk, rfl, rfl, HO1, HG⟩ := hrel
    by_cases hlt : k < n
    · have hkz : k < zs.length := by rw [HN.out]; exact hlt
      have hlen : (marks 1 k ++ zs.drop k).length = n := by rw [List.length_append, marks_length, List.length_drop, HN.out]; omega
      obtain ⟨hcx, hfx⟩ := own_cell HO1.out k (by omega)
      have hki : (k : Int) < (n : Int) := by omega
      have hs := own_stored HO1.out k ((1 + k : Nat) : Int)
      rw [marks_step zs 1 k hkz] at hs
      have HS := Lib.hid hs.1
      have HGS : Hid (w.grownBy (wr.setCell ⟨b, k, none⟩ (.int .i64 ((1 + k : Nat) : Int))) (some b)) := World.grownBy.trans HG.out hs.2
      clear hkz hlen hs
      have hcast : ((1 + k : Nat) : Int) = 1 + (k : Int) := by omega
      rw [hcast] at HS HGS
      clear hcast
      go_wp2
      go_roundw
      case rel => exact ⟨k + 1, by omega, by go_num, by go_num, HS, HGS⟩
      case measure => simp [intOf]; omega
    · have hkn : k = n := by omega
      subst hkn
      have ho := HO1.out
      rw [List.drop_eq_nil_of_le (by rw [HN.out]; omega), List.append_nil] at ho
      have HO' := Lib.hid ho
      clear ho
      go_wp2
      go_ret
      exact ⟨ret_int (by simp), HO'.out, (fun b' e => by injection e with e; injection e with e _ _; subst e; exact HG.out), (fun e => by cases e)⟩

set_option maxHeartbeats 800000 in
theorem mark_any (base : Nat) (A : Option Addr) (cap : Nat) (zs : List Int) (w : World) (hO : OwnInts w base A cap zs) (hm : zs.length ≤ 1048576) :
    Calls Tryz.prog 14 #[.slice A zs.length cap, .int .i64 1] w (Marked w base A cap zs.length) := by
  rcases A with _ | ad
  · have h0 : zs = [] := by
      cases zs with
      | nil => rfl
      | cons z zs => obtain ⟨b, o, e, _⟩ := hO.ints (by simp); cases e
    subst h0
    have HO := Lib.hid hO
    clear hO
    go_enter Tryz.func14, Tryz.ntmps14
    go_wp2
    go_loop [1, 5] (fun x i => x = .int .i64 1 ∧ i = .int .i64 0) (fun _ _ => 0)
    case atStart => exact ⟨rfl, rfl⟩
    case round =>
      obtain ⟨rfl, rfl⟩ := hrel
      go_wp2
      go_ret
      exact ⟨rfl, HO.out, (fun b e => by cases e), fun _ => rfl⟩
  · have : ∃ b, ad = ⟨b, 0, none⟩ := by
      rcases hO.2 with ⟨hv, _⟩ | ⟨g, c, cur, hv, _⟩
      · injection hv with hA _ _; cases hA
      · injection hv with hA _ _; injection hA with hA; exact ⟨g, hA⟩
    obtain ⟨b, rfl⟩ := this
    exact mark_some base b cap zs w hO hm

set_option maxHeartbeats 2000000 in
theorem held_any (A : Option Addr) (cap n : Nat) (w : World) (hI : IntsAt w w.heap.size A (marks 1 n)) (hm : n ≤ 1048576) :
    Calls Tryz.prog 15 #[.slice A n cap, .int .i64 1] w fun e w' => e = .returned (.int .i64 ((1 + n : Nat) : Int)) ∧ w = w' := by
  have HI := Lib.hid hI
  clear hI
  go_enter Tryz.func15, Tryz.ntmps15
  go_wp2
  go_loop [1, 5] (fun x i => ∃ k : Nat, k ≤ n ∧ x = .int .i64 ((1 + k : Nat) : Int) ∧ i = .int .i64 k) (fun _ i => n - (intOf i).toNat)
  case atStart => exact ⟨0, by omega, rfl, rfl⟩
  case round =>
    obtain ⟨k, hk, rfl, rfl⟩ := hrel
    by_cases hlt : k < n
    · obtain ⟨b, o, rfl, hb, hc⟩ := HI.out (by rw [marks_length]; omega)
      have hck := hc k (by rw [marks_length]; exact hlt)
      rw [marks_nth 1 n k hlt] at hck
      have hki : (k : Int) < (n : Int) := by omega
      have hcast : ((1 + k : Nat) : Int) = 1 + (k : Int) := by omega
      rw [hcast] at hck
      have hnn : ((1 + (k : Int)) != (1 + (k : Int))) = false := by simp
      clear hc hcast
      go_wp2
      go_round
      case rel => exact ⟨k + 1, by omega, by go_num, by go_num⟩
      case measure => simp [intOf]; omega
    · have hkn : k = n := by omega
      subst hkn
      go_wp2
      go_ret
      exact ⟨ret_int (by simp), rfl⟩

/-- From what a row's reading tells of a slice of integers (IsRow) to what my contracts ask of it. -/
theorem ints_of_row {w : World} {a : Option Addr} {len cap : Nat} {zs : List Int} (h : IsRow .i64 w a len cap zs) : IntsAt w w.heap.size a (zs.take len) ∧ (zs.take len).length = len ∧ len ≤ maxLen := by
  rcases h with ⟨rfl, rfl, rfl, rfl⟩ | ⟨x, rfl, hl, hm, hz, hc, hw⟩
  · exact ⟨IntsAt.nil, rfl, by simp [maxLen]⟩
  · have hlen : (zs.take len).length = len := by rw [List.length_take]; omega
    refine ⟨fun hn => ?_, hlen, Nat.le_trans hl hm⟩
    rw [hlen] at hn
    obtain ⟨b, o, sp⟩ := x
    have hs := World.cell?_spot (hc 0 (by omega))
    have hs0 : sp = none := by simpa [Addr.add] using hs
    subst hs0
    have hcell : ∀ k, k < zs.length → w.cell? ⟨b, o + k, none⟩ = some (.int .i64 (zs.getD k 0)) := fun k hk => by
      have := hc k hk
      rw [Addr.add_lit] at this
      exact this
    have h0 := hcell 0 (by omega)
    refine ⟨b, o, rfl, World.block_lt_of_cell? w _ h0, fun k hk => ?_⟩
    rw [hlen] at hk
    rw [hcell k (by omega)]
    unfold nth
    rw [List.getD_eq_getElem?_getD, List.getD_eq_getElem?_getD, List.getElem?_take_of_lt hk]

end Go.Proofs.YtkmebilhbjcfpaaGreat

namespace Go.Proofs.YtkmebilhbjcfpaaGreat
open Go.RowKit
set_option linter.unusedVariables false

def noB (k : Nat) : List Bool := List.replicate k false
theorem noB_length (k : Nat) : (noB k).length = k := List.length_replicate
theorem madeCells_bals (n : Nat) : madeCells #[Value.bool false] n = (bals (noB n)).toArray := by
  apply Array.ext'
  rw [toList_madeCells_one]
  simp [bals, noB]
theorem ownb_made (w : World) (n : Nat) (hn : n ≤ 1048576) : OwnBools (w.alloc (.cells (bals (noB n)).toArray 4)) w.heap.size (some ⟨w.heap.size, 0, none⟩) n (noB n) := by
  have := World.ownsRow_lit (e := 4) (size := 1) w (bals (noB n)).toArray n (Nat.le_refl _) (by unfold maxLen; omega) (by rw [List.size_toArray, bals_length, noB_length]; omega)
  unfold OwnBools
  rw [noB_length]
  exact this
theorem ownb_stored {w : World} {base b cap : Nat} {zs : List Bool} (h : OwnBools w base (some ⟨b, 0, none⟩) cap zs) (j : Nat) (x : Bool) : OwnBools (w.setCell ⟨b, j, none⟩ (.bool x)) base (some ⟨b, 0, none⟩) cap (zs.set j x) ∧ w.grownBy (w.setCell ⟨b, j, none⟩ (.bool x)) (some b) := by
  have := World.ownsRow.stored h j (.bool x)
  refine ⟨?_, this.2⟩
  unfold OwnBools
  rw [List.length_set]
  have e : bals (zs.set j x) = (bals zs).set j (vb x) := by unfold bals; rw [List.map_set]
  rw [e]
  exact this.1
theorem ownb_cell {w : World} {base b cap : Nat} {zs : List Bool} (h : OwnBools w base (some ⟨b, 0, none⟩) cap zs) (j : Nat) (hj : j < zs.length) : w.cell? ⟨b, j, none⟩ = some (.bool (bth zs j)) ∧ w.frozen? ⟨b, j, none⟩ = false := by
  have h1 := (h.ints.lt (by omega)).2 j hj
  rw [Nat.zero_add] at h1
  exact ⟨h1, World.ownsRow.frozenAt h j⟩
theorem copyb_step (zs : List Bool) (k n : Nat) (hn : zs.length = n) (hk : k < n) : (zs.take k ++ noB (n - k)).set k (bth zs k) = zs.take (k + 1) ++ noB (n - (k + 1)) := by
  have hl : (zs.take k).length = k := by rw [List.length_take]; omega
  have e : n - k = (n - (k + 1)) + 1 := by omega
  have hz : noB (n - k) = false :: noB (n - (k + 1)) := by rw [e]; rfl
  have ht : zs.take (k + 1) = zs.take k ++ [bth zs k] := by
    rw [List.take_succ_eq_append_getElem (by omega), bth, List.getD_eq_getElem?_getD, List.getElem?_eq_getElem (by omega)]; rfl
  rw [hz, ht, List.set_append_right _ _ (by omega), hl, Nat.sub_self, List.append_assoc]
  rfl
theorem bth_noB (zs : List Bool) (k n : Nat) (hn : zs.length = n) (hk : k < n) : (zs.take k ++ noB (n - k)).length = n := by rw [List.length_append, List.length_take, noB_length]; omega

def CopiedB (w : World) (zs : List Bool) (e : Ending) (w' : World) : Prop :=
  e = .returned (.slice (some ⟨w.heap.size, 0, none⟩) zs.length zs.length) ∧ OwnBools w' w.heap.size (some ⟨w.heap.size, 0, none⟩) zs.length zs ∧ Below w.heap.size w w'

set_option maxHeartbeats 2000000 in
theorem toBools_any (A : Option Addr) (cap : Nat) (zs : List Bool) (w : World) (hI : BoolsAt w w.heap.size A zs) (hm : zs.length ≤ 1048576) :
    Calls Tryz.prog 114 #[.slice A zs.length cap] w (CopiedB w zs) := by
  have HI := Lib.hid hI
  obtain ⟨n, HN⟩ : ∃ n, Hid (zs.length = n) := ⟨_, rfl⟩
  rw [HN.out] at hm ⊢
  clear hI
  have hmk := run_make_row' (P := Tryz.prog) 54 4 (.bool false) 1 Tryz.underlying54 bool_info rfl .i64 .i64 n (by omega) (by omega)
  simp only [madeCells_bals] at hmk
  go_enter Tryz.func114, Tryz.ntmps114
  go_wp2
  clear hmk
  go_loopw [4] (fun i w' => ∃ k : Nat, k ≤ n ∧ i = .int .i64 k ∧ Hid (OwnBools w' w.heap.size (some ⟨w.heap.size, 0, none⟩) n (zs.take k ++ noB (n - k))) ∧ Hid (Below w.heap.size w w')) (fun i _ => n - (intOf i).toNat)
  case atStart => exact ⟨0, by omega, rfl, (by show OwnBools _ _ _ _ _; have := ownb_made w n hm; simpa using this), (Below.refl _ _).alloc (Nat.le_refl _) _⟩
  case round =>
    obtain ⟨k, hk, rfl, HO, HB⟩ := hrel
    by_cases hlt : k < n
    · have hkz : k < zs.length := by rw [HN.out]; exact hlt
      obtain ⟨b, o, rfl, hb, hc⟩ := (HI.out.below HB.out (Nat.le_refl _)) (by omega)
      have hck := hc k hkz
      have hlen := bth_noB zs k n HN.out hlt
      obtain ⟨hcx, hfx⟩ := ownb_cell HO.out k (by omega)
      have hki : (k : Int) < (n : Int) := by omega
      have hs := ownb_stored HO.out k (bth zs k)
      rw [copyb_step zs k n HN.out hlt] at hs
      have HS := Lib.hid hs.1
      have HBS : Hid (Below w.heap.size w (wr.setCell ⟨w.heap.size, k, none⟩ (.bool (bth zs k)))) := HB.out.setCell (p := ⟨w.heap.size, k, none⟩) (Nat.le_refl _) _
      have hne : b ≠ w.heap.size := by omega
      clear hc hkz hlen hs
      go_wp2
      go_roundw
      case rel => exact ⟨k + 1, by omega, by go_num, HS, HBS⟩
      case measure => simp [intOf]; omega
    · have hkn : k = n := by omega
      subst hkn
      have ho := HO.out
      rw [Nat.sub_self, List.take_of_length_le (by rw [HN.out]; omega)] at ho
      have HO' : Hid (OwnBools wr w.heap.size (some ⟨w.heap.size, 0, none⟩) k zs) := by show OwnBools _ _ _ _ _; simpa [noB] using ho
      clear ho
      go_wp2
      go_ret
      refine ⟨?_, ?_, HB.out⟩
      · rw [HN.out]; rfl
      · rw [HN.out]; exact HO'.out

/-- The pattern that markBoolS writes, from j on. -/
def third (j : Int) : Bool := j % 3 == 0
theorem third_eq (j : Int) : (j % 3 == 0) = third j := rfl
def bmarks : Nat → Nat → List Bool
  | _, 0 => []
  | j, n + 1 => third (j : Int) :: bmarks (j + 1) n
theorem bmarks_length : ∀ j n, (bmarks j n).length = n := by
  intro j n
  induction n generalizing j with
  | zero => rfl
  | succ n ih => show (bmarks (j + 1) n).length + 1 = n + 1; rw [ih]
theorem bmarks_bth : ∀ j n k, k < n → bth (bmarks j n) k = third ((j + k : Nat) : Int) := by
  intro j n
  induction n generalizing j with
  | zero => intro k h; omega
  | succ n ih =>
    intro k h
    cases k with
    | zero => rfl
    | succ k =>
      have := ih (j + 1) k (by omega)
      show bth (bmarks (j + 1) n) k = _
      rw [this, Nat.add_assoc, Nat.add_comm 1 k]
theorem bmarks_snoc : ∀ j k, bmarks j (k + 1) = bmarks j k ++ [third ((j + k : Nat) : Int)] := by
  intro j k
  induction k generalizing j with
  | zero => rfl
  | succ k ih =>
    show third (j : Int) :: bmarks (j + 1) (k + 1) = third (j : Int) :: bmarks (j + 1) k ++ [_]
    rw [ih (j + 1), Nat.add_assoc, Nat.add_comm 1 k]
    rfl
theorem bmarks_step (zs : List Bool) (j k : Nat) (hk : k < zs.length) : (bmarks j k ++ zs.drop k).set k (third ((j + k : Nat) : Int)) = bmarks j (k + 1) ++ zs.drop (k + 1) := by
  have hd := List.drop_eq_getElem_cons hk
  rw [bmarks_snoc, List.set_append_right _ _ (by rw [bmarks_length]; omega), bmarks_length, Nat.sub_self, hd, List.append_assoc]
  rfl

def MarkedB (w : World) (base : Nat) (A : Option Addr) (cap : Nat) (k0 n : Nat) (e : Ending) (w' : World) : Prop :=
  e = .returned (.int .i64 ((k0 + n : Nat) : Int)) ∧ OwnBools w' base A cap (bmarks k0 n) ∧ (∀ b, A = some ⟨b, 0, none⟩ → w.grownBy w' (some b)) ∧ (A = none → w = w')

set_option maxHeartbeats 2000000 in
theorem markb_some (base b cap k0 : Nat) (zs : List Bool) (w : World) (hO : OwnBools w base (some ⟨b, 0, none⟩) cap zs) (hm : zs.length ≤ 1048576) (hk0 : k0 ≤ 2000000) :
    Calls Tryz.prog 98 #[.slice (some ⟨b, 0, none⟩) zs.length cap, .int .i64 (k0 : Int)] w (MarkedB w base (some ⟨b, 0, none⟩) cap k0 zs.length) := by
  have HO := Lib.hid hO
  obtain ⟨n, HN⟩ : ∃ n, Hid (zs.length = n) := ⟨_, rfl⟩
  rw [HN.out] at hm ⊢
  clear hO
  go_enter Tryz.func98, Tryz.ntmps98
  go_wp2
  go_loopw [1, 5] (fun x i w' => ∃ k : Nat, k ≤ n ∧ x = .int .i64 ((k0 + k : Nat) : Int) ∧ i = .int .i64 k ∧ Hid (OwnBools w' base (some ⟨b, 0, none⟩) cap (bmarks k0 k ++ zs.drop k)) ∧ Hid (w.grownBy w' (some b))) (fun _ i _ => n - (intOf i).toNat)
  case atStart => exact ⟨0, by omega, rfl, rfl, HO, World.grownBy.refl _ _⟩
  case round =>
    obtain ⟨k, hk, rfl, rfl, HO1, HG⟩ := hrel
    by_cases hlt : k < n
    · have hkz : k < zs.length := by rw [HN.out]; exact hlt
      have hlen : (bmarks k0 k ++ zs.drop k).length = n := by rw [List.length_append, bmarks_length, List.length_drop, HN.out]; omega
      obtain ⟨hcx, hfx⟩ := ownb_cell HO1.out k (by omega)
      have hki : (k : Int) < (n : Int) := by omega
      have hs := ownb_stored HO1.out k (third ((k0 + k : Nat) : Int))
      rw [bmarks_step zs k0 k hkz] at hs
      have HS := Lib.hid hs.1
      have HGS : Hid (w.grownBy (wr.setCell ⟨b, k, none⟩ (.bool (third ((k0 + k : Nat) : Int)))) (some b)) := World.grownBy.trans HG.out hs.2
      clear hkz hlen hs
      have hcast : ((k0 + k : Nat) : Int) = (k0 : Int) + (k : Int) := by omega
      rw [hcast] at HS HGS
      clear hcast
      unfold third at HS HGS
      go_wp2
      go_roundw
      case rel => exact ⟨k + 1, by omega, by go_num, by go_num, HS, HGS⟩
      case measure => simp [intOf]; omega
    · have hkn : k = n := by omega
      subst hkn
      have ho := HO1.out
      rw [List.drop_eq_nil_of_le (by rw [HN.out]; omega), List.append_nil] at ho
      have HO' := Lib.hid ho
      clear ho
      go_wp2
      go_ret
      exact ⟨ret_int (by simp), HO'.out, (fun b' e => by injection e with e; injection e with e _ _; subst e; exact HG.out), (fun e => by cases e)⟩

set_option maxHeartbeats 800000 in
theorem markb_any (base : Nat) (A : Option Addr) (cap k0 : Nat) (zs : List Bool) (w : World) (hO : OwnBools w base A cap zs) (hm : zs.length ≤ 1048576) (hk0 : k0 ≤ 2000000) :
    Calls Tryz.prog 98 #[.slice A zs.length cap, .int .i64 (k0 : Int)] w (MarkedB w base A cap k0 zs.length) := by
  rcases A with _ | ad
  · have h0 : zs = [] := by
      cases zs with
      | nil => rfl
      | cons z zs => obtain ⟨b, o, e, _⟩ := hO.ints (by simp); cases e
    subst h0
    have HO := Lib.hid hO
    clear hO
    go_enter Tryz.func98, Tryz.ntmps98
    go_wp2
    go_loop [1, 5] (fun x i => x = .int .i64 (k0 : Int) ∧ i = .int .i64 0) (fun _ _ => 0)
    case atStart => exact ⟨rfl, rfl⟩
    case round =>
      obtain ⟨rfl, rfl⟩ := hrel
      go_wp2
      go_ret
      exact ⟨rfl, HO.out, (fun b e => by cases e), fun _ => rfl⟩
  · have : ∃ b, ad = ⟨b, 0, none⟩ := by
      rcases hO.2 with ⟨hv, _⟩ | ⟨g, c, cur, hv, _⟩
      · injection hv with hA _ _; cases hA
      · injection hv with hA _ _; injection hA with hA; exact ⟨g, hA⟩
    obtain ⟨b, rfl⟩ := this
    exact markb_some base b cap k0 zs w hO hm hk0



/-- A slice of bools that came in: nil, or a row of cap cells with the bools zs. -/
def IsRowB (w : World) (a : Option Addr) (len cap : Nat) (zs : List Bool) : Prop :=
  (a = none ∧ len = 0 ∧ cap = 0 ∧ zs = []) ∨
  ∃ x, a = some x ∧ len ≤ cap ∧ cap ≤ maxLen ∧ zs.length = cap ∧ (∀ i, i < zs.length → w.cell? (x.add i) = some (.bool (zs.getD i false)))

theorem rowB_cell {w : World} {x : Addr} {c : Nat} {B : Nat → Bool} (hc : ∀ i, i < c → w.cell? (x.add i) = some (.bool (B i))) (i : Nat) (hi : i < ((List.range c).map B).length) : w.cell? (x.add i) = some (.bool (((List.range c).map B).getD i false)) := by
  have h : i < c := by simpa using hi
  rw [hc i h, List.getD_eq_getElem?_getD, List.getElem?_map, List.getElem?_range h]
  rfl

theorem bools_of_row {w : World} {a : Option Addr} {len cap : Nat} {zs : List Bool} (h : IsRowB w a len cap zs) : BoolsAt w w.heap.size a (zs.take len) ∧ (zs.take len).length = len ∧ len ≤ maxLen := by
  rcases h with ⟨rfl, rfl, rfl, rfl⟩ | ⟨x, rfl, hl, hm, hz, hc⟩
  · exact ⟨BoolsAt.nil, rfl, by simp [maxLen]⟩
  · have hlen : (zs.take len).length = len := by rw [List.length_take]; omega
    refine ⟨fun hn => ?_, hlen, Nat.le_trans hl hm⟩
    rw [hlen] at hn
    obtain ⟨b, o, sp⟩ := x
    have hs := World.cell?_spot (hc 0 (by omega))
    have hs0 : sp = none := by simpa [Addr.add] using hs
    subst hs0
    have hcell : ∀ k, k < zs.length → w.cell? ⟨b, o + k, none⟩ = some (.bool (zs.getD k false)) := fun k hk => by
      have := hc k hk
      rw [Addr.add_lit] at this
      exact this
    have h0 := hcell 0 (by omega)
    refine ⟨b, o, rfl, World.block_lt_of_cell? w _ h0, fun k hk => ?_⟩
    rw [hlen] at hk
    rw [hcell k (by omega)]
    unfold bth
    rw [List.getD_eq_getElem?_getD, List.getD_eq_getElem?_getD, List.getElem?_take_of_lt hk]

end Go.Proofs.YtkmebilhbjcfpaaGreat

namespace Go.Proofs.YtkmebilhbjcfpaaGreat
open Go.RowKit
set_option linter.unusedVariables false

theorem deci_same (l : List Int) : decide (l = l) = true := by simp
theorem decb_same (l : List Bool) : decide (l = l) = true := by simp
theorem own_ne {w w' : World} {base : Nat} {A : Option Addr} {cap : Nat} {zs : List Int} (h : OwnInts w base A cap zs) {b : Nat} (hg : w.grownBy w' (some b)) (hne : ∀ g, A = some ⟨g, 0, none⟩ → g ≠ b) : OwnInts w' base A cap zs := by
  refine World.ownsRow.kept h hg ?_
  rcases h.2 with ⟨hv, _⟩ | ⟨g, c, cur, hv, hb, _⟩
  · left; rw [hv]; rfl
  · right
    have hA : A = some ⟨g, 0, none⟩ := by injection hv
    rw [hv]
    intro e
    exact hne g hA (by simpa [Value.ownBlock] using e)
theorem own_lt {w : World} {base : Nat} {A : Option Addr} {cap : Nat} {zs : List Int} (h : OwnInts w base A cap zs) : ∀ g, A = some ⟨g, 0, none⟩ → base ≤ g ∧ g < w.heap.size := by
  intro g hA
  subst hA
  exact World.ownsRow.lt h g rfl
theorem ownb_ne {w w' : World} {base : Nat} {A : Option Addr} {cap : Nat} {zs : List Bool} (h : OwnBools w base A cap zs) {b : Nat} (hg : w.grownBy w' (some b)) (hne : ∀ g, A = some ⟨g, 0, none⟩ → g ≠ b) : OwnBools w' base A cap zs := by
  refine World.ownsRow.kept h hg ?_
  rcases h.2 with ⟨hv, _⟩ | ⟨g, c, cur, hv, hb, _⟩
  · left; rw [hv]; rfl
  · right
    have hA : A = some ⟨g, 0, none⟩ := by injection hv
    rw [hv]
    intro e
    exact hne g hA (by simpa [Value.ownBlock] using e)
theorem ownb_lt {w : World} {base : Nat} {A : Option Addr} {cap : Nat} {zs : List Bool} (h : OwnBools w base A cap zs) : ∀ g, A = some ⟨g, 0, none⟩ → base ≤ g ∧ g < w.heap.size := by
  intro g hA
  subst hA
  exact World.ownsRow.lt h g rfl
/-- Where a row of the call's own lies: nowhere (it is nil), or at the head of a block. -/
theorem own_form {w : World} {base : Nat} {A : Option Addr} {cap : Nat} {zs : List Int} (h : OwnInts w base A cap zs) : A = none ∨ ∃ g, A = some ⟨g, 0, none⟩ := by
  rcases h.2 with ⟨hv, _⟩ | ⟨g, c, cur, hv, _⟩
  · injection hv with hA _ _; exact .inl hA
  · injection hv with hA _ _; exact .inr ⟨g, hA⟩
theorem ownb_form {w : World} {base : Nat} {A : Option Addr} {cap : Nat} {zs : List Bool} (h : OwnBools w base A cap zs) : A = none ∨ ∃ g, A = some ⟨g, 0, none⟩ := by
  rcases h.2 with ⟨hv, _⟩ | ⟨g, c, cur, hv, _⟩
  · injection hv with hA _ _; exact .inl hA
  · injection hv with hA _ _; exact .inr ⟨g, hA⟩
/-- What marking a row leaves, told as one fact: whatever block is not the row's lies as it lay. -/
theorem marked_other {w w' : World} {base : Nat} {A : Option Addr} {cap n : Nat} {zs : List Int} {e : Ending} (h : OwnInts w base A cap zs) (hm : Marked w base A cap n e w') : Below base w w' ∧ (∀ i, i < w.heap.size → (∀ g, A = some ⟨g, 0, none⟩ → i ≠ g) → w'.heap[i]? = w.heap[i]?) := by
  obtain ⟨_, _, hg, hn⟩ := hm
  rcases own_form h with hA | ⟨g, hA⟩
  · have e := hn hA
    subst e
    exact ⟨Below.refl _ _, fun i _ _ => rfl⟩
  · have hgg := hg g hA
    have hlt := own_lt h g hA
    exact ⟨(Below.refl _ _).grown hgg (by omega) (fun k hk => by injection hk with hk; omega), fun i hi hne => hgg.block i hi (fun e => hne g hA (by injection e))⟩
theorem markedb_other {w w' : World} {base : Nat} {A : Option Addr} {cap k0 n : Nat} {zs : List Bool} {e : Ending} (h : OwnBools w base A cap zs) (hm : MarkedB w base A cap k0 n e w') : Below base w w' ∧ (∀ i, i < w.heap.size → (∀ g, A = some ⟨g, 0, none⟩ → i ≠ g) → w'.heap[i]? = w.heap[i]?) := by
  obtain ⟨_, _, hg, hn⟩ := hm
  rcases ownb_form h with hA | ⟨g, hA⟩
  · have e := hn hA
    subst e
    exact ⟨Below.refl _ _, fun i _ _ => rfl⟩
  · have hgg := hg g hA
    have hlt := ownb_lt h g hA
    exact ⟨(Below.refl _ _).grown hgg (by omega) (fun k hk => by injection hk with hk; omega), fun i hi hne => hgg.block i hi (fun e => hne g hA (by injection e))⟩
/-- A row is there wherever its block lies as it lay. -/
theorem own_block {w w' : World} {base : Nat} {A : Option Addr} {cap : Nat} {zs : List Int} (h : OwnInts w base A cap zs) (hk : ∀ g, A = some ⟨g, 0, none⟩ → w'.heap[g]? = w.heap[g]?) : OwnInts w' base A cap zs := by
  refine ⟨h.1, ?_⟩
  rcases h.2 with h0 | ⟨g, c, cur, hv, hg, hgb, hr⟩
  · exact .inl h0
  · have hA : A = some ⟨g, 0, none⟩ := by injection hv
    exact .inr ⟨g, c, cur, hv, hg, (hk g hA).trans hgb, hr⟩
theorem ownb_block {w w' : World} {base : Nat} {A : Option Addr} {cap : Nat} {zs : List Bool} (h : OwnBools w base A cap zs) (hk : ∀ g, A = some ⟨g, 0, none⟩ → w'.heap[g]? = w.heap[g]?) : OwnBools w' base A cap zs := by
  refine ⟨h.1, ?_⟩
  rcases h.2 with h0 | ⟨g, c, cur, hv, hg, hgb, hr⟩
  · exact .inl h0
  · have hA : A = some ⟨g, 0, none⟩ := by injection hv
    exact .inr ⟨g, c, cur, hv, hg, (hk g hA).trans hgb, hr⟩
/-- Rows whose bases part: the elder is kept while the younger is written. -/
theorem own_older {w w' : World} {b0 b1 : Nat} {A : Option Addr} {cap : Nat} {zs : List Int} (h : OwnInts w b0 A cap zs) (hlt : ∀ g, A = some ⟨g, 0, none⟩ → g < b1) (hb : Below b1 w w') : OwnInts w' b0 A cap zs :=
  own_block h fun g hA => hb.block g (hlt g hA)
theorem ownb_older {w w' : World} {b0 b1 : Nat} {A : Option Addr} {cap : Nat} {zs : List Bool} (h : OwnBools w b0 A cap zs) (hlt : ∀ g, A = some ⟨g, 0, none⟩ → g < b1) (hb : Below b1 w w') : OwnBools w' b0 A cap zs :=
  ownb_block h fun g hA => hb.block g (hlt g hA)

theorem markb_one (base : Nat) (A : Option Addr) (cap : Nat) (zs : List Bool) (w : World) (hO : OwnBools w base A cap zs) (hm : zs.length ≤ 1048576) :
    Calls Tryz.prog 98 #[.slice A zs.length cap, .int .i64 1] w (MarkedB w base A cap 1 zs.length) := markb_any base A cap 1 zs w hO hm (by omega)

end Go.Proofs.YtkmebilhbjcfpaaGreat
