/- Slices of pointers to nodes: how they read, and how one is appended. Conditions: the lengths stay below 2^31. -/
import Derived.Test.YtgpmodidpdjhkaaNodes
import Derived.Test.YtgpmodidpdjhkaaAppend
namespace Go.Proofs.Ytgpmodidpdjhkaa
open Go.RowKit
set_option linter.unusedVariables false

abbrev ptr (g : Nat) : Value := .pointer (some ⟨g, 0, none⟩)
theorem ptr_info : (Try.prog.info? 109).map (fun i => (i.zero, i.size, i.bytes)) = some (some (.pointer none), 1, 8) := by kernel_rfl

/-- The k-th block. -/
def gth (zs : List Nat) (k : Nat) : Nat := zs.getD k 0
theorem gth_eq (zs : List Nat) (k : Nat) : gth zs k = zs.getD k 0 := rfl
def ptrs (zs : List Nat) : List Value := zs.map ptr
theorem ptrs_length (zs : List Nat) : (ptrs zs).length = zs.length := List.length_map _
theorem ptrs_append (a b : List Nat) : ptrs (a ++ b) = ptrs a ++ ptrs b := List.map_append
theorem ptrs_one (zs : List Nat) : ∀ u ∈ ptrs zs, u.oneCell' = true := by
  intro u hu
  obtain ⟨z, _, rfl⟩ := List.mem_map.1 hu
  rfl
theorem ptrs_get (zs : List Nat) (k : Nat) (h : k < zs.length) : (ptrs zs)[k]? = some (ptr (gth zs k)) := by
  unfold ptrs gth
  rw [List.getElem?_map, List.getElem?_eq_getElem h, List.getD_eq_getElem?_getD, List.getElem?_eq_getElem h]
  rfl

/-- The slice at A begins with pointers to the blocks zs; its cells lie below block B. -/
def PtrsAt (w : World) (B : Nat) (A : Option Addr) (zs : List Nat) : Prop :=
  0 < zs.length → ∃ b o, A = some ⟨b, o, none⟩ ∧ b < B ∧ ∀ k, k < zs.length → w.cell? ⟨b, o + k, none⟩ = some (.pointer (some ⟨gth zs k, 0, none⟩))

section
variable {w w' : World} {B B' : Nat} {A : Option Addr} {zs : List Nat}
theorem PtrsAt.nil : PtrsAt w B A [] := fun h => absurd h (by simp)
theorem PtrsAt.at_ (h : PtrsAt w B A zs) (hn : 0 < zs.length) : ∃ b o, A = some ⟨b, o, none⟩ ∧ b < B ∧ ∀ k, k < zs.length → w.cell? ⟨b, o + k, none⟩ = some (.pointer (some ⟨gth zs k, 0, none⟩)) := h hn
theorem PtrsAt.keep (h : PtrsAt w B A zs) (hk : ∀ p : Addr, p.block < B → w'.cell? p = w.cell? p) : PtrsAt w' B A zs := fun hn => by
  obtain ⟨b, o, e, hb, hc⟩ := h hn
  exact ⟨b, o, e, hb, fun k hk' => (hk _ hb).trans (hc k hk')⟩
theorem PtrsAt.more (h : PtrsAt w B A zs) (hB : B ≤ B') : PtrsAt w B' A zs := fun hn => by
  obtain ⟨b, o, e, hb, hc⟩ := h hn
  exact ⟨b, o, e, by omega, hc⟩
theorem PtrsAt.below {C : Nat} (h : PtrsAt w B A zs) (hb : Below C w w') (hC : B ≤ C) : PtrsAt w' B A zs := h.keep fun _ hp => hb.cell (by omega)
theorem PtrsAt.drewN (h : PtrsAt w B A zs) (k : Nat) : PtrsAt (w.drewN k) B A zs := h
theorem PtrsAt.alloc (h : PtrsAt w B A zs) (hB : B ≤ w.heap.size) (o : Obj) : PtrsAt (w.alloc o) B A zs := h.keep fun p hp => World.cell?_alloc_lt w o p (by omega)
theorem PtrsAt.grown {row : Option Nat} (h : PtrsAt w B A zs) (hg : w.grownBy w' row) (hB : B ≤ w.heap.size) (hr : ∀ g, row = some g → B ≤ g) : PtrsAt w' B A zs :=
  h.keep fun p hp => World.cell?_of_block (hg.block p.block (by omega) (fun e => by have := hr _ e.symm; omega))
/-- A part of such a slice. -/
theorem PtrsAt.part (h : PtrsAt w B A zs) (s n : Nat) {b o : Nat} (hA : A = some ⟨b, o, none⟩) : PtrsAt w B (some ⟨b, o + s, none⟩) ((zs.drop s).take n) := fun hn => by
  rw [List.length_take, List.length_drop] at hn
  obtain ⟨b', o', e, hb, hc⟩ := h (by omega)
  subst hA
  injection e with e
  injection e with e1 e2
  subst e1 e2
  refine ⟨b, o + s, rfl, hb, fun k hk => ?_⟩
  rw [List.length_take, List.length_drop] at hk
  rw [Nat.add_assoc, hc (s + k) (by omega), gth, gth, List.getD_eq_getElem?_getD, List.getD_eq_getElem?_getD, List.getElem?_take_of_lt (by omega), List.getElem?_drop]
theorem PtrsAt.first (h : PtrsAt w B A zs) (n : Nat) : PtrsAt w B A (zs.take n) := fun hn => by
  rw [List.length_take] at hn
  obtain ⟨b, o, e, hb, hc⟩ := h (by omega)
  refine ⟨b, o, e, hb, fun k hk => ?_⟩
  rw [List.length_take] at hk
  rw [hc k (by omega), gth, gth, List.getD_eq_getElem?_getD, List.getD_eq_getElem?_getD, List.getElem?_take_of_lt (by omega)]
theorem PtrsAt.lt {b o : Nat} (h : PtrsAt w B (some ⟨b, o, none⟩) zs) (hn : 0 < zs.length) : b < B ∧ ∀ k, k < zs.length → w.cell? ⟨b, o + k, none⟩ = some (.pointer (some ⟨gth zs k, 0, none⟩)) := by
  obtain ⟨b', o', e, hb, hc⟩ := h hn
  injection e with e
  injection e with e1 e2
  subst e1 e2
  exact ⟨hb, hc⟩
end

/-- A slice of the call's own (from block base on) that holds pointers to the blocks zs. -/
def OwnPtrs (w : World) (base : Nat) (A : Option Addr) (cap : Nat) (zs : List Nat) : Prop :=
  w.ownsRow base 109 1 (.slice A zs.length cap) zs.length (ptrs zs)
section
variable {w w' : World} {base : Nat} {A : Option Addr} {cap : Nat} {zs : List Nat}
theorem OwnPtrs.ints (h : OwnPtrs w base A cap zs) : PtrsAt w w.heap.size A zs := fun hn => by
  obtain ⟨g, c, hv, _, hlt⟩ := World.ownsRow.form h hn
  injection hv with hA _ _
  subst hA
  refine ⟨g, 0, rfl, hlt, fun k hk => ?_⟩
  have := World.ownsRow.cells h (g := g) rfl k (ptr (gth zs k)) (ptrs_get zs k hk)
  rw [Addr.add_lit] at this
  exact this
theorem OwnPtrs.le (h : OwnPtrs w base A cap zs) : zs.length ≤ cap ∧ cap ≤ maxLen := by
  rcases h.2 with ⟨hv, hn⟩ | ⟨g, c, cur, hv, _, _, h1, h2, _⟩
  · injection hv with _ _ hc; exact ⟨by omega, by omega⟩
  · injection hv with _ _ hc; subst hc; exact ⟨h1, h2⟩
theorem OwnPtrs.below (h : OwnPtrs w base A cap zs) (hb : Below w.heap.size w w') : OwnPtrs w' base A cap zs :=
  World.ownsRow.kept h (grown_of_below hb none) (by
    rcases h.2 with ⟨hv, _⟩ | ⟨g, c, cur, hv, _⟩
    · left; rw [hv]; rfl
    · right; rw [hv]; simp [Value.ownBlock])
theorem OwnPtrs.drewN (h : OwnPtrs w base A cap zs) (n : Nat) : OwnPtrs (w.drewN n) base A cap zs := h
/-- An empty slice that was just made. -/
theorem OwnPtrs.new (w : World) : OwnPtrs (w.alloc (.cells #[] 109)) w.heap.size (some ⟨w.heap.size, 0, none⟩) 0 [] :=
  World.ownsRow_lit w #[] 0 (Nat.le_refl _) (by simp [maxLen]) (by simp)
theorem OwnPtrs.base_le (h : OwnPtrs w base A cap zs) {b : Nat} (hb : b ≤ base) : OwnPtrs w b A cap zs := by
  refine ⟨h.1, ?_⟩
  rcases h.2 with h0 | ⟨g, c, cur, hv, hg, hr⟩
  · exact .inl h0
  · exact .inr ⟨g, c, cur, hv, by omega, hr⟩
end


/-- What an append leaves. -/
structure AppendedP (W : World) (base : Nat) (A : Option Addr) (n c : Nat) (zs : List Nat) (v : Value) (w' : World) : Prop where
  own : ∃ A' c', v = .slice A' zs.length c' ∧ OwnPtrs w' base A' c' zs
  grown : W.grownBy w' (Value.ownBlock (.slice A n c))
  below : Below base W w'

theorem OwnPtrs.far {w : World} {base : Nat} {A : Option Addr} {cap n : Nat} {zs : List Nat} (h : OwnPtrs w base A cap zs) : ∀ g, Value.ownBlock (.slice A n cap) = some g → base ≤ g := by
  intro g hg
  rcases h.2 with ⟨hv, _⟩ | ⟨g', c, cur, hv, hb, _⟩
  · injection hv with hA _ _; subst hA; cases hg
  · injection hv with hA _ _; subst hA
    simp [Value.ownBlock] at hg
    omega
theorem OwnPtrs.alloc {w : World} {base : Nat} {A : Option Addr} {cap : Nat} {zs : List Nat} (h : OwnPtrs w base A cap zs) (o : Obj) : OwnPtrs (w.alloc o) base A cap zs := World.ownsRow.alloc h o

set_option maxRecDepth 100000 in
theorem run_app_ptrs (W : World) (base ty : Nat) (A : Option Addr) (c : Nat) (ds : List Nat) (B : Option Addr) (bc : Nat) (zs : List Nat) (hown : OwnPtrs W base A c ds) (hI : PtrsAt W W.heap.size B zs) (hl : ds.length + zs.length ≤ 2147483647) (hbase : base ≤ W.heap.size) (hB : B = none → bc = 0) :
    ∃ v w', (Builtin.append_ #[79, 79] ty #[.slice A ds.length c, .slice B zs.length bc]).run Try.prog W = .ok v w' ∧ AppendedP W base A ds.length c (ds ++ zs) v w' := by
  obtain ⟨i0, hi0, hz0, hz1, hz2⟩ := info_parts ptr_info
  rcases B with _ | ad
  · have h0 : zs = [] := by
      cases zs with
      | nil => rfl
      | cons z zs => obtain ⟨b, o, e, _⟩ := hI (by simp); cases e
    subst h0
    refine ⟨.slice A ds.length c, W, ?_, ⟨A, c, by simp, by simpa using hown⟩, World.grownBy.refl W _, Below.refl _ _⟩
    have hk := hown
    unfold OwnPtrs at hk
    rcases hk.2 with ⟨hv, hn⟩ | ⟨g, cap, cur, hv, _, _, hnc, _⟩
    · rw [hv]
      simp [Builtin.append_, run_underlying Try.underlying79, sizeOf, typeInfo, hi0, Builtin.lenOf, Builtin.firstCells]
    · rw [hv]
      simp [Builtin.append_, run_underlying Try.underlying79, sizeOf, typeInfo, hi0, Builtin.lenOf, Builtin.firstCells, hnc, storeCells]
  · have hcells : ∀ j u, (ptrs zs)[j]? = some u → W.cell? (ad.add j) = some u := by
      intro j u hu
      have hj : j < zs.length := by
        have := (List.getElem?_eq_some_iff.1 hu).1
        rwa [ptrs_length] at this
      obtain ⟨b, o, e, _, hc⟩ := hI (by omega)
      injection e with e
      subst e
      rw [ptrs_get zs j hj] at hu
      rw [Addr.add_lit, ← hu]
      exact hc j hj
    obtain ⟨v', w', hrun, h2, h3, _, h5⟩ := run_append_own_at (P := Try.prog) W base 79 ty 109 i0 _ 1 8 Try.underlying79 hi0 hz0 hz1 hz2 rfl (by omega) _ ds.length (ptrs ds) hown ad zs.length bc (ptrs zs) (by rw [ptrs_length, Nat.mul_one]) hcells (ptrs_one zs) (by unfold maxLen; omega) (by omega) hbase
    refine ⟨v', w', hrun, ?_, h3, (Below.refl _ _).grown h3 hbase (fun k hk => hown.far k hk)⟩
    rw [← ptrs_append] at h2
    rcases h2.2 with ⟨hv, hn⟩ | ⟨g, cap, cur, hv, hr⟩
    · refine ⟨none, 0, ?_, ?_⟩
      · rw [hv, List.length_append, hn]
      · unfold OwnPtrs; rw [List.length_append, hn]; rw [hn, hv] at h2; exact h2
    · refine ⟨some ⟨g, 0, none⟩, cap, ?_, ?_⟩
      · rw [hv, List.length_append]
      · unfold OwnPtrs; rw [List.length_append]; rw [hv] at h2; exact h2

theorem wp_app_ptrs {o : Oper} {a : Act} {K : Act → World → Prop} {Q : Exit → Act → World → Prop} (s x : Operand) (ho : o.op = .call { callee := .builtin .append, args := #[s, x], argTypes := #[79, 79] })
    (W : World) (base : Nat) (A : Option Addr) (c : Nat) (ds : List Nat) (hs : a.eval s = .slice A ds.length c) (B : Option Addr) (bc : Nat) (zs : List Nat) (hx : a.eval x = .slice B zs.length bc)
    (hown : OwnPtrs W base A c ds) (hI : PtrsAt W W.heap.size B zs) (hl : ds.length + zs.length ≤ 2147483647) (hbase : base ≤ W.heap.size) (hB : B = none → bc = 0)
    (h : ∀ v w', AppendedP W base A ds.length c (ds ++ zs) v w' → K (a.put o.dst v) w') : o.wp Try.prog a W K Q := by
  obtain ⟨v', w', hrun, h2⟩ := run_app_ptrs W base o.type A c ds B bc zs hown hI hl hbase hB
  unfold Oper.wp execOp
  simp only [ho, resolve, invoke, builtin, Sem.run_bind, Sem.run_pure, Result.andThen_ok, List.map_toArray, List.map_cons, List.map_nil, hs, hx, hrun]
  exact h v' w' h2

theorem wpList_app_ptrs {ops : Array Oper} {rest : List Oper} {o : Oper} {a : Act} {Q : Exit → Act → World → Prop} (hgd : o.guard = none) (s x : Operand) (ho : o.op = .call { callee := .builtin .append, args := #[s, x], argTypes := #[79, 79] })
    (W : World) (base : Nat) (A : Option Addr) (c : Nat) (ds : List Nat) (hs : a.eval s = .slice A ds.length c) (B : Option Addr) (bc : Nat) (zs : List Nat) (hx : a.eval x = .slice B zs.length bc)
    (hown : OwnPtrs W base A c ds) (hI : PtrsAt W W.heap.size B zs) (hl : ds.length + zs.length ≤ 2147483647) (hbase : base ≤ W.heap.size) (hB : B = none → bc = 0)
    (h : ∀ v w', AppendedP W base A ds.length c (ds ++ zs) v w' → wpList Try.prog ops Q rest (a.put o.dst v) w') : wpList Try.prog ops Q (o :: rest) a W :=
  wpList_plain hgd fun _ hK => wp_app_ptrs s x ho W base A c ds hs B bc zs hx hown hI hl hbase hB fun v' w' h2 => hK _ _ (h v' w' h2)

theorem step_app_ptrs {ops : Array Oper} {o : Oper} {a : Act} {K : Act → World → Prop} {Q : Exit → Act → World → Prop} {E : Prop} (hgd : o.guard = none) (s x : Operand) (ho : o.op = .call { callee := .builtin .append, args := #[s, x], argTypes := #[79, 79] })
    (W : World) (base : Nat) (A : Option Addr) (c : Nat) (ds : List Nat) (hs : a.eval s = .slice A ds.length c) (B : Option Addr) (bc : Nat) (zs : List Nat) (hx : a.eval x = .slice B zs.length bc)
    (hown : OwnPtrs W base A c ds) (hI : PtrsAt W W.heap.size B zs) (hl : ds.length + zs.length ≤ 2147483647) (hbase : base ≤ W.heap.size) (hB : B = none → bc = 0)
    (h : ∀ v w', AppendedP W base A ds.length c (ds ++ zs) v w' → K (a.put o.dst v) w') :
    if Region.wanted o (yielded ops a.tmps) = true then Oper.wp Try.prog o a W K Q else E := by
  have hw : Region.wanted o (yielded ops a.tmps) = true := by simp [Region.wanted, hgd]
  rw [if_pos hw]
  exact wp_app_ptrs s x ho W base A c ds hs B bc zs hx hown hI hl hbase hB h

/-- One element that was just laid in a block of its own. -/
theorem one_newP (W : World) (z : Nat) : PtrsAt (W.alloc (.cells #[.pointer (some ⟨z, 0, none⟩)] 109)) (W.alloc (.cells #[.pointer (some ⟨z, 0, none⟩)] 109)).heap.size (some ⟨W.heap.size, 0, none⟩) [z] := fun _ => by
  refine ⟨W.heap.size, 0, rfl, by simp, fun k hk => ?_⟩
  have : k = 0 := by simp at hk; omega
  subst this
  have := cell_one_new W (.pointer (some ⟨z, 0, none⟩)) 109 0 (.pointer (some ⟨z, 0, none⟩)) rfl
  rw [Addr.add_lit] at this
  exact this

end Go.Proofs.Ytgpmodidpdjhkaa
