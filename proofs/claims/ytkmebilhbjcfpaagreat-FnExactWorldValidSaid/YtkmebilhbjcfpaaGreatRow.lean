/- Words for memory, of rows of structs of any kind: a slice that reads as a list, a slice of the call's own, how both are kept, and how such slices are appended. Conditions: the lengths stay below 2^31. -/
import Derived.Test.YtkmebilhbjcfpaaGreatBaseA
namespace Go.Proofs.YtkmebilhbjcfpaaGreat
open Go.RowKit
set_option linter.unusedVariables false

/-- How the elements of a row stand in memory: their type, how many cells and bytes each has, and its cells. -/
structure Kind (α : Type) where
  e : TypeId
  k : Nat
  by_ : Nat
  enc : α → List Value
  len : ∀ x, (enc x).length = k
  one : ∀ x, ∀ u ∈ enc x, u.oneCell' = true
  pos : 0 < k

section
variable {α : Type} {K : Kind α}
def Kind.cells (K : Kind α) (xs : List α) : List Value := xs.flatMap K.enc
theorem Kind.cells_nil : K.cells [] = [] := rfl
theorem Kind.cells_cons (x : α) (xs : List α) : K.cells (x :: xs) = K.enc x ++ K.cells xs := rfl
theorem Kind.cells_length (xs : List α) : (K.cells xs).length = xs.length * K.k := by
  induction xs with
  | nil => simp [Kind.cells]
  | cons x xs ih => rw [Kind.cells_cons, List.length_append, ih, K.len, List.length_cons, Nat.add_mul]; omega
theorem Kind.cells_append (a b : List α) : K.cells (a ++ b) = K.cells a ++ K.cells b := List.flatMap_append
theorem Kind.cells_single (x : α) : K.cells [x] = K.enc x := by rw [Kind.cells_cons, Kind.cells_nil, List.append_nil]
theorem Kind.cells_one (xs : List α) : ∀ u ∈ K.cells xs, u.oneCell' = true := by
  intro u hu
  obtain ⟨x, _, hx⟩ := List.mem_flatMap.1 hu
  exact K.one x u hx
theorem Kind.cells_get (xs : List α) : ∀ (j : Nat) (x : α) (i : Nat), xs[j]? = some x → i < K.k → (K.cells xs)[j * K.k + i]? = (K.enc x)[i]? := by
  induction xs with
  | nil => intro j x i h; simp at h
  | cons y ys ih =>
    intro j x i h hi
    rw [Kind.cells_cons]
    cases j with
    | zero =>
      simp only [List.getElem?_cons_zero, Option.some.injEq] at h
      subst h
      rw [Nat.zero_mul, Nat.zero_add, List.getElem?_append_left (by rw [K.len]; exact hi)]
    | succ j =>
      rw [List.getElem?_cons_succ] at h
      rw [List.getElem?_append_right (by rw [K.len, Nat.add_mul]; omega), K.len, show (j + 1) * K.k + i - K.k = j * K.k + i by rw [Nat.add_mul]; omega]
      exact ih j x i h hi
theorem Kind.cells_get' (xs : List α) (m : Nat) (v : Value) (h : (K.cells xs)[m]? = some v) : ∃ j x i, m = j * K.k + i ∧ i < K.k ∧ xs[j]? = some x ∧ (K.enc x)[i]? = some v := by
  have hm : m < xs.length * K.k := by have := (List.getElem?_eq_some_iff.1 h).1; rwa [Kind.cells_length] at this
  have hk := K.pos
  have hj : m / K.k < xs.length := Nat.div_lt_of_lt_mul (by rwa [Nat.mul_comm] at hm)
  have hi : m % K.k < K.k := Nat.mod_lt _ hk
  have e : m = m / K.k * K.k + m % K.k := by rw [Nat.mul_comm]; exact (Nat.div_add_mod m K.k).symm
  refine ⟨m / K.k, xs[m / K.k], m % K.k, e, hi, List.getElem?_eq_getElem hj, ?_⟩
  rw [← Kind.cells_get xs _ _ _ (List.getElem?_eq_getElem hj) hi, ← e]
  exact h

/-- The slice at A begins with the elements xs; its cells lie below block B. -/
def RowAt (K : Kind α) (w : World) (B : Nat) (A : Option Addr) (xs : List α) : Prop :=
  0 < xs.length → ∃ b o, A = some ⟨b, o, none⟩ ∧ b < B ∧ ∀ j x, xs[j]? = some x → ∀ i v, (K.enc x)[i]? = some v → w.cell? ⟨b, o + j * K.k + i, none⟩ = some v
end

section
variable {α : Type} {K : Kind α} {w w' : World} {B B' : Nat} {A : Option Addr} {xs : List α}
theorem RowAt.nil : RowAt K w B A [] := fun h => absurd h (by simp)
theorem RowAt.keep (h : RowAt K w B A xs) (hk : ∀ p : Addr, p.block < B → w'.cell? p = w.cell? p) : RowAt K w' B A xs := fun hn => by
  obtain ⟨b, o, e, hb, hc⟩ := h hn
  exact ⟨b, o, e, hb, fun j x hx i v hv => (hk _ hb).trans (hc j x hx i v hv)⟩
theorem RowAt.more (h : RowAt K w B A xs) (hB : B ≤ B') : RowAt K w B' A xs := fun hn => by
  obtain ⟨b, o, e, hb, hc⟩ := h hn
  exact ⟨b, o, e, by omega, hc⟩
theorem RowAt.below {C : Nat} (h : RowAt K w B A xs) (hb : Below C w w') (hC : B ≤ C) : RowAt K w' B A xs := h.keep fun _ hp => hb.cell (by omega)
theorem RowAt.drewN (h : RowAt K w B A xs) (k : Nat) : RowAt K (w.drewN k) B A xs := h
theorem RowAt.alloc (h : RowAt K w B A xs) (hB : B ≤ w.heap.size) (o : Obj) : RowAt K (w.alloc o) B A xs := h.keep fun p hp => World.cell?_alloc_lt w o p (by omega)
theorem RowAt.allocS (h : RowAt K w w.heap.size A xs) (o : Obj) : RowAt K (w.alloc o) (w.alloc o).heap.size A xs := (h.alloc (Nat.le_refl _) o).more (by simp)
theorem RowAt.belowS (h : RowAt K w w.heap.size A xs) (hb : Below w.heap.size w w') : RowAt K w' w'.heap.size A xs := (h.below hb (Nat.le_refl _)).more hb.size
theorem RowAt.grown {row : Option Nat} (h : RowAt K w B A xs) (hg : w.grownBy w' row) (hB : B ≤ w.heap.size) (hr : ∀ g, row = some g → B ≤ g) : RowAt K w' B A xs :=
  h.keep fun p hp => World.cell?_of_block (hg.block p.block (by omega) (fun e => by have := hr _ e.symm; omega))
theorem RowAt.first (h : RowAt K w B A xs) (n : Nat) : RowAt K w B A (xs.take n) := fun hn => by
  rw [List.length_take] at hn
  obtain ⟨b, o, e, hb, hc⟩ := h (by omega)
  refine ⟨b, o, e, hb, fun j x hx i v hv => hc j x ?_ i v hv⟩
  rw [List.getElem?_take] at hx
  split at hx
  · exact hx
  · cases hx
theorem RowAt.lt {b o : Nat} (h : RowAt K w B (some ⟨b, o, none⟩) xs) (hn : 0 < xs.length) : b < B ∧ ∀ j x, xs[j]? = some x → ∀ i v, (K.enc x)[i]? = some v → w.cell? ⟨b, o + j * K.k + i, none⟩ = some v := by
  obtain ⟨b', o', e, hb, hc⟩ := h hn
  injection e with e
  injection e with e1 e2
  subst e1 e2
  exact ⟨hb, hc⟩
/-- A slice that reads as a list is nil or starts somewhere. -/
theorem RowAt.some_ (h : RowAt K w B A xs) (hn : 0 < xs.length) : ∃ b o, A = some ⟨b, o, none⟩ := by
  obtain ⟨b, o, e, _⟩ := h hn
  exact ⟨b, o, e⟩

/-- A slice of the call's own (from block base on) that holds xs. -/
def OwnRow (K : Kind α) (w : World) (base : Nat) (A : Option Addr) (cap : Nat) (xs : List α) : Prop :=
  w.ownsRow base K.e K.k (.slice A xs.length cap) xs.length (K.cells xs)
end
section
variable {α : Type} {K : Kind α} {w w' : World} {base cap : Nat} {A : Option Addr} {xs : List α}
theorem OwnRow.at_ (h : OwnRow K w base A cap xs) : RowAt K w w.heap.size A xs := fun hn => by
  obtain ⟨g, c, hv, _, hlt⟩ := World.ownsRow.form h hn
  injection hv with hA _ _
  subst hA
  refine ⟨g, 0, rfl, hlt, fun j x hx i v hv => ?_⟩
  have hi : i < K.k := by have := (List.getElem?_eq_some_iff.1 hv).1; rwa [K.len] at this
  have := World.ownsRow.cells h (g := g) rfl (j * K.k + i) v (by rw [Kind.cells_get xs j x i hx hi]; exact hv)
  rw [Addr.add_lit] at this
  rw [Nat.add_assoc]
  exact this
theorem OwnRow.le (h : OwnRow K w base A cap xs) : xs.length ≤ cap ∧ cap ≤ maxLen := by
  rcases h.2 with ⟨hv, hn⟩ | ⟨g, c, cur, hv, _, _, h1, h2, _⟩
  · injection hv with _ _ hc; exact ⟨by omega, by omega⟩
  · injection hv with _ _ hc; subst hc; exact ⟨h1, h2⟩
theorem OwnRow.below (h : OwnRow K w base A cap xs) (hb : Below w.heap.size w w') : OwnRow K w' base A cap xs :=
  World.ownsRow.kept h (grown_of_below hb none) (by
    rcases h.2 with ⟨hv, _⟩ | ⟨g, c, cur, hv, _⟩
    · left; rw [hv]; rfl
    · right; rw [hv]; simp [Value.ownBlock])
theorem OwnRow.drewN (h : OwnRow K w base A cap xs) (n : Nat) : OwnRow K (w.drewN n) base A cap xs := h
theorem OwnRow.alloc (h : OwnRow K w base A cap xs) (o : Obj) : OwnRow K (w.alloc o) base A cap xs := World.ownsRow.alloc h o
theorem OwnRow.new (K : Kind α) (w : World) : OwnRow K (w.alloc (.cells #[] K.e)) w.heap.size (some ⟨w.heap.size, 0, none⟩) 0 [] :=
  World.ownsRow_lit w #[] 0 (Nat.le_refl _) (by simp [maxLen]) (by simp)
theorem OwnRow.zero (K : Kind α) (w : World) (base : Nat) : OwnRow K w base none 0 [] := ⟨by simp [Kind.cells], .inl ⟨rfl, rfl⟩⟩
theorem OwnRow.base_le (h : OwnRow K w base A cap xs) {b : Nat} (hb : b ≤ base) : OwnRow K w b A cap xs := by
  refine ⟨h.1, ?_⟩
  rcases h.2 with h0 | ⟨g, c, cur, hv, hg, hr⟩
  · exact .inl h0
  · exact .inr ⟨g, c, cur, hv, by omega, hr⟩
theorem OwnRow.nil_cap (h : OwnRow K w base A cap xs) : A = none → cap = 0 := by
  rintro rfl
  rcases h.2 with ⟨hv, _⟩ | ⟨g, c, cur, hv, _⟩
  · injection hv
  · injection hv with hA _ _; cases hA
theorem OwnRow.far {n : Nat} (h : OwnRow K w base A cap xs) : ∀ g, Value.ownBlock (.slice A n cap) = some g → base ≤ g := by
  intro g hg
  rcases h.2 with ⟨hv, _⟩ | ⟨g', c, cur, hv, hb, _⟩
  · injection hv with hA _ _; subst hA; cases hg
  · injection hv with hA _ _; subst hA
    simp [Value.ownBlock] at hg
    omega
theorem OwnRow.keep {row : Option Nat} (h : OwnRow K w base A cap xs) (hg : w.grownBy w' row) (hne : ∀ k, row = some k → k < base) : OwnRow K w' base A cap xs :=
  World.ownsRow.kept h hg (by
    rcases h.2 with ⟨hv, _⟩ | ⟨g, c, cur, hv, hb, _⟩
    · left; rw [hv]; rfl
    · right; rw [hv]
      intro e
      have := hne g (by rw [← e]; rfl)
      omega)
theorem OwnRow.form (h : OwnRow K w base A cap xs) (hn : 0 < xs.length) : ∃ g, A = some ⟨g, 0, none⟩ ∧ base ≤ g ∧ g < w.heap.size := by
  obtain ⟨g, c, hv, hb, hlt⟩ := World.ownsRow.form h hn
  injection hv with hA _ _
  exact ⟨g, hA, hb, hlt⟩
/-- The whole row behind a block that is known. -/
theorem OwnRow.of_blk {g : Nat} (K : Kind α) (xs : List α) (h : w.heap[g]? = some (.cells (K.cells xs).toArray K.e (0, 0))) (hb : base ≤ g) (hl : xs.length ≤ maxLen) : OwnRow K w base (some ⟨g, 0, none⟩) xs.length xs :=
  ⟨Kind.cells_length xs, .inr ⟨g, xs.length, _, rfl, hb, h, Nat.le_refl _, hl, by rw [List.size_toArray, Kind.cells_length], by rw [← Kind.cells_length xs]; exact List.take_length⟩⟩
end

/-- What a function hands back that makes a row: xs in memory of its own; nothing that was there is changed. -/
def RetRow {α : Type} (K : Kind α) (w : World) (xs : List α) (e : Ending) (w' : World) : Prop :=
  ∃ A cap, e = .returned (.slice A xs.length cap) ∧ OwnRow K w' w.heap.size A cap xs ∧ Below w.heap.size w w'

/-- What an append leaves. -/
structure AppendedR {α : Type} (K : Kind α) (W : World) (base : Nat) (A : Option Addr) (n c : Nat) (xs : List α) (v : Value) (w' : World) : Prop where
  own : ∃ A' c', v = .slice A' xs.length c' ∧ OwnRow K w' base A' c' xs
  grown : W.grownBy w' (Value.ownBlock (.slice A n c))
  below : Below base W w'
  some_ : A ≠ none → ∃ A' c', v = .slice (some A') xs.length c'

section
variable {α : Type} {K : Kind α} {P : Program}
set_option maxRecDepth 100000 in
theorem run_app_row {T : TypeId} {i0 : TypeInfo} {z : Value} (hT : P.underlying T = some (.slice K.e)) (hi0 : P.info? K.e = some i0) (hz0 : i0.zero = some z) (hz1 : i0.size = K.k) (hz2 : i0.bytes = K.by_) (hzs : z.cells.size = K.k) (hby : K.by_ ≤ 1000)
    (W : World) (base ty : Nat) (A : Option Addr) (c : Nat) (ds : List α) (B : Option Addr) (bc : Nat) (xs : List α) (hown : OwnRow K W base A c ds) (hI : RowAt K W W.heap.size B xs) (hl : ds.length + xs.length ≤ 1000000) (hbase : base ≤ W.heap.size) (hB : B = none → bc = 0) :
    ∃ v w', (Builtin.append_ #[T, T] ty #[.slice A ds.length c, .slice B xs.length bc]).run P W = .ok v w' ∧ AppendedR K W base A ds.length c (ds ++ xs) v w' := by
  rcases B with _ | ad
  · have h0 : xs = [] := by
      cases xs with
      | nil => rfl
      | cons z zs => obtain ⟨b, o, e, _⟩ := hI (by simp); cases e
    subst h0
    refine ⟨.slice A ds.length c, W, ?_, ⟨A, c, by simp, by simpa using hown⟩, World.grownBy.refl W _, Below.refl _ _, fun hA => ?_⟩
    · have hk := hown
      unfold OwnRow at hk
      rcases hk.2 with ⟨hv, hn⟩ | ⟨g, cap, cur, hv, _, _, hnc, _⟩
      · rw [hv]
        simp [Builtin.append_, run_underlying hT, sizeOf, typeInfo, hi0, Builtin.lenOf, Builtin.firstCells]
      · rw [hv]
        simp [Builtin.append_, run_underlying hT, sizeOf, typeInfo, hi0, Builtin.lenOf, Builtin.firstCells, hnc, storeCells]
    · cases A with
      | none => exact absurd rfl hA
      | some a => exact ⟨a, c, by simp⟩
  · have hcells : ∀ j u, (K.cells xs)[j]? = some u → W.cell? (ad.add j) = some u := by
      intro m u hu
      obtain ⟨j, x, i, rfl, hi, hx, hv⟩ := Kind.cells_get' xs m u hu
      have hj : j < xs.length := (List.getElem?_eq_some_iff.1 hx).1
      obtain ⟨b, o, e, _, hc⟩ := hI (by omega)
      injection e with e
      subst e
      rw [Addr.add_lit, ← Nat.add_assoc]
      exact hc j x hx i u hv
    have hsum : (ds.length + xs.length) * K.by_ ≤ 140737488355328 := Nat.le_trans (Nat.mul_le_mul hl hby) (by omega)
    obtain ⟨v', w', hrun, h2, h3, h4, h5⟩ := run_append_own_at (P := P) W base T ty K.e i0 z K.k K.by_ hT hi0 hz0 hz1 hz2 hzs K.pos _ ds.length (K.cells ds) hown ad xs.length bc (K.cells xs) (Kind.cells_length xs) hcells (Kind.cells_one xs) (by unfold maxLen; omega) hsum hbase
    refine ⟨v', w', hrun, ?_, h3, (Below.refl _ _).grown h3 hbase (fun k hk => hown.far k hk), fun hA => ?_⟩
    · rw [← Kind.cells_append] at h2
      rcases h2.2 with ⟨hv, hn⟩ | ⟨g, cap, cur, hv, hr⟩
      · refine ⟨none, 0, ?_, ?_⟩
        · rw [hv, List.length_append, hn]
        · unfold OwnRow; rw [List.length_append, hn]; rw [hn, hv] at h2; exact h2
      · refine ⟨some ⟨g, 0, none⟩, cap, ?_, ?_⟩
        · rw [hv, List.length_append]
        · unfold OwnRow; rw [List.length_append]; rw [hv] at h2; exact h2
    · rcases h2.2 with ⟨hv, hn⟩ | ⟨g, cap, cur, hv, hr⟩
      · have hn1 := (h4.1 hv).1
        injection hn1 with hA' _ _
        exact absurd hA' hA
      · exact ⟨⟨g, 0, none⟩, cap, by rw [hv, List.length_append]⟩
theorem wp_app_row {T : TypeId} {i0 : TypeInfo} {z : Value} (hT : P.underlying T = some (.slice K.e)) (hi0 : P.info? K.e = some i0) (hz0 : i0.zero = some z) (hz1 : i0.size = K.k) (hz2 : i0.bytes = K.by_) (hzs : z.cells.size = K.k) (hby : K.by_ ≤ 1000)
    {o : Oper} {a : Act} {J : Act → World → Prop} {Q : Exit → Act → World → Prop} (s x : Operand) (ho : o.op = .call { callee := .builtin .append, args := #[s, x], argTypes := #[T, T] })
    (W : World) (base : Nat) (A : Option Addr) (c : Nat) (ds : List α) (hs : a.eval s = .slice A ds.length c) (B : Option Addr) (bc : Nat) (xs : List α) (hx : a.eval x = .slice B xs.length bc)
    (hown : OwnRow K W base A c ds) (hI : RowAt K W W.heap.size B xs) (hl : ds.length + xs.length ≤ 1000000) (hbase : base ≤ W.heap.size) (hB : B = none → bc = 0)
    (h : ∀ v w', AppendedR K W base A ds.length c (ds ++ xs) v w' → J (a.put o.dst v) w') : o.wp P a W J Q := by
  obtain ⟨v', w', hrun, h2⟩ := run_app_row hT hi0 hz0 hz1 hz2 hzs hby W base o.type A c ds B bc xs hown hI hl hbase hB
  unfold Oper.wp execOp
  simp only [ho, resolve, invoke, builtin, Sem.run_bind, Sem.run_pure, Result.andThen_ok, List.map_toArray, List.map_cons, List.map_nil, hs, hx, hrun]
  exact h v' w' h2
theorem step_app_row {T : TypeId} {i0 : TypeInfo} {z : Value} (hT : P.underlying T = some (.slice K.e)) (hi0 : P.info? K.e = some i0) (hz0 : i0.zero = some z) (hz1 : i0.size = K.k) (hz2 : i0.bytes = K.by_) (hzs : z.cells.size = K.k) (hby : K.by_ ≤ 1000)
    {ops : Array Oper} {o : Oper} {a : Act} {J : Act → World → Prop} {Q : Exit → Act → World → Prop} {E : Prop} (hgd : o.guard = none) (s x : Operand) (ho : o.op = .call { callee := .builtin .append, args := #[s, x], argTypes := #[T, T] })
    (W : World) (base : Nat) (A : Option Addr) (c : Nat) (ds : List α) (hs : a.eval s = .slice A ds.length c) (B : Option Addr) (bc : Nat) (xs : List α) (hx : a.eval x = .slice B xs.length bc)
    (hown : OwnRow K W base A c ds) (hI : RowAt K W W.heap.size B xs) (hl : ds.length + xs.length ≤ 1000000) (hbase : base ≤ W.heap.size) (hB : B = none → bc = 0)
    (h : ∀ v w', AppendedR K W base A ds.length c (ds ++ xs) v w' → J (a.put o.dst v) w') :
    if Region.wanted o (yielded ops a.tmps) = true then Oper.wp P o a W J Q else E := by
  have hw : Region.wanted o (yielded ops a.tmps) = true := by simp [Region.wanted, hgd]
  rw [if_pos hw]
  exact wp_app_row hT hi0 hz0 hz1 hz2 hzs hby s x ho W base A c ds hs B bc xs hx hown hI hl hbase hB h
theorem wpList_app_row {T : TypeId} {i0 : TypeInfo} {z : Value} (hT : P.underlying T = some (.slice K.e)) (hi0 : P.info? K.e = some i0) (hz0 : i0.zero = some z) (hz1 : i0.size = K.k) (hz2 : i0.bytes = K.by_) (hzs : z.cells.size = K.k) (hby : K.by_ ≤ 1000)
    {ops : Array Oper} {rest : List Oper} {o : Oper} {a : Act} {Q : Exit → Act → World → Prop} (hgd : o.guard = none) (s x : Operand) (ho : o.op = .call { callee := .builtin .append, args := #[s, x], argTypes := #[T, T] })
    (W : World) (base : Nat) (A : Option Addr) (c : Nat) (ds : List α) (hs : a.eval s = .slice A ds.length c) (B : Option Addr) (bc : Nat) (xs : List α) (hx : a.eval x = .slice B xs.length bc)
    (hown : OwnRow K W base A c ds) (hI : RowAt K W W.heap.size B xs) (hl : ds.length + xs.length ≤ 1000000) (hbase : base ≤ W.heap.size) (hB : B = none → bc = 0)
    (h : ∀ v w', AppendedR K W base A ds.length c (ds ++ xs) v w' → wpList P ops Q rest (a.put o.dst v) w') : wpList P ops Q (o :: rest) a W :=
  wpList_plain hgd fun _ hK => wp_app_row hT hi0 hz0 hz1 hz2 hzs hby s x ho W base A c ds hs B bc xs hx hown hI hl hbase hB fun v' w' h2 => hK _ _ (h v' w' h2)
end
/-- One element that was just laid in a block of its own. -/
theorem one_newR {α : Type} (K : Kind α) (W : World) (x : α) (t : TypeId) : RowAt K (W.alloc (.cells (K.enc x).toArray t)) (W.alloc (.cells (K.enc x).toArray t)).heap.size (some ⟨W.heap.size, 0, none⟩) [x] := fun _ => by
  refine ⟨W.heap.size, 0, rfl, by simp, fun j y hy i v hv => ?_⟩
  have hj : j = 0 := by
    have := (List.getElem?_eq_some_iff.1 hy).1
    simp at this; omega
  subst hj
  simp only [List.getElem?_cons_zero, Option.some.injEq] at hy
  subst hy
  simp only [Nat.zero_mul, Nat.zero_add]
  have h := cell_of_row (W.alloc (.cells (K.enc x).toArray t)) W.heap.size i (K.enc x).toArray t (0, 0) (heap_alloc_new W _)
  rw [List.getElem?_toArray] at h
  exact h.trans hv
theorem one_newG {α : Type} (K : Kind α) (W : World) (x : α) (t : TypeId) {g : Nat} (hg : W.heap.size = g) : RowAt K (W.alloc (.cells (K.enc x).toArray t)) (W.alloc (.cells (K.enc x).toArray t)).heap.size (some ⟨g, 0, none⟩) [x] := by
  subst hg
  exact one_newR K W x t

end Go.Proofs.YtkmebilhbjcfpaaGreat
