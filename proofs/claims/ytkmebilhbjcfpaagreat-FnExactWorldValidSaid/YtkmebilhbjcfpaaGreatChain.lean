/- A linked list of requests in memory: how it reads, how it is kept, a further request behind the last, a request taken out. No conditions. -/
import Derived.Test.YtkmebilhbjcfpaaGreatAsks
namespace Go.Proofs.YtkmebilhbjcfpaaGreat
open Go.RowKit
set_option linter.unusedVariables false

/-- Where a list of nodes begins. -/
def hd : List (Nat × AD) → Option Addr
  | [] => none
  | x :: _ => some ⟨x.1, 0, none⟩
theorem hd_append (l r r' : List (Nat × AD)) (x : Nat × AD) : hd (l ++ x :: r) = hd (l ++ x :: r') := by cases l <;> rfl
abbrev nodeC (a : AD) (q : Option Addr) : Array Value := #[.int .i64 a.p, .int .i64 a.b, .pointer q]
/-- The nodes lie in memory, each leads to the next. -/
def Seg (w : World) : List (Nat × AD) → Prop
  | [] => True
  | x :: r => Blk w x.1 186 (nodeC x.2 (hd r)) ∧ Seg w r
theorem Seg.at_ {w : World} {x : Nat × AD} {r : List (Nat × AD)} : ∀ {l : List (Nat × AD)}, Seg w (l ++ x :: r) → Blk w x.1 186 (nodeC x.2 (hd r))
  | [], h => h.1
  | _ :: l, h => Seg.at_ (l := l) h.2
theorem Seg.keep {w w' : World} : ∀ {l : List (Nat × AD)}, Seg w l → (∀ x ∈ l, w'.heap[x.1]? = w.heap[x.1]?) → Seg w' l
  | [], _, _ => trivial
  | x :: l, h, hk => ⟨(hk x List.mem_cons_self).trans h.1, Seg.keep (l := l) h.2 fun y hy => hk y (List.mem_cons_of_mem _ hy)⟩
theorem Seg.lt {w : World} : ∀ {l : List (Nat × AD)}, Seg w l → ∀ x ∈ l, x.1 < w.heap.size
  | x :: l, h, y, hy => by
    rcases List.mem_cons.1 hy with rfl | hy
    · exact h.1.lt
    · exact Seg.lt (l := l) h.2 y hy
/-- What stands behind a node is exchanged. -/
theorem Seg.put {w w' : World} {x : Nat × AD} {r r' : List (Nat × AD)} : ∀ {l : List (Nat × AD)}, Seg w (l ++ x :: r) → (∀ y ∈ l, w'.heap[y.1]? = w.heap[y.1]?) → Blk w' x.1 186 (nodeC x.2 (hd r')) → Seg w' r' → Seg w' (l ++ x :: r')
  | [], _, _, hx, hr => ⟨hx, hr⟩
  | y :: l, h, hk, hx, hr => by
    refine ⟨(hk y List.mem_cons_self).trans ?_, Seg.put (l := l) h.2 (fun z hz => hk z (List.mem_cons_of_mem _ hz)) hx hr⟩
    have h1 : Blk w y.1 186 (nodeC y.2 (hd (l ++ x :: r))) := h.1
    rw [hd_append l r r' x] at h1
    exact h1

/-- A linked list of blocks from B on; every node was laid behind those before it. -/
structure Chain (w : World) (B : Nat) (l : List (Nat × AD)) : Prop where
  seg : Seg w l
  up : (l.map Prod.fst).Pairwise (· < ·)
  low : ∀ x ∈ l, B ≤ x.1
section
variable {w w' : World} {B : Nat} {l : List (Nat × AD)}
theorem Chain.lt (h : Chain w B l) : ∀ x ∈ l, x.1 < w.heap.size := h.seg.lt
theorem Chain.below {C : Nat} (h : Chain w B l) (hb : Below C w w') (hC : w.heap.size ≤ C) : Chain w' B l :=
  ⟨h.seg.keep fun x hx => hb.block _ (by have := h.lt x hx; omega), h.up, h.low⟩
theorem Chain.alloc (h : Chain w B l) (o : Obj) : Chain (w.alloc o) B l := ⟨h.seg.keep fun x hx => Below.heap_alloc w o _ (h.lt x hx), h.up, h.low⟩
theorem Chain.drewN (h : Chain w B l) (n : Nat) : Chain (w.drewN n) B l := ⟨h.seg.keep fun _ _ => rfl, h.up, h.low⟩
theorem Chain.at_ {x : Nat × AD} {a r : List (Nat × AD)} (h : Chain w B (a ++ x :: r)) : Blk w x.1 186 (nodeC x.2 (hd r)) := h.seg.at_
/-- The nodes before one lie below it, those behind it above. -/
theorem Chain.before {x : Nat × AD} {a r : List (Nat × AD)} (h : Chain w B (a ++ x :: r)) : (∀ y ∈ a, y.1 < x.1) ∧ ∀ y ∈ r, x.1 < y.1 := by
  have hu := h.up
  rw [List.map_append, List.pairwise_append] at hu
  obtain ⟨_, h2, h3⟩ := hu
  rw [List.map_cons, List.pairwise_cons] at h2
  exact ⟨fun y hy => h3 _ (List.mem_map_of_mem hy) _ List.mem_cons_self, fun y hy => h2.1 _ (List.mem_map_of_mem hy)⟩
/-- A new list: one node that is no request. -/
theorem Chain.new (w : World) : Chain (w.alloc (.cells (nodeC ⟨0, 0⟩ none) 186)) w.heap.size [(w.heap.size, ⟨0, 0⟩)] :=
  ⟨⟨Blk.new w _ _, trivial⟩, List.pairwise_singleton _ _, fun x hx => by rw [List.mem_singleton.1 hx]; exact Nat.le_refl _⟩
/-- A further request behind the last. -/
theorem Chain.link {x : Nat × AD} {a : List (Nat × AD)} (h : Chain w B (a ++ [x])) (d : AD) : Chain ((w.alloc (.cells (nodeC d none) 186)).setCell ⟨x.1, 2, none⟩ (.pointer (some ⟨w.heap.size, 0, none⟩))) B (a ++ [x, (w.heap.size, d)]) := by
  have hx : x.1 < w.heap.size := h.lt x (List.mem_append_right _ List.mem_cons_self)
  have hB := h.low x (List.mem_append_right _ List.mem_cons_self)
  refine ⟨Seg.put (h.alloc (.cells (nodeC d none) 186)).seg (fun y hy => Below.heap_setCell _ _ _ _ ?_) ?_ ⟨(Blk.new w 186 (nodeC d none)).setOther (by show x.1 ≠ _; omega) _, trivial⟩, ?_, fun y hy => ?_⟩
  · show y.1 ≠ x.1
    have := (h.before).1 y hy; omega
  · exact ((h.alloc (.cells (nodeC d none) 186)).at_).setOwn 2 _
  · have hu := h.up
    rw [List.map_append, List.pairwise_append] at hu ⊢
    obtain ⟨h1, h2, h3⟩ := hu
    refine ⟨h1, ?_, fun y hy z hz => ?_⟩
    · simp only [List.map_cons, List.map_nil, List.pairwise_cons, List.mem_singleton, List.not_mem_nil, false_imp_iff, implies_true, List.Pairwise.nil, and_true]
      rintro _ rfl
      exact hx
    · obtain ⟨y', hy', rfl⟩ := List.mem_map.1 hy
      have h4 := h.lt y' (List.mem_append_left _ hy')
      have h5 := (h.before).1 y' hy'
      simp only [List.map_cons, List.map_nil, List.mem_cons, List.not_mem_nil, or_false] at hz
      rcases hz with rfl | rfl <;> omega
  · rcases List.mem_append.1 hy with hy | hy
    · exact h.low y (List.mem_append_left _ hy)
    · simp only [List.mem_cons, List.not_mem_nil, or_false] at hy
      rcases hy with rfl | rfl
      · exact hB
      · show B ≤ w.heap.size; omega
/-- A request is taken out. -/
theorem Chain.cut {x y : Nat × AD} {a r : List (Nat × AD)} (h : Chain w B (a ++ x :: y :: r)) : Chain (w.setCell ⟨x.1, 2, none⟩ (.pointer (hd r))) B (a ++ x :: r) := by
  have hsub : (a ++ x :: r).Sublist (a ++ x :: y :: r) := List.Sublist.append (List.Sublist.refl a) ((List.sublist_cons_self y r).cons_cons x)
  have hb := h.before
  have h2 : Seg w (y :: r) := by
    have key : ∀ {b : List (Nat × AD)} {z : List (Nat × AD)}, Seg w (b ++ z) → Seg w z := by
      intro b
      induction b with
      | nil => intro z h; exact h
      | cons c b ih => intro z h; exact ih h.2
    exact (key (b := a) (z := x :: y :: r) h.seg).2
  refine ⟨Seg.put h.seg (fun z hz => Below.heap_setCell _ _ _ _ ?_) ((h.at_).setOwn 2 _) (h2.2.keep fun z hz => Below.heap_setCell _ _ _ _ ?_), h.up.sublist (hsub.map Prod.fst), fun z hz => h.low z (hsub.subset hz)⟩
  · show z.1 ≠ x.1
    have := hb.1 z hz; omega
  · show z.1 ≠ x.1
    have := hb.2 z (List.mem_cons_of_mem _ hz); omega
theorem node_cells {g : Nat} {a : AD} {q : Option Addr} (h : Blk w g 186 (nodeC a q)) : w.cell? ⟨g, 0, none⟩ = some (.int .i64 a.p) ∧ w.cell? ⟨g, 1, none⟩ = some (.int .i64 a.b) ∧ w.cell? ⟨g, 2, none⟩ = some (.pointer q) := ⟨h.cell 0, h.cell 1, h.cell 2⟩
end
theorem alloc_setCell (w : World) (o : Obj) (p : Addr) (v : Value) (h : p.block < w.heap.size) : (w.alloc o).setCell p v = (w.setCell p v).alloc o := by
  unfold World.alloc World.setCell
  congr 1
  apply Array.ext_getElem?
  intro i
  rw [Array.getElem?_modify, Array.getElem?_push, Array.getElem?_push, Array.getElem?_modify, Array.size_modify]
  by_cases e : i = w.heap.size
  · subst e
    rw [if_neg (by omega), if_pos rfl, if_pos rfl]
  · rw [if_neg e]
    simp [e]
/-- The requests of a list of nodes. -/
def asksOf (l : List (Nat × AD)) : List AD := l.map Prod.snd
theorem asksOf_append (a b : List (Nat × AD)) : asksOf (a ++ b) = asksOf a ++ asksOf b := List.map_append
theorem asksOf_length (l : List (Nat × AD)) : (asksOf l).length = l.length := List.length_map _

end Go.Proofs.YtkmebilhbjcfpaaGreat
