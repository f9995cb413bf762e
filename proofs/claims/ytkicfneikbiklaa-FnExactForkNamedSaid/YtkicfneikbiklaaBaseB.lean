/- Nodes of trees in memory, and the contracts of knownTree, pairTrees, treeOf: the last makes a complete tree of its leaves. Conditions: the leaves are valid digests, a power of two of them; roots are digests. Slices of pointers to nodes: how they read, and how one is appended. Conditions: the lengths stay below 2^31. Contracts of treeSizes, treesOf, treeRoots, peaksDigest, TreePeaks and TreeDigest. Conditions: the leaves lie in memory; of the inner functions, that they are valid. Contracts of treeRoots, peaksDigest, TreePeaks and TreeDigest: the roots of the peaks, and the digest that folds them. Conditions: the leaves lie in memory; of the inner functions, that the trees are there. What the laws on peaks need of the plain mathematics of trees. Conditions: at most 16 leaves. -/
import Derived.Test.YtkicfneikbiklaaBaseA
import Derived.Deep.RegionHeld3
import Derived.Deep.AppendLies
import Derived.Laws.Pointers
namespace Go.Proofs.Ytkicfneikbiklaa
open Go.RowKit
set_option linter.unusedVariables false

/-- A block that is known whole. -/
def Blk (w : World) (g : Nat) (t : TypeId) (cs : Array Value) : Prop := w.heap[g]? = some (.cells cs t (0, 0))
section
variable {w w' : World} {g : Nat} {t : TypeId} {cs : Array Value}
theorem Blk.lt (h : Blk w g t cs) : g < w.heap.size := by
  rcases Nat.lt_or_ge g w.heap.size with hlt | hge
  · exact hlt
  · unfold Blk at h; rw [Array.getElem?_eq_none hge] at h; cases h
theorem Blk.cell (h : Blk w g t cs) (i : Nat) : w.cell? ⟨g, i, none⟩ = cs[i]? := cell_of_row w g i cs t (0, 0) h
theorem Blk.new (w : World) (t : TypeId) (cs : Array Value) : Blk (w.alloc (.cells cs t)) w.heap.size t cs := heap_alloc_new w _
theorem Blk.drewN (h : Blk w g t cs) (n : Nat) : Blk (w.drewN n) g t cs := h
theorem Blk.alloc (h : Blk w g t cs) (o : Obj) : Blk (w.alloc o) g t cs := (Below.heap_alloc w o g h.lt).trans h
theorem Blk.below {B : Nat} (h : Blk w g t cs) (hb : Below B w w') (hg : g < B) : Blk w' g t cs := (hb.block g hg).trans h
theorem Blk.grown {row : Option Nat} (h : Blk w g t cs) (hb : w.grownBy w' row) (hg : some g ≠ row) : Blk w' g t cs := (hb.block g h.lt hg).trans h
theorem Blk.ne_ {g' : Nat} {t' : TypeId} {cs' : Array Value} (h : Blk w g t cs) (h' : Blk w g' t' cs') (hne : t ≠ t') : g ≠ g' := by
  rintro rfl
  unfold Blk at h h'
  rw [h] at h'
  injection h' with h'
  injection h' with _ ht
  exact hne ht
theorem own_blk_ne {base : Nat} {e : TypeId} {size n : Nat} {v : Value} {xs : List Value} (h : w.ownsRow base e size v n xs) (hg : Blk w g t cs) (hne : e ≠ t) : v.ownBlock ≠ some g := by
  rcases h.2 with ⟨rfl, _⟩ | ⟨g', cap, cur, rfl, _, hh, _⟩
  · simp [Value.ownBlock]
  · intro he
    have : g' = g := by simpa [Value.ownBlock] using he
    subst this
    exact Blk.ne_ (t := e) hh hg hne rfl
end

















end Go.Proofs.Ytkicfneikbiklaa

namespace Go.Proofs.Ytkicfneikbiklaa
open Go.RowKit
set_option linter.unusedVariables false

























end Go.Proofs.Ytkicfneikbiklaa

namespace Go.Proofs.Ytkicfneikbiklaa
open Go.RowKit
set_option linter.unusedVariables false

def natsZ (l : List Nat) : List Int := l.map Int.ofNat
theorem natsZ_length (l : List Nat) : (natsZ l).length = l.length := List.length_map _
theorem natsZ_nth (l : List Nat) (k : Nat) : nth (natsZ l) k = (l.getD k 0 : Nat) := by
  unfold nth natsZ
  rw [List.getD_eq_getElem?_getD, List.getD_eq_getElem?_getD, List.getElem?_map]
  cases l[k]? <;> rfl

/-- Where the loop over sizes stands. -/
structure SizesAt (w : World) (s0 n : Nat) (A : Option Addr) (c : Nat) (ds : List Nat) (s f : Nat) (w' : World) : Prop where
  own : OwnInts w' w.heap.size A c (natsZ ds)
  below : Below w.heap.size w w'
  rest : ds ++ (placesGo f s n).map (·.2) = sizesOf s0 n
  fuel : n < s + f
  short : ds.length ≤ s



theorem drop_cons {α : Type} {l : List α} {k : Nat} {a : α} {t : List α} (h : l.drop k = a :: t) (z : α) : l.getD k z = a ∧ l.drop (k + 1) = t ∧ k < l.length := by
  have hk : k < l.length := by
    rcases Nat.lt_or_ge k l.length with h1 | h1
    · exact h1
    · rw [List.drop_eq_nil_of_le h1] at h; cases h
  rw [List.drop_eq_getElem_cons hk] at h
  injection h with h1 h2
  exact ⟨by rw [List.getD_eq_getElem?_getD, List.getElem?_eq_getElem hk]; exact h1, h2, hk⟩
theorem sizesOf_getD (s n k : Nat) (h : k < (places s n).length) : (sizesOf s n).getD k 0 = ((places s n).getD k (0, 1)).2 := by
  unfold sizesOf
  rw [List.getD_eq_getElem?_getD, List.getD_eq_getElem?_getD, List.getElem?_map, List.getElem?_eq_getElem h]
  rfl
theorem sizesOf_length (s n : Nat) : (sizesOf s n).length = (places s n).length := List.length_map _











theorem places_length_le (s n : Nat) : (places s n).length ≤ 17 := by
  have key : ∀ f s, (placesGo f s n).length ≤ f := by
    intro f
    induction f with
    | zero => intro s; exact Nat.le_refl _
    | succ f ih =>
      intro s
      by_cases h : s < n
      · rw [placesGo_step h, List.length_cons]; have := ih (s + sizeAt s (n - s)); omega
      · rw [placesGo_stop h]; simp
  exact key 17 s



end Go.Proofs.Ytkicfneikbiklaa

namespace Go.Proofs.Ytkicfneikbiklaa
open Go.RowKit
set_option linter.unusedVariables false



structure RootsLoop (w : World) (rs : List Int) (A : Option Addr) (c k : Nat) (w' : World) : Prop where
  own : OwnInts w' w.heap.size A c (rs.take k)
  below : Below w.heap.size w w'











end Go.Proofs.Ytkicfneikbiklaa

namespace Go.Proofs.Ytkicfneikbiklaa
open Go.RowKit

theorem OwnInts.none0 {w : World} {base : Nat} {A : Option Addr} {cap : Nat} {zs : List Int} (h : OwnInts w base A cap zs) : A = none → cap = 0 := by
  intro hA
  subst hA
  rcases h.2 with ⟨hv, _⟩ | ⟨g, c, cur, hv, _⟩
  · injection hv
  · injection hv with hA _ _; cases hA
theorem peaksOr_yes {zs : List Int} (h : 0 < (peaksOr zs).length) : zs.length ≤ 16 ∧ Digs zs ∧ peaksOr zs = coverZ zs 0 := by
  unfold peaksOr at h ⊢
  by_cases c : leavesB zs = true
  · rw [if_pos c] at h ⊢
    exact ⟨(leavesB_yes c).1, (leavesB_yes c).2, rfl⟩
  · rw [if_neg c] at h; simp at h
theorem peaksOr_of {zs : List Int} (h : zs.length ≤ 16) (hd : Digs zs) : peaksOr zs = coverZ zs 0 := by unfold peaksOr; rw [if_pos (leavesB_of h hd)]
theorem digestOr_of {zs : List Int} (h : zs.length ≤ 16) (hd : Digs zs) : digestOr zs = digestZ zs := by unfold digestOr; rw [if_pos (leavesB_of h hd)]
theorem foldZ_bd (n : Int) (zs : List Int) (h0 : 0 ≤ n) (h1 : n < 991) : 0 ≤ foldZ n zs ∧ foldZ n zs < 991 := by
  have := foldFrom_bd n zs zs.length h0 h1 (Nat.le_refl _)
  unfold foldFrom at this
  rwa [List.take_length] at this
theorem digestOr_cases (zs : List Int) : digestOr zs = -1 ∨ (zs.length ≤ 16 ∧ Digs zs ∧ digestOr zs = digestZ zs ∧ 0 ≤ digestZ zs ∧ digestZ zs < 991) := by
  unfold digestOr
  by_cases c : leavesB zs = true
  · rw [if_pos c]
    obtain ⟨h1, h2⟩ := leavesB_yes c
    obtain ⟨h3, h4⟩ := foldZ_bd zs.length (coverZ zs 0) (by omega) (by omega)
    exact .inr ⟨h1, h2, rfl, h3, h4⟩
  · rw [if_neg c]; exact .inl rfl

def popGo : Nat → Nat → Nat
  | 0, _ => 0
  | f + 1, k => if 0 < k then k % 2 + popGo f (k / 2) else 0
theorem look_pop : allN (fun n => decide ((places 0 n).length = popGo 6 n)) = true := by decide +kernel
theorem pop_peaks (zs : List Int) (h : zs.length ≤ 16) : (coverZ zs 0).length = popGo 6 zs.length := by
  rw [coverG_length, ← of_decide_eq_true (allN_get look_pop h)]; exact List.length_map _
theorem popGo_step {f k : Nat} (h : 0 < k) : popGo (f + 1) k = k % 2 + popGo f (k / 2) := by show (if _ then _ else _) = _; rw [if_pos h]
theorem popGo_stop {f k : Nat} (h : ¬ 0 < k) : popGo f k = 0 := by
  cases f with
  | zero => rfl
  | succ f => show (if _ then _ else _) = _; rw [if_neg h]
theorem popGo_le : ∀ f k, popGo f k ≤ f := by
  intro f
  induction f with
  | zero => intro k; exact Nat.le_refl _
  | succ f ih =>
    intro k
    by_cases h : 0 < k
    · rw [popGo_step h]; have := ih (k / 2); omega
    · rw [popGo_stop h]; omega

theorem look_next : allN (fun n => decide (n % 2 = 1 ∨ n = 16 ∨ coverG tp [] (vars (n + 1)) 0 = coverG tp [] (vars n) 0 ++ [[n + 1]])) = true := by decide +kernel
theorem vars_take (n m : Nat) (h : m ≤ n) : (vars n).take m = vars m := by
  unfold vars; rw [← List.map_take, List.take_range, Nat.min_eq_left h]
theorem peaks_next (zs : List Int) (x : Int) (h : zs.length < 16) (h2 : zs.length % 2 = 0) : coverZ (zs ++ [x]) 0 = coverZ zs 0 ++ [x] := by
  have hl : (zs ++ [x]).length = zs.length + 1 := by simp
  have e1 := coverG_ev 0 0 (zs ++ [x]) (by omega) 0
  have e2 := coverG_takeEv 0 0 (zs ++ [x]) (by omega) zs.length 0
  rw [List.take_left, hl, vars_take _ _ (by omega)] at e2
  rw [hl] at e1
  have hk := of_decide_eq_true (allN_get look_next (n := zs.length) (by omega))
  have hk' : coverG tp [] (vars (zs.length + 1)) 0 = coverG tp [] (vars zs.length) 0 ++ [[zs.length + 1]] := by
    rcases hk with h3 | h3 | h3
    · omega
    · omega
    · exact h3
  unfold coverZ
  rw [e1, e2, hk', List.map_append]
  have : [([zs.length + 1] : List Nat)].map (ev (envOf 0 0 (zs ++ [x]))) = [x] := by
    simp only [List.map_cons, List.map_nil]
    rw [ev_var, envOf_at _ _ _ _ (by omega), List.getD_eq_getElem?_getD, List.getElem?_append_right (Nat.le_refl _)]
    simp
  rw [this]

theorem look_whole : allN (fun n => (List.range 5).all fun k => decide (2 ^ k ≤ n → (places 0 (2 ^ k)).length = 1)) = true := by decide +kernel
theorem peaks_whole (k : Nat) (h : k ≤ 4) : (sizesOf 0 (2 ^ k)).length = 1 := by
  have := allN_get look_whole (n := 16) (by omega)
  rw [List.all_eq_true] at this
  have := of_decide_eq_true (this k (List.mem_range.2 (by omega)))
  unfold sizesOf
  rw [List.length_map]
  exact this (by have := Nat.pow_le_pow_right (n := 2) (by omega) h; omega)
theorem look_two : allN (fun n => decide (n < 2 ∨ ((places 0 n).length = 1 → (n / 2 + n / 2 = n ∧ (coverG tp [] ((vars n).take (n / 2)) 0).length = 1 ∧ (coverG tp [] ((vars n).drop (n / 2)) 0).length = 1 ∧
    coverG tp [] (vars n) 0 = [tp ((coverG tp [] ((vars n).take (n / 2)) 0).headD []) ((coverG tp [] ((vars n).drop (n / 2)) 0).headD [])])))) = true := by decide +kernel
theorem headD_mapev (e : Nat → Int) (h0 : ev e [] = 0) (l : List (List Nat)) : (l.map (ev e)).headD 0 = ev e (l.headD []) := by cases l <;> simp [h0]
theorem peaks_join (zs : List Int) (h : zs.length ≤ 16) (h2 : 2 ≤ zs.length) (h1 : (coverZ zs 0).length = 1) :
    zs.length / 2 + zs.length / 2 = zs.length ∧ (coverZ (zs.take (zs.length / 2)) 0).length = 1 ∧ (coverZ (zs.drop (zs.length / 2)) 0).length = 1 ∧ nth (coverZ zs 0) 0 = pairZ (nth (coverZ (zs.take (zs.length / 2)) 0) 0) (nth (coverZ (zs.drop (zs.length / 2)) 0) 0) := by
  have hk := of_decide_eq_true (allN_get look_two h)
  rcases hk with hk | hk
  · omega
  · rw [coverG_length] at h1
    unfold sizesOf at h1
    rw [List.length_map] at h1
    obtain ⟨ha, hb, hc, hd⟩ := hk h1
    have e1 := coverG_ev 0 0 zs (by omega) 0
    have e2 := coverG_takeEv 0 0 zs (by omega) (zs.length / 2) 0
    have e3 := coverG_dropEv 0 0 zs (by omega) (zs.length / 2) 0
    refine ⟨ha, ?_, ?_, ?_⟩
    · unfold coverZ; rw [e2, List.length_map]; exact hb
    · unfold coverZ; rw [e3, List.length_map]; exact hc
    · unfold coverZ
      rw [← headD_nth, ← headD_nth, ← headD_nth, e1, e2, e3, headD_mapev _ (env0 0 0 zs), headD_mapev _ (env0 0 0 zs), headD_mapev _ (env0 0 0 zs), ← ev_tp, hd]
      rfl
theorem cover_one (zs : List Int) (h : zs.length = 1) : coverZ zs 0 = zs := by
  match zs, h with
  | [a], _ => rfl
theorem cover_two (zs : List Int) (h : zs.length = 2) : coverZ zs 0 = [pairZ (nth zs 0) (nth zs 1)] := by
  match zs, h with
  | [a, b], _ =>
    have h2 : places 0 2 = [(0, 2)] := by decide +kernel
    unfold coverZ coverG
    rw [show [a, b].length = 2 from rfl, h2]
    simp [coverP, segG, rootG, nth]

end Go.Proofs.Ytkicfneikbiklaa
