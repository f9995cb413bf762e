/- Contracts of knownTrees and mergeTrees: trees of known roots, and the peaks that they merge into. Conditions: the sizes are positive and add up to at most 16; the roots are digests. Contracts of treePlace and (*treeNode).siblings. Conditions: at most 16 leaves, the index is of one of them; the tree lies in memory. Contracts of treePlace and of the model's l2Peak: which peak has a leaf. Conditions: -/
import Derived.Test.YtkmebilhbjcfpaaGreatBaseB
import Derived.Deep.RegionLaw
import Derived.Lib.SliceRun
namespace Go.Proofs.YtkmebilhbjcfpaaGreat
open Go.RowKit
set_option linter.unusedVariables false

theorem OwnPtrs.cut {w : World} {base g c : Nat} {zs : List Nat} (h : OwnPtrs w base (some ⟨g, 0, none⟩) c zs) (k : Nat) (hk : k ≤ zs.length) : OwnPtrs w base (some ⟨g, 0, none⟩) c (zs.take k) := by
  have hl : (zs.take k).length = k := by rw [List.length_take]; omega
  rcases h.2 with ⟨hv, _⟩ | ⟨g', c', cur, hv, hb, hg, hn, hm, hs, ht⟩
  · injection hv with hA _ _; cases hA
  · injection hv with hA _ hc
    injection hA with hA
    injection hA with hA _ _
    subst hA hc
    refine ⟨by rw [ptrs_length]; omega, .inr ⟨g, c, cur, rfl, hb, hg, by omega, hm, hs, ?_⟩⟩
    rw [hl, Nat.mul_one]
    rw [Nat.mul_one] at ht
    have e : ptrs (zs.take k) = (ptrs zs).take k := by unfold ptrs; rw [List.map_take]
    rw [e, ← ht, List.take_take, Nat.min_eq_left hk]

/-- Nodes with roots and sizes. -/
structure NodesAt (w : World) (gs : List Nat) (ts : List (Nat × Int)) : Prop where
  same : gs.length = ts.length
  node : ∀ k, k < gs.length → ∃ x y, Node w (gth gs k) (ts.getD k (0, 0)).2 ((ts.getD k (0, 0)).1 : Nat) x y
theorem NodesAt.kept {w w' : World} {gs : List Nat} {ts : List (Nat × Int)} (h : NodesAt w gs ts) (hk : Kept w w') : NodesAt w' gs ts :=
  ⟨h.same, fun k hk' => by obtain ⟨x, y, n⟩ := h.node k hk'; exact ⟨x, y, hk _ _ _ _ _ n⟩⟩
theorem NodesAt.nil (w : World) : NodesAt w [] [] := ⟨rfl, fun k hk => absurd hk (by simp)⟩
theorem getD_snoc {α : Type} (l : List α) (a z : α) (j : Nat) : (l ++ [a]).getD j z = if j < l.length then l.getD j z else if j = l.length then a else z := by
  rw [List.getD_eq_getElem?_getD, List.getD_eq_getElem?_getD]
  by_cases h : j < l.length
  · rw [if_pos h, List.getElem?_append_left h]
  · rw [if_neg h, List.getElem?_append_right (by omega)]
    by_cases e : j = l.length
    · rw [if_pos e, e, Nat.sub_self]; rfl
    · rw [if_neg e, List.getElem?_eq_none (by simp; omega)]; rfl
theorem NodesAt.snoc {w : World} {gs : List Nat} {ts : List (Nat × Int)} (h : NodesAt w gs ts) {g : Nat} {r : Int} {s : Nat} {x y : Option Addr} (hn : Node w g r s x y) : NodesAt w (gs ++ [g]) (ts ++ [(s, r)]) := by
  refine ⟨by rw [List.length_append, List.length_append, h.same]; rfl, fun k hk => ?_⟩
  rw [gth_snoc, getD_snoc, ← h.same]
  by_cases c : k < gs.length
  · rw [if_pos c, if_pos c]; exact h.node k c
  · have e : k = gs.length := by rw [List.length_append] at hk; simp at hk; omega
    rw [if_neg c, if_neg c, if_pos e, if_pos e]
    exact ⟨x, y, hn⟩
theorem NodesAt.cut {w : World} {gs : List Nat} {ts : List (Nat × Int)} (h : NodesAt w gs ts) (k : Nat) : NodesAt w (gs.take k) (ts.take k) := by
  refine ⟨by rw [List.length_take, List.length_take, h.same], fun j hj => ?_⟩
  rw [List.length_take] at hj
  unfold gth
  rw [List.getD_eq_getElem?_getD, List.getD_eq_getElem?_getD, List.getElem?_take_of_lt (by omega), List.getElem?_take_of_lt (by omega)]
  have := h.node j (by omega)
  unfold gth at this
  rw [List.getD_eq_getElem?_getD, List.getD_eq_getElem?_getD] at this
  exact this
theorem NodesAt.roots {w : World} {gs : List Nat} {ts : List (Nat × Int)} (h : NodesAt w gs ts) : RootsAt w gs (ts.map (·.2)) := by
  refine ⟨by rw [h.same, List.length_map], fun k hk => ?_⟩
  obtain ⟨x, y, n⟩ := h.node k hk
  have e : nth (ts.map (·.2)) k = (ts.getD k (0, 0)).2 := by
    unfold nth
    rw [List.getD_eq_getElem?_getD, List.getD_eq_getElem?_getD, List.getElem?_map]
    cases ts[k]? <;> rfl
  rw [e]
  exact ⟨_, x, y, n⟩

theorem zip_take_snoc (ss : List Nat) (rs : List Int) (k : Nat) (h1 : k < ss.length) (h2 : k < rs.length) : (ss.zip rs).take (k + 1) = (ss.zip rs).take k ++ [(ss.getD k 0, nth rs k)] := by
  have hl : k < (ss.zip rs).length := by rw [List.length_zip]; omega
  rw [List.take_succ_eq_append_getElem hl, List.getElem_zip]
  unfold nth
  rw [List.getD_eq_getElem?_getD, List.getD_eq_getElem?_getD, List.getElem?_eq_getElem h1, List.getElem?_eq_getElem h2]
  rfl

def Knowned (w : World) (r s : Int) (e : Ending) (w' : World) : Prop :=
  ∃ g, e = .returned (.pointer (some ⟨g, 0, none⟩)) ∧ Node w' g r s none none ∧ Below w.heap.size w w'
theorem known_ret (r s : Int) (w : World) : Calls Tryz.prog 182 #[.int .i64 r, .int .i64 s] w (Knowned w r s) :=
  (known_any r s w).mono fun e w' ⟨he, hw⟩ => ⟨w.heap.size, he, by rw [hw]; exact Blk.new w _ _, by rw [hw]; exact (Below.refl _ _).alloc (Nat.le_refl _) _⟩

structure KnownLoop (w : World) (ss : List Nat) (rs : List Int) (A : Option Addr) (c : Nat) (gs : List Nat) (k : Nat) (w' : World) : Prop where
  own : OwnPtrs w' w.heap.size A c gs
  below : Below w.heap.size w w'
  len : gs.length = k
  nodes : NodesAt w' gs ((ss.zip rs).take k)

def RetNodes (w : World) (ts : List (Nat × Int)) (e : Ending) (w' : World) : Prop :=
  ∃ A cap gs, e = .returned (.slice A gs.length cap) ∧ OwnPtrs w' w.heap.size A cap gs ∧ NodesAt w' gs ts ∧ Below w.heap.size w w'



end Go.Proofs.YtkmebilhbjcfpaaGreat

namespace Go.Proofs.YtkmebilhbjcfpaaGreat
open Go.RowKit
set_option linter.unusedVariables false

theorem and_small (A C : Nat) (ha : A < 1000000) (hc : C < 1000000) : bits .and .i64 (A : Int) (C : Int) = ((A &&& C : Nat) : Int) := by
  have hx : A &&& C < 2 ^ 62 := Nat.lt_of_le_of_lt (Nat.and_le_left) (by omega)
  have one : ∀ m : Nat, m < 4611686018427387904 → (BitVec.ofInt 64 (m : Int)).toNat = m := by
    intro m hm
    rw [BitVec.ofInt_natCast, BitVec.toNat_ofNat]
    exact Nat.mod_eq_of_lt (by omega)
  show IntKind.i64.wrap ((BitVec.ofInt 64 (A : Int) &&& BitVec.ofInt 64 (C : Int)).toNat : Int) = _
  rw [BitVec.toNat_and, one A (by omega), one C (by omega)]
  exact IntWalk.i64_in _ (by omega)
theorem sib_left {l : List Int} {d i : Nat} (h : i &&& 2 ^ d = 0) : sibG pairZ 0 (d + 1) l i = sibG pairZ 0 d (l.take (2 ^ d)) i ++ [rootG pairZ 0 4 (l.drop (2 ^ d))] := by
  show (if _ then _ else _) = _
  rw [if_pos h]
theorem sib_right {l : List Int} {d i : Nat} (h : ¬ i &&& 2 ^ d = 0) : sibG pairZ 0 (d + 1) l i = sibG pairZ 0 d (l.drop (2 ^ d)) i ++ [rootG pairZ 0 4 (l.take (2 ^ d))] := by
  show (if _ then _ else _) = _
  rw [if_neg h]
theorem sib_length : ∀ (d i : Nat) (l : List Int), (sibG pairZ 0 d l i).length = d := by
  intro d
  induction d with
  | zero => intro i l; rfl
  | succ d ih =>
    intro i l
    by_cases h : i &&& 2 ^ d = 0
    · rw [sib_left h, List.length_append, ih]; rfl
    · rw [sib_right h, List.length_append, ih]; rfl

set_option maxRecDepth 100000 in
set_option maxHeartbeats 2000000 in
theorem sib_go : ∀ (d : Nat) (g i : Nat) (l : List Int) (w : World), TreeAt w d g l → i ≤ 16 → d ≤ 4 →
    Calls Tryz.prog 163 #[.pointer (some ⟨g, 0, none⟩), .int .i64 (i : Int)] w (RetInts w (sibG pairZ 0 d l i)) := by
  intro d
  induction d with
  | zero =>
    intro g i l w hT hi hd
    have c1 := hT.2.c1
    clear hT
    go_enter Tryz.func163, Tryz.ntmps163
    go_wp2
    go_ret
    exact ⟨_, _, rfl, OwnInts.new w, (Below.refl _ _).alloc (Nat.le_refl _) _⟩
  | succ d ih =>
    intro g i l w hT hi hd
    obtain ⟨hl, x, y, hn, hx, hy⟩ := hT
    obtain ⟨h, HH⟩ : ∃ h, Hid (2 ^ d = h) := ⟨2 ^ d, Lib.hid rfl⟩
    have hh1 : 1 ≤ h := by rw [← HH.out]; exact Nat.pos_of_ne_zero (by simp)
    have hh8 : h ≤ 8 := by
      rw [← HH.out]
      have : (2 : Nat) ^ d ≤ 2 ^ 3 := Nat.pow_le_pow_right (by omega) (by omega)
      omega
    obtain ⟨n, HN⟩ : ∃ n : Nat, Hid (2 ^ (d + 1) = n) := ⟨_, rfl⟩
    have hnh : n = h + h := by rw [← HN.out, Nat.pow_succ, HH.out]; omega
    have hn' := hn
    rw [HN.out] at hn'
    have c1 := hn'.c1
    have c2 := hn'.c2
    have c3 := hn'.c3
    obtain ⟨xa, xb, hnx⟩ := hx.node
    obtain ⟨ya, yb, hny⟩ := hy.node
    obtain ⟨rx, HRX⟩ : ∃ r, Hid (rootG pairZ 0 4 (l.take (2 ^ d)) = r) := ⟨_, rfl⟩
    obtain ⟨ry, HRY⟩ : ∃ r, Hid (rootG pairZ 0 4 (l.drop (2 ^ d)) = r) := ⟨_, rfl⟩
    rw [HRX.out] at hnx
    rw [HRY.out] at hny
    have cx0 := hnx.c0
    have cy0 := hny.c0
    have C : Hid (∀ W : World, Below w.heap.size w W → Calls Tryz.prog 163 #[.pointer (some ⟨x, 0, none⟩), .int .i64 (i : Int)] W (RetInts W (sibG pairZ 0 d (l.take (2 ^ d)) i))) := fun W hW => ih x i _ W (hx.kept (Kept.of_below hW)) hi (by omega)
    have D : Hid (∀ W : World, Below w.heap.size w W → Calls Tryz.prog 163 #[.pointer (some ⟨y, 0, none⟩), .int .i64 (i : Int)] W (RetInts W (sibG pairZ 0 d (l.drop (2 ^ d)) i))) := fun W hW => ih y i _ W (hy.kept (Kept.of_below hW)) hi (by omega)
    have hq : (n : Int) / 2 = (h : Int) := by omega
    have hn1 : ((n : Int) == 1) = false := by simp; omega
    obtain ⟨z, HZ⟩ : ∃ z : Nat, Hid (i &&& h = z) := ⟨_, rfl⟩
    have hb : bits .and .i64 (i : Int) (h : Int) = (z : Int) := by rw [and_small i h (by omega) (by omega), HZ.out]
    clear ih hl hn hn' hx hy hnx hny hnh
    by_cases hz : z = 0
    · have HE : Hid (sibG pairZ 0 (d + 1) l i = sibG pairZ 0 d (l.take (2 ^ d)) i ++ [ry]) := by
        show _ = _
        rw [sib_left (by rw [HH.out, HZ.out, hz]), HRY.out]
      subst hz
      have hb0 : bits .and .i64 (i : Int) (h : Int) = 0 := hb
      clear hb
      rw [HE.out]
      obtain ⟨ss, HS⟩ : ∃ ss, Hid (sibG pairZ 0 d (l.take (2 ^ d)) i = ss) := ⟨_, rfl⟩
      have hsl : ss.length ≤ 4 := by rw [← HS.out, sib_length]; omega
      have HSL : Hid (∀ r : Int, ss.length + [r].length ≤ 2147483647) := fun r => by simp; omega
      rw [HS.out] at C ⊢
      obtain ⟨R, HRR⟩ : ∃ R, Hid (ss ++ [ry] = R) := ⟨_, rfl⟩
      rw [HRR.out]
      go_enter Tryz.func163, Tryz.ntmps163
      go_wp2_with fail
      clear hq hb0
      go_region_held3 (fun w' => w'.cell? ⟨g, 2, none⟩ = some (.pointer (some ⟨x, 0, none⟩)) ∧ w'.cell? ⟨g, 3, none⟩ = some (.pointer (some ⟨y, 0, none⟩)) ∧ w'.cell? ⟨y, 0, none⟩ = some (.int .i64 ry)) (go_keep)
        (first
          | (go_at_call 163; (with_reducible refine (C.out w.drew (below_drew (Below.refl _ _))).mono ?_); rintro e w1 ⟨A1, c1', rfl, hown1, hb1⟩; have HO1 : Hid (OwnInts w1 w.heap.size A1 c1' ss) := hown1; have hz1 : w.heap.size ≤ w1.heap.size := hb1.size; have HB1 : Hid (Below w.heap.size w w1) := below_drew_l hb1; have e1 : w1.cell? ⟨g, 2, none⟩ = some (.pointer (some ⟨x, 0, none⟩)) := ((HB1.out.cell (p := ⟨g, 2, none⟩) (World.block_lt_of_cell? w _ c2)).trans c2); have e2 : w1.cell? ⟨g, 3, none⟩ = some (.pointer (some ⟨y, 0, none⟩)) := ((HB1.out.cell (p := ⟨g, 3, none⟩) (World.block_lt_of_cell? w _ c3)).trans c3); have e3 : w1.cell? ⟨y, 0, none⟩ = some (.int .i64 ry) := ((HB1.out.cell (p := ⟨y, 0, none⟩) (World.block_lt_of_cell? w _ cy0)).trans cy0); clear hown1 hb1)
          | (go_at_call 163; (with_reducible refine (C.out (w.alloc (.cells #[.int .i64 ry] 3)).drew (below_drew ((Below.refl _ _).alloc (Nat.le_refl _) _))).mono ?_); rintro e w1 ⟨A1, c1', rfl, hown1, hb1⟩; have HI1 : Hid (IntsAt w1 w1.heap.size (some ⟨w.heap.size, 0, none⟩) [ry]) := (one_new w ry).belowS (below_drew_l hb1); have HO1 : Hid (OwnInts w1 w.heap.size A1 c1' ss) := OwnInts.base_le hown1 (by simp); have HB1 : Hid (Below w.heap.size w w1) := ((Below.refl _ _).alloc (Nat.le_refl _) _).trans ((below_drew_l hb1).mono (by simp)); have hz1 : w.heap.size ≤ w1.heap.size := HB1.out.size; have e1 : w1.cell? ⟨g, 2, none⟩ = some (.pointer (some ⟨x, 0, none⟩)) := ((HB1.out.cell (p := ⟨g, 2, none⟩) (World.block_lt_of_cell? w _ c2)).trans c2); have e2 : w1.cell? ⟨g, 3, none⟩ = some (.pointer (some ⟨y, 0, none⟩)) := ((HB1.out.cell (p := ⟨g, 3, none⟩) (World.block_lt_of_cell? w _ c3)).trans c3); have e3 : w1.cell? ⟨y, 0, none⟩ = some (.int .i64 ry) := ((HB1.out.cell (p := ⟨y, 0, none⟩) (World.block_lt_of_cell? w _ cy0)).trans cy0); clear hown1 hb1)
          | ((with_reducible refine step_app_ints rfl (.tmp 24) (.tmp 32) rfl (w1.alloc (.cells #[.int .i64 ry] 3)) w.heap.size A1 c1' ss rfl _ _ [ry] rfl (HO1.out.alloc _) (one_new _ _) (HSL.out _) (by simp; omega) (by simp) ?_); intro v w3 hA; rw [HRR.out] at hA; obtain ⟨⟨A3, c3', rfl, hown3⟩, hg3, hb3⟩ := hA; have HO3 := Lib.hid hown3; have HB3 : Hid (Below w.heap.size w w3) := (HB1.out.alloc hz1 _).trans hb3; have f1 : w3.cell? ⟨g, 2, none⟩ = some (.pointer (some ⟨x, 0, none⟩)) := ((HB3.out.cell (p := ⟨g, 2, none⟩) (World.block_lt_of_cell? w _ c2)).trans c2); have f2 : w3.cell? ⟨g, 3, none⟩ = some (.pointer (some ⟨y, 0, none⟩)) := ((HB3.out.cell (p := ⟨g, 3, none⟩) (World.block_lt_of_cell? w _ c3)).trans c3); have f3 : w3.cell? ⟨y, 0, none⟩ = some (.int .i64 ry) := ((HB3.out.cell (p := ⟨y, 0, none⟩) (World.block_lt_of_cell? w _ cy0)).trans cy0); clear hown3 hg3 hb3)
          | ((with_reducible refine step_app_ints rfl (.tmp 24) (.tmp 32) rfl w1 w.heap.size A1 c1' ss rfl _ _ [ry] rfl HO1.out HI1.out (HSL.out _) hz1 (by simp) ?_); intro v w3 hA; rw [HRR.out] at hA; obtain ⟨⟨A3, c3', rfl, hown3⟩, hg3, hb3⟩ := hA; have HO3 := Lib.hid hown3; have HB3 : Hid (Below w.heap.size w w3) := HB1.out.trans hb3; have f1 : w3.cell? ⟨g, 2, none⟩ = some (.pointer (some ⟨x, 0, none⟩)) := ((HB3.out.cell (p := ⟨g, 2, none⟩) (World.block_lt_of_cell? w _ c2)).trans c2); have f2 : w3.cell? ⟨g, 3, none⟩ = some (.pointer (some ⟨y, 0, none⟩)) := ((HB3.out.cell (p := ⟨g, 3, none⟩) (World.block_lt_of_cell? w _ c3)).trans c3); have f3 : w3.cell? ⟨y, 0, none⟩ = some (.int .i64 ry) := ((HB3.out.cell (p := ⟨y, 0, none⟩) (World.block_lt_of_cell? w _ cy0)).trans cy0); clear hown3 hg3 hb3))
      all_goals
        go_wp2
        go_ret
        exact ⟨A3, c3', rfl, HO3.out, HB3.out⟩
    · have HE : Hid (sibG pairZ 0 (d + 1) l i = sibG pairZ 0 d (l.drop (2 ^ d)) i ++ [rx]) := by
        show _ = _
        rw [sib_right (by rw [HH.out, HZ.out]; exact hz), HRX.out]
      have hzb : ((z : Int) == 0) = false := by simp; omega
      rw [HE.out]
      obtain ⟨ss, HS⟩ : ∃ ss, Hid (sibG pairZ 0 d (l.drop (2 ^ d)) i = ss) := ⟨_, rfl⟩
      have hsl : ss.length ≤ 4 := by rw [← HS.out, sib_length]; omega
      have HSL : Hid (∀ r : Int, ss.length + [r].length ≤ 2147483647) := fun r => by simp; omega
      rw [HS.out] at D ⊢
      obtain ⟨R, HRR⟩ : ∃ R, Hid (ss ++ [rx] = R) := ⟨_, rfl⟩
      rw [HRR.out]
      go_enter Tryz.func163, Tryz.ntmps163
      go_wp2_with fail
      clear hq hb hzb
      go_region_held3 (fun w' => w'.cell? ⟨g, 2, none⟩ = some (.pointer (some ⟨x, 0, none⟩)) ∧ w'.cell? ⟨g, 3, none⟩ = some (.pointer (some ⟨y, 0, none⟩)) ∧ w'.cell? ⟨x, 0, none⟩ = some (.int .i64 rx)) (go_keep)
        (first
          | (go_at_call 163; (with_reducible refine (D.out w.drew (below_drew (Below.refl _ _))).mono ?_); rintro e w1 ⟨A1, c1', rfl, hown1, hb1⟩; have HO1 : Hid (OwnInts w1 w.heap.size A1 c1' ss) := hown1; have hz1 : w.heap.size ≤ w1.heap.size := hb1.size; have HB1 : Hid (Below w.heap.size w w1) := below_drew_l hb1; have e1 : w1.cell? ⟨g, 2, none⟩ = some (.pointer (some ⟨x, 0, none⟩)) := ((HB1.out.cell (p := ⟨g, 2, none⟩) (World.block_lt_of_cell? w _ c2)).trans c2); have e2 : w1.cell? ⟨g, 3, none⟩ = some (.pointer (some ⟨y, 0, none⟩)) := ((HB1.out.cell (p := ⟨g, 3, none⟩) (World.block_lt_of_cell? w _ c3)).trans c3); have e3 : w1.cell? ⟨x, 0, none⟩ = some (.int .i64 rx) := ((HB1.out.cell (p := ⟨x, 0, none⟩) (World.block_lt_of_cell? w _ cx0)).trans cx0); clear hown1 hb1)
          | (go_at_call 163; (with_reducible refine (D.out (w.alloc (.cells #[.int .i64 rx] 3)).drew (below_drew ((Below.refl _ _).alloc (Nat.le_refl _) _))).mono ?_); rintro e w1 ⟨A1, c1', rfl, hown1, hb1⟩; have HI1 : Hid (IntsAt w1 w1.heap.size (some ⟨w.heap.size, 0, none⟩) [rx]) := (one_new w rx).belowS (below_drew_l hb1); have HO1 : Hid (OwnInts w1 w.heap.size A1 c1' ss) := OwnInts.base_le hown1 (by simp); have HB1 : Hid (Below w.heap.size w w1) := ((Below.refl _ _).alloc (Nat.le_refl _) _).trans ((below_drew_l hb1).mono (by simp)); have hz1 : w.heap.size ≤ w1.heap.size := HB1.out.size; have e1 : w1.cell? ⟨g, 2, none⟩ = some (.pointer (some ⟨x, 0, none⟩)) := ((HB1.out.cell (p := ⟨g, 2, none⟩) (World.block_lt_of_cell? w _ c2)).trans c2); have e2 : w1.cell? ⟨g, 3, none⟩ = some (.pointer (some ⟨y, 0, none⟩)) := ((HB1.out.cell (p := ⟨g, 3, none⟩) (World.block_lt_of_cell? w _ c3)).trans c3); have e3 : w1.cell? ⟨x, 0, none⟩ = some (.int .i64 rx) := ((HB1.out.cell (p := ⟨x, 0, none⟩) (World.block_lt_of_cell? w _ cx0)).trans cx0); clear hown1 hb1)
          | ((with_reducible refine step_app_ints rfl (.tmp 39) (.tmp 47) rfl (w1.alloc (.cells #[.int .i64 rx] 3)) w.heap.size A1 c1' ss rfl _ _ [rx] rfl (HO1.out.alloc _) (one_new _ _) (HSL.out _) (by simp; omega) (by simp) ?_); intro v w3 hA; rw [HRR.out] at hA; obtain ⟨⟨A3, c3', rfl, hown3⟩, hg3, hb3⟩ := hA; have HO3 := Lib.hid hown3; have HB3 : Hid (Below w.heap.size w w3) := (HB1.out.alloc hz1 _).trans hb3; have f1 : w3.cell? ⟨g, 2, none⟩ = some (.pointer (some ⟨x, 0, none⟩)) := ((HB3.out.cell (p := ⟨g, 2, none⟩) (World.block_lt_of_cell? w _ c2)).trans c2); have f2 : w3.cell? ⟨g, 3, none⟩ = some (.pointer (some ⟨y, 0, none⟩)) := ((HB3.out.cell (p := ⟨g, 3, none⟩) (World.block_lt_of_cell? w _ c3)).trans c3); have f3 : w3.cell? ⟨x, 0, none⟩ = some (.int .i64 rx) := ((HB3.out.cell (p := ⟨x, 0, none⟩) (World.block_lt_of_cell? w _ cx0)).trans cx0); clear hown3 hg3 hb3)
          | ((with_reducible refine step_app_ints rfl (.tmp 39) (.tmp 47) rfl w1 w.heap.size A1 c1' ss rfl _ _ [rx] rfl HO1.out HI1.out (HSL.out _) hz1 (by simp) ?_); intro v w3 hA; rw [HRR.out] at hA; obtain ⟨⟨A3, c3', rfl, hown3⟩, hg3, hb3⟩ := hA; have HO3 := Lib.hid hown3; have HB3 : Hid (Below w.heap.size w w3) := HB1.out.trans hb3; have f1 : w3.cell? ⟨g, 2, none⟩ = some (.pointer (some ⟨x, 0, none⟩)) := ((HB3.out.cell (p := ⟨g, 2, none⟩) (World.block_lt_of_cell? w _ c2)).trans c2); have f2 : w3.cell? ⟨g, 3, none⟩ = some (.pointer (some ⟨y, 0, none⟩)) := ((HB3.out.cell (p := ⟨g, 3, none⟩) (World.block_lt_of_cell? w _ c3)).trans c3); have f3 : w3.cell? ⟨x, 0, none⟩ = some (.int .i64 rx) := ((HB3.out.cell (p := ⟨x, 0, none⟩) (World.block_lt_of_cell? w _ cx0)).trans cx0); clear hown3 hg3 hb3))
      all_goals
        go_wp2
        go_ret
        exact ⟨A3, c3', rfl, HO3.out, HB3.out⟩

end Go.Proofs.YtkmebilhbjcfpaaGreat

namespace Go.Proofs.YtkmebilhbjcfpaaGreat
open Go.RowKit
set_option linter.unusedVariables false

/-- Where the k-th peak of n leaves begins, and its size. -/
def atOf (n k : Nat) : Nat := ((places 0 n).getD k (0, 1)).1
def szOf (n k : Nat) : Nat := ((places 0 n).getD k (0, 1)).2
theorem look_place : allNI (fun n i => decide (placeOf n i < (places 0 n).length) && decide (atOf n 0 = 0) && (List.range (places 0 n).length).all fun k =>
    decide (szOf n k = sizeAt (atOf n k) (n - atOf n k)) && decide (atOf n k + szOf n k ≤ n) && decide (1 ≤ szOf n k) && (decide (placeOf n i < k) || decide (atOf n k ≤ i)) && (decide (placeOf n i ≤ k) || (decide (atOf n k + szOf n k ≤ i) && decide (atOf n (k + 1) = atOf n k + szOf n k))) && (decide (k ≠ placeOf n i) || decide (i < atOf n k + szOf n k))) = true := by decide +kernel
theorem place_facts {n i : Nat} (h : n ≤ 16) (hi : i < n) : placeOf n i < (places 0 n).length ∧ atOf n 0 = 0 ∧ ∀ k, k ≤ placeOf n i →
    szOf n k = sizeAt (atOf n k) (n - atOf n k) ∧ atOf n k + szOf n k ≤ n ∧ 1 ≤ szOf n k ∧ atOf n k ≤ i ∧ (k < placeOf n i → atOf n k + szOf n k ≤ i ∧ atOf n (k + 1) = atOf n k + szOf n k) ∧ (k = placeOf n i → i < atOf n k + szOf n k) := by
  have := allNI_get look_place h hi
  simp only [Bool.and_eq_true, Bool.or_eq_true, List.all_eq_true, List.mem_range, decide_eq_true_eq] at this
  obtain ⟨⟨h1, h2⟩, h3⟩ := this
  refine ⟨h1, h2, fun k hk => ?_⟩
  obtain ⟨⟨⟨⟨⟨a, b⟩, c⟩, d⟩, e⟩, f⟩ := h3 k (by omega)
  exact ⟨a, b, c, by omega, fun hlt => by rcases e with e | e; omega; exact e, fun heq => by rcases f with f | f; exact absurd heq f; exact f⟩

set_option maxHeartbeats 2000000 in
theorem place_any (n i : Nat) (A : Option Addr) (c : Nat) (w : World) (hI : IntsAt w w.heap.size A (natsZ (sizesOf 0 n))) (h16 : n ≤ 16) (hi : i < n) :
    Calls Tryz.prog 161 #[.slice A (sizesOf 0 n).length c, .int .i64 (i : Int)] w fun e w' => e = .returned (.int .i64 (placeOf n i : Int)) ∧ w = w' := by
  have HI := Lib.hid hI
  obtain ⟨hp1, hp2, hp3⟩ := place_facts h16 hi
  have HP := Lib.hid hp3
  obtain ⟨m, HM⟩ : ∃ m, Hid ((sizesOf 0 n).length = m) := ⟨_, rfl⟩
  have hpm : placeOf n i < m := by rw [← HM.out, sizesOf_length]; exact hp1
  have hm : m ≤ 17 := by rw [← HM.out, sizesOf_length]; exact places_length_le 0 n
  obtain ⟨p, HPP⟩ : ∃ p, Hid (placeOf n i = p) := ⟨_, rfl⟩
  rw [HPP.out] at hpm HP ⊢
  rw [HM.out]
  have H0 := Lib.hid hp2
  clear hI hp1 hp2 hp3
  go_enter Tryz.func161, Tryz.ntmps161
  go_wp2
  go_loop [1, 5] (fun ii pl => ∃ k : Nat, k ≤ p ∧ ii = .int .i64 ((i - atOf n k : Nat) : Int) ∧ pl = .int .i64 k) (fun _ pl => p - (intOf pl).toNat)
  case atStart => exact ⟨0, by omega, by rw [H0.out]; rfl, rfl⟩
  case round =>
    obtain ⟨k, hk, rfl, rfl⟩ := hrel
    obtain ⟨f1, f2, f3, f4, f5, f6⟩ := HP.out k hk
    have hkm : k < m := by omega
    have hkz : k < (natsZ (sizesOf 0 n)).length := by rw [natsZ_length, HM.out]; exact hkm
    obtain ⟨b, o, rfl, hb, hcell⟩ := HI.out (by omega)
    have hck := hcell k hkz
    rw [natsZ_nth, sizesOf_getD 0 n k (by rw [← sizesOf_length, HM.out]; exact hkm)] at hck
    have hcs : w.cell? ⟨b, o + k, none⟩ = some (.int .i64 (szOf n k : Int)) := hck
    obtain ⟨s, HS⟩ : ∃ s, Hid (szOf n k = s) := ⟨_, rfl⟩
    obtain ⟨a, HA⟩ : ∃ a, Hid (atOf n k = a) := ⟨_, rfl⟩
    rw [HS.out] at hcs f2 f3 f5 f6
    rw [HA.out] at f2 f4 f5 f6 ⊢
    obtain ⟨q, HQ⟩ : ∃ q, Hid (i - a = q) := ⟨_, rfl⟩
    rw [HQ.out]
    have hki : (k : Int) < (m : Int) := by omega
    clear hcell hck hkz f1
    by_cases hlt : k < p
    · obtain ⟨g1, g2⟩ := f5 hlt
      have HG := Lib.hid g2
      have hsq : (s : Int) ≤ (q : Int) := by have := HQ.out; omega
      have hq16 : q ≤ 16 := by have := HQ.out; omega
      clear f5 f6 g2
      go_wp2
      go_round
      case rel => exact ⟨k + 1, by omega, by rw [HG.out]; have := HQ.out; go_num, by go_num⟩
      case measure => simp [intOf]; omega
    · have hkp : k = p := by omega
      subst hkp
      have g1 := f6 rfl
      have hsq : ¬ ((s : Int) ≤ (q : Int)) := by have := HQ.out; omega
      clear f5 f6
      go_wp2
      go_ret
      exact ⟨rfl, rfl⟩

set_option maxHeartbeats 2000000 in
theorem speak_any (n i : Nat) (w : World) (h16 : n ≤ 16) (hi : i < n) :
    Calls Tryz.prog 109 #[.int .i64 (n : Int), .int .i64 (i : Int)] w fun e w' => e = .returned (.tuple #[.int .i64 ((peakOf n i).1 : Int), .int .i64 ((peakOf n i).2 : Int)]) ∧ w = w' := by
  obtain ⟨hp1, hp2, hp3⟩ := place_facts h16 hi
  have HP := Lib.hid hp3
  obtain ⟨p, HPP⟩ : ∃ p, Hid (placeOf n i = p) := ⟨_, rfl⟩
  have HE1 : Hid ((peakOf n i).1 = atOf n p) := by show _ = _; rw [← HPP.out]; rfl
  have HE2 : Hid ((peakOf n i).2 = szOf n p) := by show _ = _; rw [← HPP.out]; rfl
  rw [HPP.out] at HP
  rw [HE1.out, HE2.out]
  have H0 := Lib.hid hp2
  clear hp1 hp2 hp3
  go_enter Tryz.func109, Tryz.ntmps109
  go_wp2
  go_loop [6] (fun pl => ∃ k : Nat, k ≤ p ∧ pl = .int .i64 (atOf n k : Int)) (fun pl => n - (intOf pl).toNat)
  case atStart => exact ⟨0, by omega, by rw [H0.out]; rfl⟩
  case round =>
    obtain ⟨k, hk, rfl⟩ := hrel
    obtain ⟨f1, f2, f3, f4, f5, f6⟩ := HP.out k hk
    obtain ⟨s, HS⟩ : ∃ s, Hid (szOf n k = s) := ⟨_, rfl⟩
    obtain ⟨a, HA⟩ : ∃ a, Hid (atOf n k = a) := ⟨_, rfl⟩
    rw [HA.out, HS.out] at f1
    rw [HS.out] at f2 f3 f5 f6
    rw [HA.out] at f2 f4 f5 f6 ⊢
    have HF := Lib.hid f1
    clear f1
    by_cases hlt : k < p
    · obtain ⟨g1, g2⟩ := f5 hlt
      have HG := Lib.hid g2
      clear f5 f6 g2
      go_wp2_with fail
      refine (ssize_any a n _ (by omega) (by omega)).mono ?_
      rintro e w' ⟨rfl, rfl⟩
      rw [← HF.out]
      go_wp2_with fail
      refine (ssize_any a n _ (by omega) (by omega)).mono ?_
      rintro e w' ⟨rfl, rfl⟩
      rw [← HF.out]
      go_wp2
      go_round
      case rel => exact ⟨k + 1, by omega, by rw [HG.out]; go_num⟩
      case measure => simp [intOf]; omega
    · have hkp : k = p := by omega
      subst hkp
      have g1 := f6 rfl
      clear f5 f6
      go_wp2_with fail
      refine (ssize_any a n _ (by omega) (by omega)).mono ?_
      rintro e w' ⟨rfl, rfl⟩
      rw [← HF.out]
      go_wp2_with fail
      refine (ssize_any a n _ (by omega) (by omega)).mono ?_
      rintro e w' ⟨rfl, rfl⟩
      rw [← HF.out]
      go_wp2
      go_ret2
      exact ⟨by rw [HA.out, HS.out]; rfl, rfl⟩

end Go.Proofs.YtkmebilhbjcfpaaGreat

namespace Go.Proofs.YtkmebilhbjcfpaaGreat
open Go.RowKit
set_option linter.unusedVariables false

theorem cut_eq {α : Type} (l : List α) (i j : Nat) (hij : i ≤ j) (hj : j ≤ l.length) : ((l.take i ++ l.drop j) ++ (l.drop (l.length - (j - i)))).take (l.length - (j - i)) = l.take i ++ l.drop j := by
  have h : (l.take i ++ l.drop j).length = l.length - (j - i) := by rw [List.length_append, List.length_take, List.length_drop]; omega
  rw [← h, List.take_left]

def setMany : List Value → Nat → List Value → List Value
  | xs, _, [] => xs
  | xs, o, v :: r => setMany (xs.set o v) (o + 1) r
theorem setMany_length : ∀ (vs xs : List Value) (o : Nat), (setMany xs o vs).length = xs.length := by
  intro vs
  induction vs with
  | nil => intro xs o; rfl
  | cons v r ih => intro xs o; show (setMany (xs.set o v) (o + 1) r).length = _; rw [ih, List.length_set]
theorem setMany_eq : ∀ (vs xs : List Value) (o : Nat), o + vs.length ≤ xs.length → setMany xs o vs = xs.take o ++ vs ++ xs.drop (o + vs.length) := by
  intro vs
  induction vs with
  | nil => intro xs o h; simp [setMany]
  | cons v r ih =>
    intro xs o h
    simp only [List.length_cons] at h
    show setMany (xs.set o v) (o + 1) r = _
    rw [ih (xs.set o v) (o + 1) (by rw [List.length_set]; omega), List.take_succ_eq_append_getElem (by rw [List.length_set]; omega), List.getElem_set_self, List.take_set_of_le (Nat.le_refl _), List.drop_set_of_lt (by omega)]
    simp only [List.length_cons, List.append_assoc, List.cons_append, List.nil_append]
    rw [show o + 1 + r.length = o + (r.length + 1) by omega]
theorem own_setCells {base g n cap : Nat} {e : TypeId} : ∀ (vs : List Value) (o : Nat) (w : World) (xs : List Value), w.ownsRow base e 1 (.slice (some ⟨g, 0, none⟩) n cap) n xs →
    (w.setCells g o vs).ownsRow base e 1 (.slice (some ⟨g, 0, none⟩) n cap) n (setMany xs o vs) ∧ w.grownBy (w.setCells g o vs) (some g) := by
  intro vs
  induction vs with
  | nil => intro o w xs h; exact ⟨h, World.grownBy.refl _ _⟩
  | cons v r ih =>
    intro o w xs h
    have h1 := World.ownsRow.stored h o v
    have h2 := ih (o + 1) _ _ h1.1
    exact ⟨h2.1, World.grownBy.trans h1.2 h2.2⟩
/-- Fewer elements of a row. -/
theorem own_fewer {w : World} {base g n cap : Nat} {e : TypeId} {xs : List Value} (h : w.ownsRow base e 1 (.slice (some ⟨g, 0, none⟩) n cap) n xs) (m : Nat) (hm : m ≤ n) : w.ownsRow base e 1 (.slice (some ⟨g, 0, none⟩) m cap) m (xs.take m) := by
  refine ⟨by rw [List.length_take, h.1]; omega, ?_⟩
  rcases h.2 with ⟨hv, _⟩ | ⟨g', c, cur, hv, hb, hh, h1, h2, h3, h4⟩
  · injection hv with hA _ _; cases hA
  · injection hv with hA _ hc
    injection hA with hA
    injection hA with hA _ _
    subst hA hc
    refine .inr ⟨g, cap, cur, rfl, hb, hh, by omega, h2, h3, ?_⟩
    rw [← h4, List.take_take, Nat.mul_one, Nat.mul_one, Nat.min_eq_left hm]
theorem own_cells {w : World} {base g n cap : Nat} {e : TypeId} {xs : List Value} (h : w.ownsRow base e 1 (.slice (some ⟨g, 0, none⟩) n cap) n xs) (j : Nat) (hj : j < cap) : (w.cell? ⟨g, j, none⟩).isSome = true ∧ w.frozen? ⟨g, j, none⟩ = false := by
  rcases h.2 with ⟨hv, _⟩ | ⟨g', c, cur, hv, hb, hh, h1, h2, h3, h4⟩
  · injection hv with hA _ _; cases hA
  · injection hv with hA _ hc
    injection hA with hA
    injection hA with hA _ _
    subst hA hc
    refine ⟨?_, ?_⟩
    · rw [cell_of_row w g j cur e (0, 0) hh, Array.getElem?_eq_getElem (by omega)]; rfl
    · simp [World.frozen?, hh]
theorem own_room {w : World} {base g n cap : Nat} {e : TypeId} {xs : List Value} (h : w.ownsRow base e 1 (.slice (some ⟨g, 0, none⟩) n cap) n xs) : n ≤ cap ∧ cap ≤ maxLen := by
  rcases h.2 with ⟨hv, _⟩ | ⟨g', c, cur, hv, hb, hh, h1, h2, h3, h4⟩
  · injection hv with hA _ _; cases hA
  · injection hv with _ _ hc; subst hc; exact ⟨h1, h2⟩
theorem own_reads {w : World} {base g n cap : Nat} {e : TypeId} {xs : List Value} (h : w.ownsRow base e 1 (.slice (some ⟨g, 0, none⟩) n cap) n xs) (j : Nat) (u : Value) (hu : xs[j]? = some u) : w.cell? ⟨g, j, none⟩ = some u := by
  have := World.ownsRow.cells h (g := g) rfl j u hu
  rw [Addr.add_lit, Nat.zero_add] at this
  exact this

set_option maxHeartbeats 4000000 in
set_option maxRecDepth 100000 in
/-- slices.Delete of the elements from i on, up to j. -/
theorem delp_rows (xs : List Value) (i j : Nat) (base b c : Nat) (w : World) (hO : w.ownsRow base 190 1 (.slice (some ⟨b, 0, none⟩) xs.length c) xs.length xs) (h1 : ∀ u ∈ xs, u.oneCell' = true) (hij : i < j) (hj : j ≤ xs.length) (hn : xs.length ≤ 1000) :
    Calls Tryz.prog 165 #[.slice (some ⟨b, 0, none⟩) xs.length c, .int .i64 (i : Int), .int .i64 (j : Int)] w fun e w' => e = .returned (.slice (some ⟨b, 0, none⟩) (xs.length - (j - i)) c) ∧ w'.ownsRow base 190 1 (.slice (some ⟨b, 0, none⟩) (xs.length - (j - i)) c) (xs.length - (j - i)) (xs.take i ++ xs.drop j) ∧ w.grownBy w' (some b) := by
  obtain ⟨i0, hi0, hz0, hz1, hz2⟩ := info_parts ptr_info
  obtain ⟨hr1, hr2⟩ := own_room hO
  unfold maxLen at hr2
  obtain ⟨n, HN⟩ : ∃ n, Hid (xs.length = n) := ⟨_, rfl⟩
  have hOn := hO
  rw [HN.out] at hOn hr1 hj hn ⊢
  obtain ⟨news, HNW⟩ : ∃ news, Hid (xs.drop j = news) := ⟨_, rfl⟩
  have hlen : news.length = n - j := by rw [← HNW.out, List.length_drop, HN.out]
  have HLN := Lib.hid hlen
  obtain ⟨A, hA, hsrc⟩ : ∃ A : Addr, (if c = j then some (⟨b, 0, none⟩ : Addr) else some ⟨b, j, none⟩) = some A ∧ Hid (∀ t u, news[t]? = some u → w.drew.cell? (A.add t) = some u) := by
    by_cases h : c = j
    · refine ⟨⟨b, 0, none⟩, by simp [h], fun t u hu => ?_⟩
      have h0 : news.length = 0 := by rw [hlen]; omega
      rw [List.length_eq_zero_iff.1 h0] at hu
      simp at hu
    · refine ⟨⟨b, j, none⟩, by simp [h], fun t u hu => ?_⟩
      rw [← HNW.out, List.getElem?_drop] at hu
      rw [Addr.add_lit]
      exact own_reads hO (j + t) u hu
  have s1 : Hid (news.length = (n - j) * 1) := by show _ = _; rw [Nat.mul_one]; exact hlen
  have s2 : Hid (∀ u ∈ news, u.oneCell' = true) := by
    intro u hu
    rw [← HNW.out] at hu
    exact h1 u (List.mem_of_mem_drop hu)
  have s3 : Hid (∀ t, t < news.length → (w.drew.cell? ⟨b, 0 + i * 1 + t, none⟩).isSome = true ∧ w.drew.frozen? ⟨b, 0 + i * 1 + t, none⟩ = false) := by
    intro t ht
    rw [hlen] at ht
    exact own_cells hO (0 + i * 1 + t) (by omega)
  obtain ⟨W1, HW1⟩ : ∃ W1, Hid (w.drew.setCells b (0 + i * 1) news = W1) := ⟨_, rfl⟩
  have hown1 : W1.ownsRow base 190 1 (.slice (some ⟨b, 0, none⟩) n c) n (setMany xs i news) ∧ w.grownBy W1 (some b) := by
    rw [← HW1.out, Nat.zero_add, Nat.mul_one]
    have h := own_setCells news i w.drew xs hOn
    exact ⟨h.1, ⟨h.2.os, h.2.tape, h.2.output, h.2.size, h.2.block⟩⟩
  have HO1 := Lib.hid hown1.1
  have HG1 := Lib.hid hown1.2
  have hcl : ∀ ty, (Builtin.clear_ #[182] ty #[.slice (some ⟨b, i + (n - j), none⟩) (n - (i + (n - j))) (c - (i + (n - j)))]).run Tryz.prog W1 = .ok (.tuple #[]) (W1.setCells b (i + (n - j)) (List.replicate (n - (i + (n - j))) (.pointer none))) :=
    fun ty => Lib.run_clear_slice W1 _ _ ty (.pointer none) Tryz.underlying182 (fun w => by first | exact Tryz.zeroValue190 w | (simp [go_sem, zeroValue, typeInfo, hi0, hz0])) rfl rfl b (i + (n - j)) _ _ (by omega) (fun t ht => (own_cells HO1.out _ (by omega)).1) (fun t ht => (own_cells HO1.out _ (by omega)).2)
  have HEND : Hid ((W1.setCells b (i + (n - j)) (List.replicate (n - (i + (n - j))) (.pointer none))).ownsRow base 190 1 (.slice (some ⟨b, 0, none⟩) (n - (j - i)) c) (n - (j - i)) (xs.take i ++ xs.drop j) ∧ w.grownBy (W1.setCells b (i + (n - j)) (List.replicate (n - (i + (n - j))) (.pointer none))) (some b)) := by
    have h2 := own_setCells (List.replicate (n - (i + (n - j))) (.pointer none)) (i + (n - j)) W1 _ HO1.out
    refine ⟨?_, World.grownBy.trans HG1.out h2.2⟩
    have h3 := own_fewer h2.1 (n - (j - i)) (by omega)
    have e1 : setMany xs i news = (xs.take i ++ xs.drop j) ++ xs.drop (n - (j - i)) := by
      rw [setMany_eq news xs i (by rw [hlen, HN.out]; omega), HNW.out, hlen, show i + (n - j) = n - (j - i) by omega]
    have e2 : (setMany (setMany xs i news) (i + (n - j)) (List.replicate (n - (i + (n - j))) (.pointer none))).take (n - (j - i)) = xs.take i ++ xs.drop j := by
      rw [setMany_eq _ _ _ (by rw [setMany_length, List.length_replicate, HN.out]; omega), e1, List.append_assoc, show i + (n - j) = n - (j - i) by omega]
      have hl : (xs.take i ++ xs.drop j).length = n - (j - i) := by rw [List.length_append, List.length_take, List.length_drop, HN.out]; omega
      rw [← hl, List.take_left, List.take_left]
    rw [e2] at h3
    exact h3
  have hic : i ≤ c := by omega
  have hjc : j ≤ c := by omega
  have hij' : (i : Int) ≤ (j : Int) := by omega
  have hne : ((i : Int) == (j : Int)) = false := by rw [beq_eq_false_iff_ne]; omega
  clear hO hOn h1 hlen hown1
  go_enter Tryz.func165, Tryz.ntmps165
  go_wp2_with fail
  go_region_law (refine step_append_room rfl (.tmp 22) (.tmp 25) 182 rfl 190 i0 1 Tryz.underlying182 hi0 hz1 b 0 i c (by simp [Act.eval, Act.put]) A (n - j) (c - j) news (by simp [Act.eval, Act.put]) s1.out hsrc.out s2.out (by omega) s3.out ?_; rw [HW1.out])
  go_wp2
  go_ret
  refine ⟨by rw [show n - (j - i) = i + (n - j) by omega]; rfl, ?_⟩
  exact HEND.out



end Go.Proofs.YtkmebilhbjcfpaaGreat

namespace Go.Proofs.YtkmebilhbjcfpaaGreat
open Go.RowKit
set_option linter.unusedVariables false

def proofOr (zs : List Int) (i : Int) : List Int := if leavesB zs = true ∧ 0 ≤ i ∧ i < zs.length then proofZ zs i.toNat else []
theorem proofOr_yes {zs : List Int} {i : Nat} (h : leavesB zs = true) (hi : i < zs.length) : proofOr zs (i : Int) = proofZ zs i := by
  unfold proofOr
  rw [if_pos ⟨h, by omega, by omega⟩, Int.toNat_natCast]
theorem proofOr_no {zs : List Int} {i : Int} (h : ¬ (leavesB zs = true ∧ 0 ≤ i ∧ i < zs.length)) : proofOr zs i = [] := by unfold proofOr; rw [if_neg h]

theorem ptrs_erase (gs : List Nat) (p : Nat) : (ptrs gs).take p ++ (ptrs gs).drop (p + 1) = ptrs (gs.eraseIdx p) := by
  unfold ptrs
  rw [← List.eraseIdx_eq_take_drop_succ]
  exact eraseIdx_map gs p
theorem OwnPtrs.row {w : World} {base : Nat} {A : Option Addr} {c : Nat} {gs : List Nat} (h : OwnPtrs w base A c gs) (hn : 0 < gs.length) : ∃ b, A = some ⟨b, 0, none⟩ ∧ base ≤ b ∧ ∃ cs, Blk w b 190 cs := by
  rcases h.2 with ⟨hv, h0⟩ | ⟨g, cap, cur, hv, hb, hh, _⟩
  · omega
  · injection hv with hA _ _
    exact ⟨g, hA, hb, cur, hh⟩

/-- What slices.Delete leaves. -/
def Deleted (w : World) (base b c : Nat) (gs : List Nat) (e : Ending) (w' : World) : Prop :=
  e = .returned (.slice (some ⟨b, 0, none⟩) gs.length c) ∧ OwnPtrs w' base (some ⟨b, 0, none⟩) c gs ∧ w.grownBy w' (some b)

theorem delp_any (gs : List Nat) (p base b c : Nat) (w : World) (hO : OwnPtrs w base (some ⟨b, 0, none⟩) c gs) (hp : p < gs.length) (hn : gs.length ≤ 1000) :
    Calls Tryz.prog 165 #[.slice (some ⟨b, 0, none⟩) gs.length c, .int .i64 (p : Int), .int .i64 ((p : Int) + 1)] w (Deleted w base b c (gs.eraseIdx p)) := by
  have h1 : w.ownsRow base 190 1 (.slice (some ⟨b, 0, none⟩) (ptrs gs).length c) (ptrs gs).length (ptrs gs) := by rw [ptrs_length]; exact hO
  have h := delp_rows (ptrs gs) p (p + 1) base b c w h1 (ptrs_one gs) (by omega) (by rw [ptrs_length]; omega) (by rw [ptrs_length]; exact hn)
  rw [ptrs_length, ptrs_erase, show gs.length - (p + 1 - p) = (gs.eraseIdx p).length by rw [List.length_eraseIdx_of_lt hp]; omega] at h
  exact h

theorem RootsAt.erase {w : World} {gs : List Nat} {rs : List Int} (h : RootsAt w gs rs) (p : Nat) (hp : p < gs.length) : RootsAt w (gs.eraseIdx p) (rs.eraseIdx p) := by
  have hs := h.same
  refine ⟨by rw [List.length_eraseIdx_of_lt hp, List.length_eraseIdx_of_lt (by omega), hs], fun k hk => ?_⟩
  rw [List.length_eraseIdx_of_lt hp] at hk
  have key : gth (gs.eraseIdx p) k = gth gs (if k < p then k else k + 1) ∧ nth (rs.eraseIdx p) k = nth rs (if k < p then k else k + 1) := by
    unfold gth nth
    rw [List.getD_eq_getElem?_getD, List.getD_eq_getElem?_getD, List.getD_eq_getElem?_getD, List.getD_eq_getElem?_getD, List.getElem?_eraseIdx, List.getElem?_eraseIdx]
    by_cases c : k < p
    · rw [if_pos c, if_pos c, if_pos c]; exact ⟨rfl, rfl⟩
    · rw [if_neg c, if_neg c, if_neg c]; exact ⟨rfl, rfl⟩
  rw [key.1, key.2]
  exact h.node _ (by split <;> omega)

set_option maxHeartbeats 1000000 in
theorem proof_no (zs : List Int) (A : Option Addr) (cap : Nat) (i : Int) (w : World) (hI : IntsAt w w.heap.size A zs) (hmax : zs.length ≤ maxLen) (hno : ¬ (leavesB zs = true ∧ 0 ≤ i ∧ i < zs.length)) :
    Calls Tryz.prog 133 #[.slice A zs.length cap, .int .i64 i] w (RetInts w []) := by
  have HI := Lib.hid hI
  have HM := Lib.hid hmax
  have HNO := Lib.hid hno
  clear hI hmax hno
  cases hv : leavesB zs with
  | true =>
    have HV := Lib.hid hv
    have HMO : Hid (¬ (0 ≤ i ∧ i < zs.length)) := fun h => HNO.out ⟨hv, h.1, h.2⟩
    clear hv
    by_cases h0 : i < 0
    · go_enter Tryz.func133, Tryz.ntmps133
      go_wp2_with fail
      refine (leaves_any _ _ zs _ HI.out HM.out).mono ?_
      rintro e w' ⟨rfl, rfl⟩
      rw [HV.out]
      go_wp2
      go_ret
      exact ⟨_, _, rfl, OwnInts.new w, (Below.refl _ _).alloc (Nat.le_refl _) _⟩
    · have h1 : (zs.length : Int) ≤ i := by have := HMO.out; omega
      go_enter Tryz.func133, Tryz.ntmps133
      go_wp2_with fail
      refine (leaves_any _ _ zs _ HI.out HM.out).mono ?_
      rintro e w' ⟨rfl, rfl⟩
      rw [HV.out]
      go_wp2
      go_ret
      exact ⟨_, _, rfl, OwnInts.new w, (Below.refl _ _).alloc (Nat.le_refl _) _⟩
  | false =>
    have HV := Lib.hid hv
    clear hv
    go_enter Tryz.func133, Tryz.ntmps133
    go_wp2_with fail
    refine (leaves_any _ _ zs _ HI.out HM.out).mono ?_
    rintro e w' ⟨rfl, rfl⟩
    rw [HV.out]
    go_wp2
    go_ret
    exact ⟨_, _, rfl, OwnInts.new w, (Below.refl _ _).alloc (Nat.le_refl _) _⟩

set_option maxHeartbeats 4000000 in
set_option maxRecDepth 100000 in
theorem proof_yes (zs : List Int) (b o cap i : Nat) (w : World) (hI : IntsAt w w.heap.size (some ⟨b, o, none⟩) zs) (hcap : zs.length ≤ cap) (hmax : cap ≤ maxLen) (hv : leavesB zs = true) (hi : i < zs.length) :
    Calls Tryz.prog 133 #[.slice (some ⟨b, o, none⟩) zs.length cap, .int .i64 (i : Int)] w (RetInts w (proofZ zs i)) := by
  have HI := Lib.hid hI
  have HMX := Lib.hid hmax
  have HC := Lib.hid hcap
  have HM := Lib.hid (Nat.le_trans hcap hmax)
  obtain ⟨h16, hd⟩ := leavesB_yes hv
  have HV := Lib.hid hv
  have HD := Lib.hid hd
  obtain ⟨hp1, _, _⟩ := place_facts h16 hi
  obtain ⟨n, HN⟩ : ∃ n, Hid (zs.length = n) := ⟨_, rfl⟩
  obtain ⟨p, HP⟩ : ∃ p, Hid (placeOf n i = p) := ⟨_, rfl⟩
  rw [HN.out, HP.out] at hp1
  have h16n : n ≤ 16 := by rw [← HN.out]; exact h16
  have hin : i < n := by rw [← HN.out]; exact hi
  have HH := Lib.hid h16
  have C1 : Hid (Calls Tryz.prog 155 #[.slice (some ⟨b, o, none⟩) n cap, .int .i64 0] w (RetTrees w zs (places 0 n))) := by
    have := trees_any zs b o cap 0 w hI h16 hcap hmax hd (by omega)
    rw [HN.out] at this
    exact this
  have CL : Hid (Calls Tryz.prog 153 #[.slice (some ⟨b, o, none⟩) n cap] w fun e w' => e = .returned (.bool true) ∧ w = w') := by
    have := leaves_any _ cap zs w hI (Nat.le_trans hcap hmax)
    rw [HN.out, hv] at this
    exact this
  rw [HN.out]
  have hi2 : ¬ ((n : Int) ≤ (i : Int)) := by omega
  clear hI hv hd hcap hmax hi h16
  go_enter Tryz.func133, Tryz.ntmps133
  go_wp2_with fail
  refine CL.out.mono ?_
  rintro e w' ⟨rfl, rfl⟩
  go_wp2_with fail
  refine C1.out.mono ?_
  rintro e w1 ⟨A1, c1, gs, rfl, hown1, htr1, hb1⟩
  have hgl : gs.length = (places 0 n).length := htr1.same
  have hpg : p < gs.length := by omega
  obtain ⟨b1, rfl, hbb1, cs1, hblk1⟩ := hown1.row (by omega)
  have HO1 := Lib.hid hown1
  have HT1 := Lib.hid htr1
  have HB1 := Lib.hid hb1
  have hg17 : gs.length ≤ 17 := by rw [hgl]; exact places_length_le 0 n
  obtain ⟨d, hd4, hdp, hta⟩ := htr1.tree p (by omega)
  have HTA := Lib.hid hta
  have HDP := Lib.hid hdp
  have HGL := Lib.hid hgl
  have hb1lt : b1 < w1.heap.size := hblk1.lt
  clear hown1 htr1 hb1 hta hdp hgl
  go_wp2_with fail
  refine (sizes_any 0 n _ h16n (by omega)).mono ?_
  rintro e w2 ⟨A2, c2, rfl, hown2, hb2⟩
  rw [natsZ_length]
  have HO2 := Lib.hid hown2
  have HO12 := Lib.hid (HO1.out.below hb2)
  have HK2 := Lib.hid (Kept.of_below hb2)
  have HB2 : Hid (Below w.heap.size w w2) := HB1.out.trans (hb2.mono HB1.out.size)
  have hblk2 := hblk1.below hb2 hb1lt
  have HBK2 := Lib.hid hblk2
  have hz2 : w1.heap.size ≤ w2.heap.size := hb2.size
  clear hown2 hb2 hblk1 hblk2
  go_wp2_with fail
  refine (place_any n i A2 c2 _ HO2.out.ints h16n hin).mono ?_
  rintro e w' ⟨rfl, rfl⟩
  rw [HP.out]
  have hcp : w2.cell? ⟨b1, p, none⟩ = some (.pointer (some ⟨gth gs p, 0, none⟩)) := by
    have h1 := (HO12.out.ints.lt (by omega)).2 p hpg
    rw [Nat.zero_add] at h1
    exact h1
  have hpi : (p : Int) < (gs.length : Int) := by omega
  have hpi0 : (0 : Int) ≤ (p : Int) := by omega
  go_wp2_with fail
  refine (sib_go d (gth gs p) i _ _ (HTA.out.kept HK2.out) (by omega) hd4).mono ?_
  rintro e w3 ⟨A3, c3, rfl, hown3, hb3⟩
  obtain ⟨ss, HSS⟩ : ∃ ss, Hid (sibG pairZ 0 d (segG zs ((places 0 n).getD p (0, 1)).1 ((places 0 n).getD p (0, 1)).2) i = ss) := ⟨_, rfl⟩
  rw [HSS.out] at hown3 ⊢
  have hsl : ss.length ≤ 4 := by rw [← HSS.out, sib_length]; exact hd4
  have HO3 := Lib.hid hown3
  have HO13 := Lib.hid (HO12.out.below hb3)
  have HK3 := Lib.hid (HK2.out.trans (Kept.of_below hb3))
  have HB3 : Hid (Below w.heap.size w w3) := HB2.out.trans (hb3.mono HB2.out.size)
  have HBK3 := Lib.hid (HBK2.out.below hb3 (by omega))
  have hz3 : w2.heap.size ≤ w3.heap.size := hb3.size
  clear hown3 hb3 hcp
  go_wp2_with fail
  refine (delp_any gs p w.heap.size b1 c1 _ HO13.out hpg (by omega)).mono ?_
  rintro e w4 ⟨rfl, hown4, hg4⟩
  have HO4 := Lib.hid hown4
  have HK4 : Hid (Kept w1 w4) := HK3.out.trans (fun g r s x y hn => Blk.grown hn hg4 (fun e => by injection e with e; exact Blk.ne_ hn HBK3.out (by decide) e))
  have HO34 : Hid (OwnInts w4 w2.heap.size A3 c3 ss) := by
    refine World.ownsRow.kept HO3.out hg4 ?_
    rcases HO3.out.2 with ⟨hv, _⟩ | ⟨g, cc, cur, hv, hb, _⟩
    · left; rw [hv]; rfl
    · right
      rw [hv]
      intro e
      have : g = b1 := by simpa [Value.ownBlock] using e
      omega
  have HB4 : Hid (Below w.heap.size w w4) := HB3.out.grown hg4 (by have := HB3.out.size; omega) (fun k hk => by injection hk with hk; omega)
  have hz4 : w3.heap.size ≤ w4.heap.size := hg4.size
  clear hown4 hg4
  have HRT : Hid (RootsAt w4 (gs.eraseIdx p) ((coverZ zs 0).eraseIdx p)) := by
    have h1 := (HT1.out.kept HK4.out).roots
    have h2 : coverP pairZ 0 zs (places 0 n) = coverZ zs 0 := by unfold coverZ coverG; rw [HN.out]
    rw [h2] at h1
    exact h1.erase p hpg
  go_wp2_with fail
  refine (roots_any _ c1 (gs.eraseIdx p) ((coverZ zs 0).eraseIdx p) _ HO4.out.ints (by rw [List.length_eraseIdx_of_lt hpg]; omega) HRT.out).mono ?_
  rintro e w5 ⟨A5, c5, rfl, hown5, hb5⟩
  obtain ⟨rs, HRS⟩ : ∃ rs, Hid ((coverZ zs 0).eraseIdx p = rs) := ⟨_, rfl⟩
  have hrl : rs.length ≤ 17 := by
    have h1 := HRT.out.same
    rw [List.length_eraseIdx_of_lt hpg, HRS.out] at h1
    omega
  rw [HRS.out] at hown5 ⊢
  have HO5 := Lib.hid hown5
  have HO35 := Lib.hid (HO34.out.below hb5)
  have HB5 : Hid (Below w.heap.size w w5) := HB4.out.trans (hb5.mono HB4.out.size)
  have hz5 : w4.heap.size ≤ w5.heap.size := hb5.size
  clear hown5 hb5
  have HEQ : Hid (proofZ zs i = ss ++ rs) := by
    show _ = _
    rw [← HSS.out, ← HRS.out]
    unfold proofZ proofG
    have hdd : depthOf n i = d := by
      unfold depthOf peakOf
      rw [HP.out, HDP.out]
      exact Nat.log2_two_pow
    rw [HN.out, hdd, HP.out]
    unfold peakOf
    rw [HP.out]
    rfl
  go_wp2_with (at_builtin; refine wpList_app_ints rfl (.tmp 35) (.tmp 41) rfl _ w2.heap.size A3 c3 ss rfl A5 c5 rs rfl HO35.out HO5.out.ints (by omega) (by omega) HO5.out.none0 ?_; intro v w6 hA; obtain ⟨⟨A6, c6, rfl, hown6⟩, hg6, hb6⟩ := hA; have HO6 := Lib.hid hown6; have HB6 : Hid (Below w.heap.size w w6) := HB5.out.trans (hb6.mono (by have := HB2.out.size; omega)); clear hown6 hg6 hb6)
  go_ret
  refine ⟨A6, c6, by rw [HEQ.out]; simp, ?_, HB6.out⟩
  rw [HEQ.out]
  exact HO6.out.base_le HB2.out.size

theorem proof_any (zs : List Int) (i : Int) (b o cap : Nat) (w : World) (hI : IntsAt w w.heap.size (some ⟨b, o, none⟩) zs) (hcap : zs.length ≤ cap) (hmax : cap ≤ maxLen) :
    Calls Tryz.prog 133 #[.slice (some ⟨b, o, none⟩) zs.length cap, .int .i64 i] w (RetInts w (proofOr zs i)) := by
  by_cases h : leavesB zs = true ∧ 0 ≤ i ∧ i < zs.length
  · obtain ⟨k, rfl⟩ := Int.eq_ofNat_of_zero_le h.2.1
    rw [proofOr_yes h.1 (by omega)]
    exact proof_yes zs b o cap k w hI hcap hmax h.1 (by omega)
  · rw [proofOr_no h]
    exact proof_no zs _ cap i w hI (Nat.le_trans hcap hmax) h

end Go.Proofs.YtkmebilhbjcfpaaGreat

namespace Go.Proofs.YtkmebilhbjcfpaaGreat
open Go.RowKit
set_option linter.unusedVariables false

theorem look_sib : allNI (fun n i => [1, 2, 4, 8].all fun st => !decide (st < (peakOf n i).2) || (decide (sibAt i st + st ≤ n))) = true := by decide +kernel
theorem sib_facts {n i st : Nat} (h : n ≤ 16) (hi : i < n) (hst : st = 1 ∨ st = 2 ∨ st = 4 ∨ st = 8) (hlt : st < (peakOf n i).2) : sibAt i st + st ≤ n := by
  have := allNI_get look_sib h hi
  simp only [List.all_eq_true, Bool.or_eq_true, Bool.not_eq_true', decide_eq_false_iff_not, decide_eq_true_eq] at this
  have := this st (by rcases hst with e | e | e | e <;> subst e <;> simp)
  omega
theorem sibS_step {l : List Int} {i size f st : Nat} (h : st < size) : sibSGo pairZ 0 l i size (f + 1) st = rootG pairZ 0 4 (segG l (sibAt i st) st) :: sibSGo pairZ 0 l i size f (2 * st) := by
  show (if _ then _ else _) = _
  rw [if_pos h]
theorem sibS_stop {l : List Int} {i size f st : Nat} (h : ¬ st < size) : sibSGo pairZ 0 l i size f st = [] := by
  cases f with
  | zero => rfl
  | succ f => show (if _ then _ else _) = _; rw [if_neg h]

/-- Where the model's first loop stands. -/
structure SibAt (w : World) (zs : List Int) (i size : Nat) (A : Option Addr) (c : Nat) (ds : List Int) (st f : Nat) (w' : World) : Prop where
  own : OwnInts w' w.heap.size A c ds
  below : Below w.heap.size w w'
  rest : ds ++ sibSGo pairZ 0 zs i size f st = sibSGo pairZ 0 zs i size 5 1
  form : (st = 1 ∧ f = 5) ∨ (st = 2 ∧ f = 4) ∨ (st = 4 ∧ f = 3) ∨ (st = 8 ∧ f = 2) ∨ (st = 16 ∧ f = 1)
  short : ds.length + f = 5

/-- Where the model's second loop stands. -/
structure OutAt (w : World) (zs : List Int) (i n at_ : Nat) (A : Option Addr) (c : Nat) (es : List Int) (s f : Nat) (w' : World) : Prop where
  own : OwnInts w' w.heap.size A c es
  below : Below w.heap.size w w'
  rest : es ++ coverP pairZ 0 zs ((placesGo f s n).filter fun p => p.1 != at_) = proofS pairZ 0 zs i
  fuel : n < s + f
  short : es.length ≤ 5 + s

set_option maxHeartbeats 4000000 in
set_option maxRecDepth 100000 in
theorem sproof_yes (zs : List Int) (b o cap i : Nat) (w : World) (hI : IntsAt w w.heap.size (some ⟨b, o, none⟩) zs) (hcap : zs.length ≤ cap) (hmax : cap ≤ maxLen) (hv : leavesB zs = true) (hi : i < zs.length) :
    Calls Tryz.prog 67 #[.slice (some ⟨b, o, none⟩) zs.length cap, .int .i64 (i : Int)] w (RetInts w (proofS pairZ 0 zs i)) := by
  have HI := Lib.hid hI
  have HC := Lib.hid hcap
  obtain ⟨h16, hd⟩ := leavesB_yes hv
  have HD := Lib.hid hd
  obtain ⟨n, HN⟩ : ∃ n, Hid (zs.length = n) := ⟨_, rfl⟩
  have hin : i < n := by rw [← HN.out]; exact hi
  have h16n : n ≤ 16 := by rw [← HN.out]; exact h16
  have CL : Hid (∀ W : World, Below w.heap.size w W → Calls Tryz.prog 106 #[.slice (some ⟨b, o, none⟩) n cap] W fun e w' => e = .returned (.bool true) ∧ W = w') := fun W hW => by
    have := sdigs_any _ cap zs W (hI.belowS hW) (Nat.le_trans hcap hmax)
    rw [HN.out, hv] at this
    exact this
  obtain ⟨at_, HAT⟩ : ∃ a, Hid ((peakOf n i).1 = a) := ⟨_, rfl⟩
  obtain ⟨size, HSZ⟩ : ∃ s, Hid ((peakOf n i).2 = s) := ⟨_, rfl⟩
  have hs16 : size ≤ 16 := by
    obtain ⟨_, _, h3⟩ := place_facts h16n hin
    obtain ⟨_, h4, _⟩ := h3 (placeOf n i) (Nat.le_refl _)
    rw [← HSZ.out]
    show szOf n (placeOf n i) ≤ 16
    omega
  have hcn : n ≤ cap := by rw [← HN.out]; exact hcap
  rw [HN.out]
  unfold maxLen at hmax
  clear hI hv hd hcap hi h16
  go_enter Tryz.func67, Tryz.ntmps67
  go_wp2_with fail
  refine (CL.out _ ((Below.refl _ _).alloc (Nat.le_refl _) _)).mono ?_
  rintro e w' ⟨rfl, rfl⟩
  go_wp2_with fail
  refine (in_yes _ _ _ _ (by omega) (by omega)).mono ?_
  rintro e w' ⟨rfl, rfl⟩
  go_wp2_with fail
  refine (speak_any n i _ h16n hin).mono ?_
  rintro e w' ⟨rfl, rfl⟩
  rw [HAT.out, HSZ.out]
  go_wp2
  go_loopw [5, 9] (fun x st w' => ∃ (A : Option Addr) (c : Nat) (ds : List Int) (k f : Nat), x = .slice A ds.length c ∧ st = .int .i64 (k : Int) ∧ SibAt w zs i size A c ds k f w') (fun _ st _ => 16 - (intOf st).toNat)
  case atStart =>
    refine ⟨_, _, [], 1, 5, rfl, rfl, ?_⟩
    exact ⟨OwnInts.new w, (Below.refl _ _).alloc (Nat.le_refl _) _, rfl, by omega, rfl⟩
  case round =>
    obtain ⟨A, c, ds, k, f, rfl, rfl, hC⟩ := hrel
    have HC := Lib.hid hC
    have hform := hC.form
    have hshort := hC.short
    clear hC
    by_cases hlt : k < size
    · have hk1 : 1 ≤ k := by omega
      have hk16 : k ≤ 16 := by omega
      have hf1 : 2 ≤ f := by omega
      obtain ⟨f, rfl⟩ : ∃ f', f = f' + 1 := ⟨f - 1, by omega⟩
      have hsf : sibAt i k + k ≤ n := sib_facts h16n hin (by omega) (by rw [HSZ.out]; exact hlt)
      obtain ⟨q, HQ⟩ : ∃ q, Hid (i / k = q) := ⟨_, rfl⟩
      obtain ⟨m, HM⟩ : ∃ m, Hid (q * k = m) := ⟨_, rfl⟩
      have hmd : m / k = q := by rw [← HM.out]; exact Nat.mul_div_cancel q (by omega)
      have hmi : m ≤ i := by rw [← HM.out, ← HQ.out]; exact Nat.div_mul_le_self i k
      obtain ⟨sv, HSV⟩ : ∃ sv, Hid (sibAt i k = sv) := ⟨_, rfl⟩
      have hsv : sv = if q % 2 = 0 then m + k else m - k := by rw [← HSV.out]; unfold sibAt; rw [HQ.out, HM.out, hmd]
      have hmk : ¬ q % 2 = 0 → k ≤ m := fun h => by
        rw [← HM.out]
        have : 1 * k ≤ q * k := Nat.mul_le_mul_right k (by omega)
        omega
      rw [HSV.out] at hsf
      have hseg : (segG zs sv k).length = k := segG_length zs sv k (by rw [HN.out]; omega)
      obtain ⟨r, HR⟩ : ∃ r, Hid (rootG pairZ 0 4 (segG zs sv k) = r) := ⟨_, rfl⟩
      have C : Hid (Calls Tryz.prog 110 #[.slice (some ⟨b, o + sv, none⟩) k (cap - sv)] wr fun e w' => e = .returned (.int .i64 r) ∧ ∃ q, w' = wr.drewN q) := by
        have hp := ((HI.out.part sv k rfl).below HC.out.below (Nat.le_refl _)).more HC.out.below.size
        have := sroot_go 4 (segG zs sv k) b (o + sv) (cap - sv) wr hp (by omega) (by omega) (by omega) (by omega) (by unfold maxLen; omega) (HD.out.seg sv k)
        rw [hseg, HR.out] at this
        exact this
      have hb0 : w.heap.size ≤ wr.heap.size := HC.out.below.size
      have HREST : Hid ((ds ++ [r]) ++ sibSGo pairZ 0 zs i size f (2 * k) = sibSGo pairZ 0 zs i size 5 1) := by
        show _ = _
        rw [← HC.out.rest, sibS_step hlt, HSV.out, HR.out, List.append_assoc]; rfl
      have hi1 : (sv : Int) ≤ (sv : Int) + (k : Int) := by omega
      have hi2 : (sv : Int) + (k : Int) ≤ (cap : Int) := by omega
      have hne : ¬ cap = sv := by omega
      have e1 : (i : Int) / (k : Int) = (q : Int) := by rw [← HQ.out]; exact (Int.natCast_ediv i k).symm
      have e2 : (q : Int) * (k : Int) = (m : Int) := by rw [← HM.out]; exact (Int.natCast_mul q k).symm
      have e3 : (m : Int) / (k : Int) = (q : Int) := by rw [← hmd]; exact (Int.natCast_ediv m k).symm
      have hq16 : q ≤ 16 := by rw [← HQ.out]; exact Nat.le_trans (Nat.div_le_self i k) (by omega)
      have hm16 : m ≤ 16 := by omega
      clear hseg hmd
      by_cases hpar : q % 2 = 0
      · have e4 : (q : Int) % 2 = 0 := by omega
        have e5 : (m : Int) + (k : Int) = (sv : Int) := by rw [hsv, if_pos hpar]; omega
        clear hsv hmk hpar
        go_wp2_with fail
        refine C.out.mono ?_
        rintro e w2 ⟨rfl, z, rfl⟩
        clear e1 e2 e3 e4 e5
        go_wp2_with (at_builtin; refine wpList_app_ints rfl (.tmp 53) (.tmp 61) rfl _ w.heap.size A c ds rfl _ _ [r] rfl ((HC.out.own.drewN z).alloc _) (one_new _ _) (by simp; omega) (by simp; omega) (by simp) ?_; intro v w3 hA)
        obtain ⟨⟨A', c', rfl, hown⟩, hg, hbel⟩ := hA
        have HO3 := Lib.hid hown
        have HB3 : Hid (Below w.heap.size w w3) := ((below_drewN HC.out.below z).alloc (by simp; omega) _).trans hbel
        clear hown hg hbel
        go_wp2
        go_roundw
        case rel => exact ⟨A', c', ds ++ [r], 2 * k, f, rfl, by go_num, HO3.out, HB3.out, HREST.out, by omega, by rw [List.length_append]; simp; omega⟩
        case measure => simp [intOf]; omega
      · have e4 : ((q : Int) % 2 == 0) = false := by simp; omega
        have hkm := hmk hpar
        have e5 : (m : Int) - (k : Int) = (sv : Int) := by rw [hsv, if_neg hpar]; omega
        clear hsv hmk hpar
        go_wp2_with fail
        refine C.out.mono ?_
        rintro e w2 ⟨rfl, z, rfl⟩
        clear e1 e2 e3 e4 e5
        go_wp2_with (at_builtin; refine wpList_app_ints rfl (.tmp 53) (.tmp 61) rfl _ w.heap.size A c ds rfl _ _ [r] rfl ((HC.out.own.drewN z).alloc _) (one_new _ _) (by simp; omega) (by simp; omega) (by simp) ?_; intro v w3 hA)
        obtain ⟨⟨A', c', rfl, hown⟩, hg, hbel⟩ := hA
        have HO3 := Lib.hid hown
        have HB3 : Hid (Below w.heap.size w w3) := ((below_drewN HC.out.below z).alloc (by simp; omega) _).trans hbel
        clear hown hg hbel
        go_wp2
        go_roundw
        case rel => exact ⟨A', c', ds ++ [r], 2 * k, f, rfl, by go_num, HO3.out, HB3.out, HREST.out, by omega, by rw [List.length_append]; simp; omega⟩
        case measure => simp [intOf]; omega
    · have hS : ds = sibSGo pairZ 0 zs i size 5 1 := by
        have := HC.out.rest
        rw [sibS_stop hlt, List.append_nil] at this
        exact this
      have hdl : ds.length ≤ 5 := by omega
      have HPS : Hid (ds ++ coverP pairZ 0 zs ((placesGo 17 0 n).filter fun p => p.1 != at_) = proofS pairZ 0 zs i) := by
        show _ = _
        unfold proofS
        rw [HN.out, HSZ.out, HAT.out, ← hS]
        rfl
      clear hS
      go_wp2
      go_loopw [5, 11] (fun x kk w' => ∃ (A : Option Addr) (c : Nat) (es : List Int) (s f : Nat), s ≤ n ∧ x = .slice A es.length c ∧ kk = .int .i64 (s : Int) ∧ OutAt w zs i n at_ A c es s f w') (fun _ kk _ => n - (intOf kk).toNat)
      case atStart =>
        refine ⟨A, c, ds, 0, 17, by omega, rfl, rfl, ?_⟩
        exact ⟨HC.out.own, HC.out.below, HPS.out, by omega, by omega⟩
      case round =>
        obtain ⟨A1, c1, es, s, f1, hs, rfl, rfl, hE⟩ := hrel
        have HE := Lib.hid hE
        clear hE
        by_cases hsn : s < n
        · obtain ⟨f1, rfl⟩ : ∃ f', f1 = f' + 1 := by
            cases f1 with
            | zero => have := HE.out.fuel; omega
            | succ f => exact ⟨f, rfl⟩
          obtain ⟨z, HZ⟩ : ∃ z, Hid (sizeAt s (n - s) = z) := ⟨_, rfl⟩
          have hz1 : 1 ≤ z := by rw [← HZ.out]; exact sizeAt_pos _ _
          have hz2 : z ≤ n - s := by rw [← HZ.out]; exact sizeAt_le _ _ (by omega)
          have hes : es.length ≤ 21 := by have := HE.out.short; omega
          by_cases hat : s = at_
          · subst hat
            have HREST : Hid (es ++ coverP pairZ 0 zs ((placesGo f1 (s + z) n).filter fun p => p.1 != s) = proofS pairZ 0 zs i) := by
              show _ = _
              rw [← HE.out.rest, placesGo_step hsn, HZ.out, List.filter_cons_of_neg (by simp)]
            have hne : ((s : Int) != (s : Int)) = false := by simp
            go_wp2_with fail
            refine (ssize_any s n _ (by omega) (by omega)).mono ?_
            rintro e w' ⟨rfl, rfl⟩
            rw [HZ.out]
            go_wp2
            go_roundw
            case rel => exact ⟨A1, c1, es, s + z, f1, by omega, rfl, by go_num, HE.out.own, HE.out.below, HREST.out, by have := HE.out.fuel; omega, by have := HE.out.short; omega⟩
            case measure => simp [intOf]; omega
          · have hne : ((s : Int) != (at_ : Int)) = true := by rw [bne_iff_ne]; omega
            have hseg : (segG zs s z).length = z := segG_length zs s z (by rw [HN.out]; omega)
            obtain ⟨r, HR⟩ : ∃ r, Hid (rootG pairZ 0 4 (segG zs s z) = r) := ⟨_, rfl⟩
            have C : Hid (Calls Tryz.prog 110 #[.slice (some ⟨b, o + s, none⟩) z (cap - s)] wr fun e w' => e = .returned (.int .i64 r) ∧ ∃ q, w' = World.drewN wr q) := by
              have hp := ((HI.out.part s z rfl).below HE.out.below (Nat.le_refl _)).more HE.out.below.size
              have := sroot_go 4 (segG zs s z) b (o + s) (cap - s) _ hp (by omega) (by omega) (by omega) (by omega) (by unfold maxLen; omega) (HD.out.seg s z)
              rw [hseg, HR.out] at this
              exact this
            have HREST : Hid ((es ++ [r]) ++ coverP pairZ 0 zs ((placesGo f1 (s + z) n).filter fun p => p.1 != at_) = proofS pairZ 0 zs i) := by
              show _ = _
              rw [← HE.out.rest, placesGo_step hsn, HZ.out, List.filter_cons_of_pos (by simp; exact hat), coverP_cons, HR.out, List.append_assoc]
              rfl
            have hb0 : w.heap.size ≤ wr.heap.size := HE.out.below.size
            have hi1 : (s : Int) ≤ (s : Int) + (z : Int) := by omega
            have hi2 : (s : Int) + (z : Int) ≤ (cap : Int) := by omega
            have hnc : ¬ cap = s := by omega
            clear hseg
            go_wp2_with fail
            refine (ssize_any s n _ (by omega) (by omega)).mono ?_
            rintro e w' ⟨rfl, rfl⟩
            rw [HZ.out]
            go_wp2_with fail
            refine C.out.mono ?_
            rintro e w2 ⟨rfl, q, rfl⟩
            go_wp2_with (at_builtin; refine wpList_app_ints rfl (.tmp 74) (.tmp 84) rfl _ w.heap.size A1 c1 es rfl _ _ [r] rfl ((HE.out.own.drewN q).alloc _) (one_new _ _) (by simp; omega) (by simp; omega) (by simp) ?_; intro v w3 hA)
            obtain ⟨⟨A', c', rfl, hown⟩, hg, hbel⟩ := hA
            have HO3 := Lib.hid hown
            have HB3 : Hid (Below w.heap.size w w3) := ((below_drewN HE.out.below q).alloc (by simp; omega) _).trans hbel
            clear hown hg hbel
            go_wp2_with fail
            refine (ssize_any s n _ (by omega) (by omega)).mono ?_
            rintro e w' ⟨rfl, rfl⟩
            rw [HZ.out]
            go_wp2
            go_roundw
            case rel => exact ⟨A', c', es ++ [r], s + z, f1, by omega, by simp, by go_num, HO3.out, HB3.out, HREST.out, by have := HE.out.fuel; omega, by have := HE.out.short; rw [List.length_append]; simp; omega⟩
            case measure => simp [intOf]; omega
        · have HF : Hid (es = proofS pairZ 0 zs i) := by
            show _ = _
            rw [← HE.out.rest, placesGo_stop hsn]
            simp [coverP]
          go_wp2
          go_ret
          refine ⟨A1, c1, ?_, ?_, HE.out.below⟩
          · rw [← HF.out]; rfl
          · rw [← HF.out]; exact HE.out.own

set_option maxHeartbeats 1000000 in
theorem sproof_no (zs : List Int) (A : Option Addr) (cap : Nat) (i : Int) (w : World) (hI : IntsAt w w.heap.size A zs) (hmax : zs.length ≤ maxLen) (hno : ¬ (leavesB zs = true ∧ 0 ≤ i ∧ i < zs.length)) :
    Calls Tryz.prog 67 #[.slice A zs.length cap, .int .i64 i] w (RetInts w []) := by
  have HI := Lib.hid hI
  have HM := Lib.hid hmax
  have HNO := Lib.hid hno
  unfold maxLen at hmax
  clear hI hno
  cases hv : leavesB zs with
  | true =>
    have HV := Lib.hid hv
    have HMO : Hid (¬ (0 ≤ i ∧ i ≤ (zs.length : Int) - 1)) := fun h => HNO.out ⟨hv, h.1, by omega⟩
    clear hv
    go_enter Tryz.func67, Tryz.ntmps67
    go_wp2_with fail
    refine (sdigs_any _ _ zs _ (HI.out.allocS _) HM.out).mono ?_
    rintro e w' ⟨rfl, rfl⟩
    rw [HV.out]
    go_wp2_with fail
    refine (in_no _ _ _ _ HMO.out).mono ?_
    rintro e w' ⟨rfl, rfl⟩
    go_wp2
    go_ret
    exact ⟨_, _, rfl, OwnInts.new w, (Below.refl _ _).alloc (Nat.le_refl _) _⟩
  | false =>
    have HV := Lib.hid hv
    clear hv
    go_enter Tryz.func67, Tryz.ntmps67
    go_wp2_with fail
    refine (sdigs_any _ _ zs _ (HI.out.allocS _) HM.out).mono ?_
    rintro e w' ⟨rfl, rfl⟩
    rw [HV.out]
    go_wp2
    go_ret
    exact ⟨_, _, rfl, OwnInts.new w, (Below.refl _ _).alloc (Nat.le_refl _) _⟩

theorem sproof_any (zs : List Int) (i : Int) (b o cap : Nat) (w : World) (hI : IntsAt w w.heap.size (some ⟨b, o, none⟩) zs) (hcap : zs.length ≤ cap) (hmax : cap ≤ maxLen) :
    Calls Tryz.prog 67 #[.slice (some ⟨b, o, none⟩) zs.length cap, .int .i64 i] w (RetInts w (proofOr zs i)) := by
  by_cases h : leavesB zs = true ∧ 0 ≤ i ∧ i < zs.length
  · obtain ⟨k, rfl⟩ := Int.eq_ofNat_of_zero_le h.2.1
    rw [proofOr_yes h.1 (by omega), ← proof_same zs k (leavesB_yes h.1).1 (by omega)]
    exact sproof_yes zs b o cap k w hI hcap hmax h.1 (by omega)
  · rw [proofOr_no h]
    exact sproof_no zs _ cap i w hI (Nat.le_trans hcap hmax) h

theorem proofOr_short (zs : List Int) (i : Int) : (proofOr zs i).length ≤ 6 := by
  by_cases h : leavesB zs = true ∧ 0 ≤ i ∧ i < zs.length
  · obtain ⟨k, rfl⟩ := Int.eq_ofNat_of_zero_le h.2.1
    have h16 := (leavesB_yes h.1).1
    rw [proofOr_yes h.1 (by omega), proofZ_length zs k h16 (by omega)]
    exact proofLen_le h16 (by omega)
  · rw [proofOr_no h]; simp

end Go.Proofs.YtkmebilhbjcfpaaGreat
