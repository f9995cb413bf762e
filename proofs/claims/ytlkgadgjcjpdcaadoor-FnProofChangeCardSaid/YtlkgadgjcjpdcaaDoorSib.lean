/- Contracts of treePlace and (*treeNode).siblings. Conditions: at most 16 leaves, the index is of one of them; the tree lies in memory. -/
import Derived.Test.YtlkgadgjcjpdcaaDoorTrees
namespace Go.Proofs.YtlkgadgjcjpdcaaDoor
open Go.RowKit
set_option linter.unusedVariables false

theorem and_small (A C : Nat) (ha : A < 1000000) (hc : C < 1000000) : bits .and .i64 (A : Int) (C : Int) = ((A &&& C : Nat) : Int) := by
  have hx : A &&& C < 2 ^ 62 := Nat.lt_of_le_of_lt (Nat.and_le_left) (by omega)
  have one : ∀ m : Nat, m < 4611686018427387904 → (BitVec.ofInt 64 (m : Int)).toNat = m := by
    intro m hm
    rw [BitVec.ofInt_natCast, BitVec.toNat_ofNat]
    exact Nat.mod_eq_of_lt (by omega)
  show IntKind.i64.wrap ((BitVec.ofInt 64 (A : Int) &&& BitVec.ofInt 64 (C : Int)).toNat : Int) = _
  rw [BitVec.toNat_and, one A (by omega), one C (by omega)]
  exact IntWalk.i64_in _ (by omega)
theorem sib_left {l : List Int} {d i : Nat} (h : i &&& 2 ^ d = 0) : sibG pairZ 0 (d + 1) l i = sibG pairZ 0 d (l.take (2 ^ d)) i ++ [rootG pairZ 0 4 (l.drop (2 ^ d))] := by
  show (if _ then _ else _) = _
  rw [if_pos h]
theorem sib_right {l : List Int} {d i : Nat} (h : ¬ i &&& 2 ^ d = 0) : sibG pairZ 0 (d + 1) l i = sibG pairZ 0 d (l.drop (2 ^ d)) i ++ [rootG pairZ 0 4 (l.take (2 ^ d))] := by
  show (if _ then _ else _) = _
  rw [if_neg h]
theorem sib_length : ∀ (d i : Nat) (l : List Int), (sibG pairZ 0 d l i).length = d := by
  intro d
  induction d with
  | zero => intro i l; rfl
  | succ d ih =>
    intro i l
    by_cases h : i &&& 2 ^ d = 0
    · rw [sib_left h, List.length_append, ih]; rfl
    · rw [sib_right h, List.length_append, ih]; rfl

set_option maxRecDepth 100000 in
set_option maxHeartbeats 2000000 in
theorem sib_go : ∀ (d : Nat) (g i : Nat) (l : List Int) (w : World), TreeAt w d g l → i ≤ 16 → d ≤ 4 →
    Calls Tryd.prog 27 #[.pointer (some ⟨g, 0, none⟩), .int .i64 (i : Int)] w (RetInts w (sibG pairZ 0 d l i)) := by
  intro d
  induction d with
  | zero =>
    intro g i l w hT hi hd
    have c1 := hT.2.c1
    clear hT
    go_enter Tryd.func27, Tryd.ntmps27
    go_wp2
    go_ret
    exact ⟨_, _, rfl, OwnInts.new w, (Below.refl _ _).alloc (Nat.le_refl _) _⟩
  | succ d ih =>
    intro g i l w hT hi hd
    obtain ⟨hl, x, y, hn, hx, hy⟩ := hT
    obtain ⟨h, HH⟩ : ∃ h, Hid (2 ^ d = h) := ⟨2 ^ d, Lib.hid rfl⟩
    have hh1 : 1 ≤ h := by rw [← HH.out]; exact Nat.pos_of_ne_zero (by simp)
    have hh8 : h ≤ 8 := by
      rw [← HH.out]
      have : (2 : Nat) ^ d ≤ 2 ^ 3 := Nat.pow_le_pow_right (by omega) (by omega)
      omega
    obtain ⟨n, HN⟩ : ∃ n : Nat, Hid (2 ^ (d + 1) = n) := ⟨_, rfl⟩
    have hnh : n = h + h := by rw [← HN.out, Nat.pow_succ, HH.out]; omega
    have hn' := hn
    rw [HN.out] at hn'
    have c1 := hn'.c1
    have c2 := hn'.c2
    have c3 := hn'.c3
    obtain ⟨xa, xb, hnx⟩ := hx.node
    obtain ⟨ya, yb, hny⟩ := hy.node
    obtain ⟨rx, HRX⟩ : ∃ r, Hid (rootG pairZ 0 4 (l.take (2 ^ d)) = r) := ⟨_, rfl⟩
    obtain ⟨ry, HRY⟩ : ∃ r, Hid (rootG pairZ 0 4 (l.drop (2 ^ d)) = r) := ⟨_, rfl⟩
    rw [HRX.out] at hnx
    rw [HRY.out] at hny
    have cx0 := hnx.c0
    have cy0 := hny.c0
    have C : Hid (∀ W : World, Below w.heap.size w W → Calls Tryd.prog 27 #[.pointer (some ⟨x, 0, none⟩), .int .i64 (i : Int)] W (RetInts W (sibG pairZ 0 d (l.take (2 ^ d)) i))) := fun W hW => ih x i _ W (hx.kept (Kept.of_below hW)) hi (by omega)
    have D : Hid (∀ W : World, Below w.heap.size w W → Calls Tryd.prog 27 #[.pointer (some ⟨y, 0, none⟩), .int .i64 (i : Int)] W (RetInts W (sibG pairZ 0 d (l.drop (2 ^ d)) i))) := fun W hW => ih y i _ W (hy.kept (Kept.of_below hW)) hi (by omega)
    have hq : (n : Int) / 2 = (h : Int) := by omega
    have hn1 : ((n : Int) == 1) = false := by simp; omega
    obtain ⟨z, HZ⟩ : ∃ z : Nat, Hid (i &&& h = z) := ⟨_, rfl⟩
    have hb : bits .and .i64 (i : Int) (h : Int) = (z : Int) := by rw [and_small i h (by omega) (by omega), HZ.out]
    clear ih hl hn hn' hx hy hnx hny hnh
    by_cases hz : z = 0
    · have HE : Hid (sibG pairZ 0 (d + 1) l i = sibG pairZ 0 d (l.take (2 ^ d)) i ++ [ry]) := by
        show _ = _
        rw [sib_left (by rw [HH.out, HZ.out, hz]), HRY.out]
      subst hz
      have hb0 : bits .and .i64 (i : Int) (h : Int) = 0 := hb
      clear hb
      rw [HE.out]
      obtain ⟨ss, HS⟩ : ∃ ss, Hid (sibG pairZ 0 d (l.take (2 ^ d)) i = ss) := ⟨_, rfl⟩
      have hsl : ss.length ≤ 4 := by rw [← HS.out, sib_length]; omega
      have HSL : Hid (∀ r : Int, ss.length + [r].length ≤ 2147483647) := fun r => by simp; omega
      rw [HS.out] at C ⊢
      obtain ⟨R, HRR⟩ : ∃ R, Hid (ss ++ [ry] = R) := ⟨_, rfl⟩
      rw [HRR.out]
      go_enter Tryd.func27, Tryd.ntmps27
      go_wp2_with fail
      clear hq hb0
      go_region_held3 (fun w' => w'.cell? ⟨g, 2, none⟩ = some (.pointer (some ⟨x, 0, none⟩)) ∧ w'.cell? ⟨g, 3, none⟩ = some (.pointer (some ⟨y, 0, none⟩)) ∧ w'.cell? ⟨y, 0, none⟩ = some (.int .i64 ry)) (go_keep)
        (first
          | (go_at_call 27; (with_reducible refine (C.out w.drew (below_drew (Below.refl _ _))).mono ?_); rintro e w1 ⟨A1, c1', rfl, hown1, hb1⟩; have HO1 : Hid (OwnInts w1 w.heap.size A1 c1' ss) := hown1; have hz1 : w.heap.size ≤ w1.heap.size := hb1.size; have HB1 : Hid (Below w.heap.size w w1) := below_drew_l hb1; have e1 : w1.cell? ⟨g, 2, none⟩ = some (.pointer (some ⟨x, 0, none⟩)) := ((HB1.out.cell (p := ⟨g, 2, none⟩) (World.block_lt_of_cell? w _ c2)).trans c2); have e2 : w1.cell? ⟨g, 3, none⟩ = some (.pointer (some ⟨y, 0, none⟩)) := ((HB1.out.cell (p := ⟨g, 3, none⟩) (World.block_lt_of_cell? w _ c3)).trans c3); have e3 : w1.cell? ⟨y, 0, none⟩ = some (.int .i64 ry) := ((HB1.out.cell (p := ⟨y, 0, none⟩) (World.block_lt_of_cell? w _ cy0)).trans cy0); clear hown1 hb1)
          | (go_at_call 27; (with_reducible refine (C.out (w.alloc (.cells #[.int .i64 ry] 3)).drew (below_drew ((Below.refl _ _).alloc (Nat.le_refl _) _))).mono ?_); rintro e w1 ⟨A1, c1', rfl, hown1, hb1⟩; have HI1 : Hid (IntsAt w1 w1.heap.size (some ⟨w.heap.size, 0, none⟩) [ry]) := (one_new w ry).belowS (below_drew_l hb1); have HO1 : Hid (OwnInts w1 w.heap.size A1 c1' ss) := OwnInts.base_le hown1 (by simp); have HB1 : Hid (Below w.heap.size w w1) := ((Below.refl _ _).alloc (Nat.le_refl _) _).trans ((below_drew_l hb1).mono (by simp)); have hz1 : w.heap.size ≤ w1.heap.size := HB1.out.size; have e1 : w1.cell? ⟨g, 2, none⟩ = some (.pointer (some ⟨x, 0, none⟩)) := ((HB1.out.cell (p := ⟨g, 2, none⟩) (World.block_lt_of_cell? w _ c2)).trans c2); have e2 : w1.cell? ⟨g, 3, none⟩ = some (.pointer (some ⟨y, 0, none⟩)) := ((HB1.out.cell (p := ⟨g, 3, none⟩) (World.block_lt_of_cell? w _ c3)).trans c3); have e3 : w1.cell? ⟨y, 0, none⟩ = some (.int .i64 ry) := ((HB1.out.cell (p := ⟨y, 0, none⟩) (World.block_lt_of_cell? w _ cy0)).trans cy0); clear hown1 hb1)
          | ((with_reducible refine step_app_ints rfl (.tmp 24) (.tmp 32) rfl (w1.alloc (.cells #[.int .i64 ry] 3)) w.heap.size A1 c1' ss rfl _ _ [ry] rfl (HO1.out.alloc _) (one_new _ _) (HSL.out _) (by simp; omega) (by simp) ?_); intro v w3 hA; rw [HRR.out] at hA; obtain ⟨⟨A3, c3', rfl, hown3⟩, hg3, hb3⟩ := hA; have HO3 := Lib.hid hown3; have HB3 : Hid (Below w.heap.size w w3) := (HB1.out.alloc hz1 _).trans hb3; have f1 : w3.cell? ⟨g, 2, none⟩ = some (.pointer (some ⟨x, 0, none⟩)) := ((HB3.out.cell (p := ⟨g, 2, none⟩) (World.block_lt_of_cell? w _ c2)).trans c2); have f2 : w3.cell? ⟨g, 3, none⟩ = some (.pointer (some ⟨y, 0, none⟩)) := ((HB3.out.cell (p := ⟨g, 3, none⟩) (World.block_lt_of_cell? w _ c3)).trans c3); have f3 : w3.cell? ⟨y, 0, none⟩ = some (.int .i64 ry) := ((HB3.out.cell (p := ⟨y, 0, none⟩) (World.block_lt_of_cell? w _ cy0)).trans cy0); clear hown3 hg3 hb3)
          | ((with_reducible refine step_app_ints rfl (.tmp 24) (.tmp 32) rfl w1 w.heap.size A1 c1' ss rfl _ _ [ry] rfl HO1.out HI1.out (HSL.out _) hz1 (by simp) ?_); intro v w3 hA; rw [HRR.out] at hA; obtain ⟨⟨A3, c3', rfl, hown3⟩, hg3, hb3⟩ := hA; have HO3 := Lib.hid hown3; have HB3 : Hid (Below w.heap.size w w3) := HB1.out.trans hb3; have f1 : w3.cell? ⟨g, 2, none⟩ = some (.pointer (some ⟨x, 0, none⟩)) := ((HB3.out.cell (p := ⟨g, 2, none⟩) (World.block_lt_of_cell? w _ c2)).trans c2); have f2 : w3.cell? ⟨g, 3, none⟩ = some (.pointer (some ⟨y, 0, none⟩)) := ((HB3.out.cell (p := ⟨g, 3, none⟩) (World.block_lt_of_cell? w _ c3)).trans c3); have f3 : w3.cell? ⟨y, 0, none⟩ = some (.int .i64 ry) := ((HB3.out.cell (p := ⟨y, 0, none⟩) (World.block_lt_of_cell? w _ cy0)).trans cy0); clear hown3 hg3 hb3))
      all_goals
        go_wp2
        go_ret
        exact ⟨A3, c3', rfl, HO3.out, HB3.out⟩
    · have HE : Hid (sibG pairZ 0 (d + 1) l i = sibG pairZ 0 d (l.drop (2 ^ d)) i ++ [rx]) := by
        show _ = _
        rw [sib_right (by rw [HH.out, HZ.out]; exact hz), HRX.out]
      have hzb : ((z : Int) == 0) = false := by simp; omega
      rw [HE.out]
      obtain ⟨ss, HS⟩ : ∃ ss, Hid (sibG pairZ 0 d (l.drop (2 ^ d)) i = ss) := ⟨_, rfl⟩
      have hsl : ss.length ≤ 4 := by rw [← HS.out, sib_length]; omega
      have HSL : Hid (∀ r : Int, ss.length + [r].length ≤ 2147483647) := fun r => by simp; omega
      rw [HS.out] at D ⊢
      obtain ⟨R, HRR⟩ : ∃ R, Hid (ss ++ [rx] = R) := ⟨_, rfl⟩
      rw [HRR.out]
      go_enter Tryd.func27, Tryd.ntmps27
      go_wp2_with fail
      clear hq hb hzb
      go_region_held3 (fun w' => w'.cell? ⟨g, 2, none⟩ = some (.pointer (some ⟨x, 0, none⟩)) ∧ w'.cell? ⟨g, 3, none⟩ = some (.pointer (some ⟨y, 0, none⟩)) ∧ w'.cell? ⟨x, 0, none⟩ = some (.int .i64 rx)) (go_keep)
        (first
          | (go_at_call 27; (with_reducible refine (D.out w.drew (below_drew (Below.refl _ _))).mono ?_); rintro e w1 ⟨A1, c1', rfl, hown1, hb1⟩; have HO1 : Hid (OwnInts w1 w.heap.size A1 c1' ss) := hown1; have hz1 : w.heap.size ≤ w1.heap.size := hb1.size; have HB1 : Hid (Below w.heap.size w w1) := below_drew_l hb1; have e1 : w1.cell? ⟨g, 2, none⟩ = some (.pointer (some ⟨x, 0, none⟩)) := ((HB1.out.cell (p := ⟨g, 2, none⟩) (World.block_lt_of_cell? w _ c2)).trans c2); have e2 : w1.cell? ⟨g, 3, none⟩ = some (.pointer (some ⟨y, 0, none⟩)) := ((HB1.out.cell (p := ⟨g, 3, none⟩) (World.block_lt_of_cell? w _ c3)).trans c3); have e3 : w1.cell? ⟨x, 0, none⟩ = some (.int .i64 rx) := ((HB1.out.cell (p := ⟨x, 0, none⟩) (World.block_lt_of_cell? w _ cx0)).trans cx0); clear hown1 hb1)
          | (go_at_call 27; (with_reducible refine (D.out (w.alloc (.cells #[.int .i64 rx] 3)).drew (below_drew ((Below.refl _ _).alloc (Nat.le_refl _) _))).mono ?_); rintro e w1 ⟨A1, c1', rfl, hown1, hb1⟩; have HI1 : Hid (IntsAt w1 w1.heap.size (some ⟨w.heap.size, 0, none⟩) [rx]) := (one_new w rx).belowS (below_drew_l hb1); have HO1 : Hid (OwnInts w1 w.heap.size A1 c1' ss) := OwnInts.base_le hown1 (by simp); have HB1 : Hid (Below w.heap.size w w1) := ((Below.refl _ _).alloc (Nat.le_refl _) _).trans ((below_drew_l hb1).mono (by simp)); have hz1 : w.heap.size ≤ w1.heap.size := HB1.out.size; have e1 : w1.cell? ⟨g, 2, none⟩ = some (.pointer (some ⟨x, 0, none⟩)) := ((HB1.out.cell (p := ⟨g, 2, none⟩) (World.block_lt_of_cell? w _ c2)).trans c2); have e2 : w1.cell? ⟨g, 3, none⟩ = some (.pointer (some ⟨y, 0, none⟩)) := ((HB1.out.cell (p := ⟨g, 3, none⟩) (World.block_lt_of_cell? w _ c3)).trans c3); have e3 : w1.cell? ⟨x, 0, none⟩ = some (.int .i64 rx) := ((HB1.out.cell (p := ⟨x, 0, none⟩) (World.block_lt_of_cell? w _ cx0)).trans cx0); clear hown1 hb1)
          | ((with_reducible refine step_app_ints rfl (.tmp 39) (.tmp 47) rfl (w1.alloc (.cells #[.int .i64 rx] 3)) w.heap.size A1 c1' ss rfl _ _ [rx] rfl (HO1.out.alloc _) (one_new _ _) (HSL.out _) (by simp; omega) (by simp) ?_); intro v w3 hA; rw [HRR.out] at hA; obtain ⟨⟨A3, c3', rfl, hown3⟩, hg3, hb3⟩ := hA; have HO3 := Lib.hid hown3; have HB3 : Hid (Below w.heap.size w w3) := (HB1.out.alloc hz1 _).trans hb3; have f1 : w3.cell? ⟨g, 2, none⟩ = some (.pointer (some ⟨x, 0, none⟩)) := ((HB3.out.cell (p := ⟨g, 2, none⟩) (World.block_lt_of_cell? w _ c2)).trans c2); have f2 : w3.cell? ⟨g, 3, none⟩ = some (.pointer (some ⟨y, 0, none⟩)) := ((HB3.out.cell (p := ⟨g, 3, none⟩) (World.block_lt_of_cell? w _ c3)).trans c3); have f3 : w3.cell? ⟨x, 0, none⟩ = some (.int .i64 rx) := ((HB3.out.cell (p := ⟨x, 0, none⟩) (World.block_lt_of_cell? w _ cx0)).trans cx0); clear hown3 hg3 hb3)
          | ((with_reducible refine step_app_ints rfl (.tmp 39) (.tmp 47) rfl w1 w.heap.size A1 c1' ss rfl _ _ [rx] rfl HO1.out HI1.out (HSL.out _) hz1 (by simp) ?_); intro v w3 hA; rw [HRR.out] at hA; obtain ⟨⟨A3, c3', rfl, hown3⟩, hg3, hb3⟩ := hA; have HO3 := Lib.hid hown3; have HB3 : Hid (Below w.heap.size w w3) := HB1.out.trans hb3; have f1 : w3.cell? ⟨g, 2, none⟩ = some (.pointer (some ⟨x, 0, none⟩)) := ((HB3.out.cell (p := ⟨g, 2, none⟩) (World.block_lt_of_cell? w _ c2)).trans c2); have f2 : w3.cell? ⟨g, 3, none⟩ = some (.pointer (some ⟨y, 0, none⟩)) := ((HB3.out.cell (p := ⟨g, 3, none⟩) (World.block_lt_of_cell? w _ c3)).trans c3); have f3 : w3.cell? ⟨x, 0, none⟩ = some (.int .i64 rx) := ((HB3.out.cell (p := ⟨x, 0, none⟩) (World.block_lt_of_cell? w _ cx0)).trans cx0); clear hown3 hg3 hb3))
      all_goals
        go_wp2
        go_ret
        exact ⟨A3, c3', rfl, HO3.out, HB3.out⟩

end Go.Proofs.YtlkgadgjcjpdcaaDoor
