/- Contracts of a heap's methods Swap, Push and Pop. Conditions: the heap lies in memory of the call's own, fewer than a million elements. -/
import Derived.Test.YtgjnhfciphiciaaHeapOne
import Derived.OneCell
import Derived.Great.Walk
namespace Go.Proofs.Ytgjnhfciphiciaa
open Go.RowKit
set_option linter.unusedVariables false

/-- A heap: a cell that holds a slice of the call's own. -/
structure Hp (w : World) (base g : Nat) (A : Option Addr) (cap : Nat) (xs : List Nat) : Prop where
  blk : Blk w g 55 #[.slice A xs.length cap]
  own : OwnRow HK w base A cap xs
  le : base ≤ g
section
variable {w w' : World} {base g cap : Nat} {A : Option Addr} {xs : List Nat}
theorem Hp.cell (h : Hp w base g A cap xs) : w.cell? ⟨g, 0, none⟩ = some (.slice A xs.length cap) := h.blk.cell 0
theorem Hp.lt (h : Hp w base g A cap xs) : base ≤ w.heap.size := by have := h.blk.lt; have := h.le; omega
theorem Hp.below (h : Hp w base g A cap xs) (hb : Below w.heap.size w w') : Hp w' base g A cap xs := ⟨h.blk.below hb h.blk.lt, h.own.below hb, h.le⟩
theorem Hp.apart (h : Hp w base g A cap xs) : Value.ownBlock (.slice A xs.length cap) ≠ some g := own_blk_ne h.own h.blk (by decide)
end

def swapL (xs : List Nat) (i j : Nat) : List Nat := (xs.set i (kth xs j)).set j (kth xs i)
theorem swapL_length (xs : List Nat) (i j : Nat) : (swapL xs i j).length = xs.length := by unfold swapL; rw [List.length_set, List.length_set]
theorem swapL_comm (xs : List Nat) (i j : Nat) : swapL xs i j = (xs.set j (kth xs i)).set i (kth xs j) := by
  unfold swapL
  by_cases e : i = j
  · subst e; rfl
  · exact List.set_comm _ _ e
/-- An element is written. -/
theorem own_put {w : World} {base cap b : Nat} {xs : List Nat} (h : OwnRow HK w base (some ⟨b, 0, none⟩) cap xs) (i : Nat) (hi : i < xs.length) (y : Nat) :
    OwnRow HK ((w.setCell ⟨b, i * 2, none⟩ (.int .i64 (blkZ y))).setCell ⟨b, i * 2 + 1, none⟩ (.int .i64 (cntZ y))) base (some ⟨b, 0, none⟩) cap (xs.set i y) ∧ w.grownBy ((w.setCell ⟨b, i * 2, none⟩ (.int .i64 (blkZ y))).setCell ⟨b, i * 2 + 1, none⟩ (.int .i64 (cntZ y))) (some b) := by
  have hk : kth xs i = kth xs i := rfl
  obtain ⟨x, hx⟩ : ∃ x, kth xs i = x := ⟨_, rfl⟩
  have hget := kth_get xs i hi
  rw [hx] at hget
  have h1 := h.stored i x (x / 16 * 16 + y % 16) hget 0 (by decide) (.int .i64 (blkZ y)) (by
    show [Value.int .i64 (blkZ _), Value.int .i64 (cntZ _)] = [Value.int .i64 (blkZ y), Value.int .i64 (cntZ x)]
    have e1 : blkZ (x / 16 * 16 + y % 16) = blkZ y := by unfold blkZ; omega
    have e2 : cntZ (x / 16 * 16 + y % 16) = cntZ x := by unfold cntZ; omega
    rw [e1, e2])
  have h2 := h1.1.stored i (x / 16 * 16 + y % 16) y (by rw [List.getElem?_set_self hi]) 1 (by decide) (.int .i64 (cntZ y)) (by
    show [Value.int .i64 (blkZ _), Value.int .i64 (cntZ _)] = [Value.int .i64 (blkZ _), Value.int .i64 (cntZ y)]
    have e1 : blkZ (x / 16 * 16 + y % 16) = blkZ y := by unfold blkZ; omega
    rw [e1])
  rw [List.set_set] at h2
  exact ⟨h2.1, h1.2.trans h2.2⟩
theorem grown_drew {a w : World} {r : Option Nat} (h : a.grownBy w r) : a.grownBy w.drew r := ⟨h.os, h.tape, h.output, h.size, h.block⟩

theorem rare_assert (v : Value) (w : World) : (Instr.typeAssert (.iface 58 v) 20 58 false).run Try.prog w = .ok v w := by
  simp [Instr.typeAssert, run_underlying Try.underlying58]
theorem rare_app_info : ∃ i z, Try.prog.info? HK.e = some i ∧ i.zero = some z ∧ i.size = HK.k ∧ i.bytes = HK.by_ ∧ z.cells.size = HK.k := by
  obtain ⟨i0, hi0, hz0, hz1, hz2⟩ := info_parts rare_info
  exact ⟨i0, _, hi0, hz0, hz1, hz2, rfl⟩

set_option maxHeartbeats 3000000 in
set_option maxRecDepth 100000 in
theorem swap_any (b cap n base : Nat) (xs : List Nat) (i j : Nat) (w : World) (hO : OwnRow HK w base (some ⟨b, 0, none⟩) cap xs) (hn : xs.length = n) (hi : i < n) (hj : j < n) :
    Calls Try.prog 69 #[.slice (some ⟨b, 0, none⟩) n cap, .int .i64 (i : Int), .int .i64 (j : Int)] w fun e w' => e = .returned (.tuple #[]) ∧ OwnRow HK w' base (some ⟨b, 0, none⟩) cap (swapL xs i j) ∧ w.grownBy w' (some b) := by
  obtain ⟨i0, i1⟩ := rare_cells hO.at_ i (by omega)
  obtain ⟨j0, j1⟩ := rare_cells hO.at_ j (by omega)
  rw [Nat.zero_add] at i0 i1 j0 j1
  have hfz : ∀ k, w.frozen? ⟨b, k, none⟩ = false := fun k => World.ownsRow.frozenAt hO k
  have hb : b < w.heap.size := (hO.lies b rfl).2
  have hii : (i : Int) < (n : Int) := by omega
  have hjj : (j : Int) < (n : Int) := by omega
  have HO := Lib.hid hO
  have HN := Lib.hid hn
  obtain ⟨x, HX⟩ : ∃ x, Hid (kth xs i = x) := ⟨_, rfl⟩
  obtain ⟨y, HY⟩ : ∃ y, Hid (kth xs j = y) := ⟨_, rfl⟩
  rw [HX.out] at i0 i1
  rw [HY.out] at j0 j1
  clear hO hn
  by_cases e : i = j
  · subst e
    have hxy : x = y := by rw [← HX.out, ← HY.out]
    subst hxy
    go_enter Try.func69, Try.ntmps69
    go_wp2_with fail
    go_region
    all_goals (go_wp2; go_end0)
    · have h1 := own_put HO.out i (by rw [HN.out]; exact hi) x
      have h2 := own_put h1.1 i (by rw [List.length_set, HN.out]; exact hi) x
      refine ⟨rfl, ?_, grown_drew (h1.2.trans h2.2)⟩
      have he : swapL xs i i = (xs.set i x).set i x := by unfold swapL; rw [HX.out]
      rw [he]
      exact h2.1
  · have e' : ¬ j = i := fun h => e h.symm
    have e1 : ¬ i * 2 = j * 2 := by omega
    have e2 : ¬ j * 2 = i * 2 := by omega
    have e3 : ¬ i * 2 + 1 = j * 2 + 1 := by omega
    have e4 : ¬ j * 2 + 1 = i * 2 + 1 := by omega
    have e5 : ¬ i * 2 + 1 = j * 2 := by omega
    have e6 : ¬ j * 2 + 1 = i * 2 := by omega
    have e7 : ¬ i * 2 = j * 2 + 1 := by omega
    have e8 : ¬ j * 2 = i * 2 + 1 := by omega
    go_enter Try.func69, Try.ntmps69
    go_wp2_with fail
    go_region
    all_goals (go_wp2; go_end0)
    · have h1 := own_put HO.out i (by rw [HN.out]; exact hi) y
      have h2 := own_put h1.1 j (by rw [List.length_set, HN.out]; exact hj) x
      refine ⟨rfl, ?_, grown_drew (h1.2.trans h2.2)⟩
      have he : swapL xs i j = (xs.set i y).set j x := by unfold swapL; rw [HX.out, HY.out]
      rw [he]
      exact h2.1

/-- The heap's cell is written. -/
theorem put_head {w w3 : World} {base g c' m : Nat} {A' : Option Addr} {old : Value} {ys : List Nat} (hle : base ≤ g) (hk : Blk w3 g 55 #[old]) (hl : ys.length = m) (ho : OwnRow HK w3 base A' c' ys) (hb : Below base w w3) :
    Hp (w3.setCell ⟨g, 0, none⟩ (.slice A' m c')) base g A' c' ys ∧ Below base w (w3.setCell ⟨g, 0, none⟩ (.slice A' m c')) := by
  subst hl
  have hap : Value.ownBlock (.slice A' ys.length c') ≠ some g := own_blk_ne ho hk (by decide)
  refine ⟨⟨?_, ?_, hle⟩, hb.setCell (p := ⟨g, 0, none⟩) hle _⟩
  · have h := hk.setOwn 0 (.slice A' ys.length c')
    simpa using h
  · exact ownsRow_setCell_other ho hap _

set_option maxHeartbeats 3000000 in
set_option maxRecDepth 100000 in
theorem hpush_any (base g cap n : Nat) (A : Option Addr) (xs : List Nat) (x : Nat) (w : World) (hH : Hp w base g A cap xs) (hn : xs.length = n) (hm : n < 1000000) :
    Calls Try.prog 68 #[.pointer (some ⟨g, 0, none⟩), .iface 58 (rareV x)] w fun e w' => e = .returned (.tuple #[]) ∧ ∃ A' cap', Hp w' base g A' cap' (xs ++ [x]) ∧ Below base w w' := by
  have hc := hH.cell
  rw [hn] at hc
  have hg := hH.blk.lt
  have hfz : w.frozen? ⟨g, 0, none⟩ = false := blk_frozen hH.blk 0
  have hTA := rare_assert
  obtain ⟨i0, z, hi0, hz0, hz1, hz2, hz3⟩ := rare_app_info
  have HI0 := Lib.hid (And.intro hi0 (And.intro hz0 (And.intro hz1 (And.intro hz2 hz3))))
  clear hi0 hz0 hz1 hz2 hz3
  have HH := Lib.hid hH
  have HN := Lib.hid hn
  clear hH hn
  have HKD : Hid (Blk (w.alloc (.cells (rareC x) 58)).drew g 55 #[.slice A xs.length cap]) := HH.out.blk.alloc _
  have HAP := Lib.hid HH.out.apart
  have HBD : Hid (Below base w (w.alloc (.cells (rareC x) 58)).drew) := below_drew ((Below.refl _ w).alloc HH.out.lt _)
  go_enter Try.func68, Try.ntmps68
  go_wp2_with fail
  go_region_law (refine step_app_row (K := HK) Try.underlying55 HI0.out.1 HI0.out.2.1 HI0.out.2.2.1 HI0.out.2.2.2.1 HI0.out.2.2.2.2 (by decide) rfl (.tmp 7) (.tmp 10) rfl _ base A cap xs (by rw [HN.out]; rfl) _ _ [x] rfl (HH.out.own.alloc _) (one_newR HK _ _ _) (by rw [HN.out]; show n + 1 ≤ 1000000; omega) (by have := HH.out.lt; simp; omega) (fun e => by cases e) ?_; intro v w3 hA; obtain ⟨⟨A', c', rfl, hO'⟩, hg', hb', _⟩ := hA; have HK3 : Hid (Blk w3 g 55 #[.slice A xs.length cap]) := HKD.out.grown hg' (Ne.symm HAP.out); have HO3 := Lib.hid hO'; have HB3 : Hid (Below base w w3) := HBD.out.trans hb'; have c3 : w3.cell? ⟨g, 0, none⟩ = some (.slice A xs.length cap) := HK3.out.cell 0; have f3 : w3.frozen? ⟨g, 0, none⟩ = false := blk_frozen HK3.out 0; clear hO' hg' hb')
  all_goals (go_wp2; go_end0; exact ⟨rfl, A', c', put_head HH.out.le HK3.out (by rw [List.length_append]; rfl) HO3.out HB3.out⟩)

/-- What a heap's element is, without the last. -/
theorem own_take {w : World} {base cap : Nat} {A : Option Addr} {xs : List Nat} (h : OwnRow HK w base A cap xs) (n : Nat) (hn : n ≤ xs.length) : OwnRow HK w base A cap (xs.take n) := by
  have hl : (xs.take n).length = n := by rw [List.length_take]; omega
  have hct : HK.cells (xs.take n) = (HK.cells xs).take (n * HK.k) := by
    have e := Kind.cells_append (K := HK) (xs.take n) (xs.drop n)
    rw [List.take_append_drop] at e
    rw [e]
    exact (List.take_left' (by rw [Kind.cells_length, hl])).symm
  unfold OwnRow at h ⊢
  rw [hl]
  refine ⟨by rw [Kind.cells_length, hl], ?_⟩
  rcases h.2 with ⟨hv, h0⟩ | ⟨g, c, cur, hv, hg, hh, h1, h2, h3, h4⟩
  · injection hv with hA hl0 hc
    refine .inl ⟨?_, by omega⟩
    have : n = 0 := by omega
    rw [hA, hc, this]
  · injection hv with hA hl0 hc
    refine .inr ⟨g, c, cur, by rw [hA, hc], hg, hh, by omega, h2, h3, ?_⟩
    rw [hct, ← h4, List.take_take, Nat.min_eq_left (Nat.mul_le_mul_right _ hn)]
set_option maxHeartbeats 3000000 in
set_option maxRecDepth 100000 in
theorem hpop_any (base g cap n : Nat) (A : Option Addr) (xs : List Nat) (w : World) (hH : Hp w base g A cap xs) (hn : xs.length = n + 1) :
    Calls Try.prog 67 #[.pointer (some ⟨g, 0, none⟩)] w fun e w' => e = .returned (.iface 58 (rareV (kth xs n))) ∧ Hp w' base g A cap (xs.take n) ∧ ∃ v o, w' = (w.setCell ⟨g, 0, none⟩ v).alloc o := by
  obtain ⟨b, rfl, hbb, hbl⟩ := hH.own.form (by omega)
  obtain ⟨i0, i1⟩ := rare_cells hH.own.at_ n (by omega)
  rw [Nat.zero_add] at i0 i1
  have hc := hH.cell
  rw [hn] at hc
  have hg := hH.blk.lt
  have hfz : w.frozen? ⟨g, 0, none⟩ = false := blk_frozen hH.blk 0
  have hle := hH.own.le
  rw [hn] at hle
  obtain ⟨hle1, hle2⟩ := hle
  unfold maxLen at hle2
  have hne : b ≠ g := fun e => hH.apart (by subst e; rfl)
  obtain ⟨x, HX⟩ : ∃ x, Hid (kth xs n = x) := ⟨_, rfl⟩
  rw [HX.out] at i0 i1 ⊢
  have hs1 : ((n + 1 : Nat) : Int) - 1 = (n : Int) := by omega
  have HH := Lib.hid hH
  have HN := Lib.hid hn
  clear hH hn
  go_enter Try.func67, Try.ntmps67
  go_wp2
  go_ret
  have h := put_head (m := n) HH.out.le HH.out.blk (by rw [List.length_take, HN.out]; omega) (own_take HH.out.own n (by rw [HN.out]; omega)) (Below.refl base w)
  exact ⟨rfl, ⟨h.1.blk.alloc _, h.1.own.alloc _, h.1.le⟩, _, _, rfl⟩

end Go.Proofs.Ytgjnhfciphiciaa
