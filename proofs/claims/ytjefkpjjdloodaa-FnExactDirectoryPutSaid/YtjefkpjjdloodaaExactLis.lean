/- Contracts of the exact laws' helpers over slices of nodes: the copy, the size, the comparison of equal ones, the marks and what still holds them. Conditions: the nodes lie in memory; marked are at most 2^20. -/
import Derived.Test.YtjefkpjjdloodaaExactRow
import Derived.Test.YtjefkpjjdloodaaListed
import Derived.Deep.DeepCutAuto
namespace Go.Proofs.Ytjefkpjjdloodaa
open Go.RowKit
set_option linter.unusedVariables false

/-- A node is written. -/
theorem lis_store {w : World} {base b cap : Nat} {xs : List LD} (h : OwnRow LK w base (some ⟨b, 0, none⟩) cap xs) (i : Nat) (hi : i < xs.length) (a : LD) :
    OwnRow LK ((w.setCell ⟨b, i * 2, none⟩ (.int .i64 a.n)).setCell ⟨b, i * 2 + 1, none⟩ (.int .i64 a.t)) base (some ⟨b, 0, none⟩) cap (xs.set i a) ∧ w.grownBy ((w.setCell ⟨b, i * 2, none⟩ (.int .i64 a.n)).setCell ⟨b, i * 2 + 1, none⟩ (.int .i64 a.t)) (some b) := by
  have h1 := h.stored i (lth xs i) ⟨a.n, (lth xs i).t⟩ (lth_get xs i hi) 0 (by decide) (.int .i64 a.n) rfl
  have h2 := h1.1.stored i ⟨a.n, (lth xs i).t⟩ a (by rw [List.getElem?_set_self hi]) 1 (by decide) (.int .i64 a.t) rfl
  rw [List.set_set] at h2
  exact ⟨h2.1, World.grownBy.trans h1.2 h2.2⟩
theorem lis_n {w : World} {base b cap : Nat} {xs : List LD} (h : OwnRow LK w base (some ⟨b, 0, none⟩) cap xs) (i : Nat) (hi : i < xs.length) (v : Int) :
    OwnRow LK (w.setCell ⟨b, i * 2, none⟩ (.int .i64 v)) base (some ⟨b, 0, none⟩) cap (xs.set i ⟨v, (lth xs i).t⟩) ∧ w.grownBy (w.setCell ⟨b, i * 2, none⟩ (.int .i64 v)) (some b) :=
  h.stored i (lth xs i) ⟨v, (lth xs i).t⟩ (lth_get xs i hi) 0 (by decide) (.int .i64 v) rfl
theorem lis_t {w : World} {base b cap : Nat} {xs : List LD} (h : OwnRow LK w base (some ⟨b, 0, none⟩) cap xs) (i : Nat) (hi : i < xs.length) (v : Int) :
    OwnRow LK (w.setCell ⟨b, i * 2 + 1, none⟩ (.int .i64 v)) base (some ⟨b, 0, none⟩) cap (xs.set i ⟨(lth xs i).n, v⟩) ∧ w.grownBy (w.setCell ⟨b, i * 2 + 1, none⟩ (.int .i64 v)) (some b) :=
  h.stored i (lth xs i) ⟨(lth xs i).n, v⟩ (lth_get xs i hi) 1 (by decide) (.int .i64 v) rfl
theorem lis_cellF {w : World} {base b cap : Nat} {xs : List LD} (h : OwnRow LK w base (some ⟨b, 0, none⟩) cap xs) (i : Nat) (hi : i < xs.length) :
    (w.cell? ⟨b, i * 2, none⟩ = some (.int .i64 (lth xs i).n) ∧ w.frozen? ⟨b, i * 2, none⟩ = false) ∧ (w.cell? ⟨b, i * 2 + 1, none⟩ = some (.int .i64 (lth xs i).t) ∧ w.frozen? ⟨b, i * 2 + 1, none⟩ = false) :=
  ⟨h.cellF i (lth xs i) (lth_get xs i hi) 0 _ rfl, h.cellF i (lth xs i) (lth_get xs i hi) 1 _ rfl⟩
def noL (n : Nat) : List LD := List.replicate n ⟨0, 0⟩
theorem copyL_step (xs : List LD) (k n : Nat) (hn : xs.length = n) (hk : k < n) : (xs.take k ++ noL (n - k)).set k (lth xs k) = xs.take (k + 1) ++ noL (n - (k + 1)) := by
  have hl : (xs.take k).length = k := by rw [List.length_take]; omega
  have e : n - k = (n - (k + 1)) + 1 := by omega
  have hz : noL (n - k) = ⟨0, 0⟩ :: noL (n - (k + 1)) := by rw [e]; rfl
  rw [hz, take_lth xs k (by omega), List.set_append_right _ _ (by omega), hl, Nat.sub_self, List.append_assoc]
  rfl
theorem copyL_len (xs : List LD) (k n : Nat) (hn : xs.length = n) (hk : k ≤ n) : (xs.take k ++ noL (n - k)).length = n := by
  rw [List.length_append, List.length_take]
  unfold noL
  rw [List.length_replicate]; omega
theorem lis_info_parts : ∃ i z, Try.prog.info? LK.e = some i ∧ i.zero = some (.agg #[.int .i64 0, .int .i64 0]) ∧ i.size = LK.k ∧ i.bytes = LK.by_ ∧ z = () := by
  obtain ⟨i0, hi0, hz0, hz1, hz2⟩ := info_parts lis_info
  exact ⟨i0, (), hi0, hz0, hz1, hz2, rfl⟩
theorem lth_set (xs : List LD) (k : Nat) (x : LD) (hk : k < xs.length) : lth (xs.set k x) k = x := by
  unfold lth; rw [List.getD_eq_getElem?_getD, List.getElem?_set_self hk]; rfl
/-- The marks of the first n nodes. -/
def lmarks (n : Nat) : List LD := (List.range n).map fun i => ⟨((1 + 2 * i : Nat) : Int), ((2 + 2 * i : Nat) : Int)⟩
theorem lmarks_length (n : Nat) : (lmarks n).length = n := by unfold lmarks; rw [List.length_map, List.length_range]
theorem lmarks_lth (n k : Nat) (hk : k < n) : lth (lmarks n) k = ⟨((1 + 2 * k : Nat) : Int), ((2 + 2 * k : Nat) : Int)⟩ := by
  have h := lth_get (lmarks n) k (by rw [lmarks_length]; exact hk)
  unfold lmarks at h
  rw [List.getElem?_map, List.getElem?_range hk] at h
  injection h with h
  unfold lmarks
  exact h.symm
theorem lmarks_succ (n : Nat) : lmarks (n + 1) = lmarks n ++ [⟨((1 + 2 * n : Nat) : Int), ((2 + 2 * n : Nat) : Int)⟩] := by
  unfold lmarks; rw [List.range_succ, List.map_append]; rfl
theorem lmarks_step (xs : List LD) (k : Nat) (hk : k < xs.length) (x y : LD) : ((lmarks k ++ xs.drop k).set k x).set k ⟨((1 + 2 * k : Nat) : Int), ((2 + 2 * k : Nat) : Int)⟩ = lmarks (k + 1) ++ xs.drop (k + 1) := by
  rw [List.set_set, lmarks_succ, List.set_append_right _ _ (by rw [lmarks_length]; omega), lmarks_length, Nat.sub_self, drop_lth xs k hk, List.append_assoc]
  rfl
theorem lmarks_len (xs : List LD) (k n : Nat) (hn : xs.length = n) (hk : k ≤ n) : (lmarks k ++ xs.drop k).length = n := by
  rw [List.length_append, lmarks_length, List.length_drop]; omega

set_option maxHeartbeats 4000000 in
set_option maxRecDepth 100000 in
theorem toL_any (a : LD) (w : World) : Calls Try.prog 24 #[lisV a] w fun e w' => e = .returned (lisV a) ∧ Below w.heap.size w w' := by
  obtain ⟨ap, ab⟩ := a
  obtain ⟨W, HW⟩ : ∃ Q0, Hid (((w.alloc (.cells #[.int .i64 ap, .int .i64 ab] 43)).alloc (.cells #[.int .i64 0, .int .i64 0] 41)).alloc (.cells #[.int .i64 0, .int .i64 0] 41) = Q0) := ⟨_, rfl⟩
  have KA : Hid (Blk W w.heap.size 43 #[.int .i64 ap, .int .i64 ab]) := by rw [← HW.out]; exact ((Blk.new w _ _).alloc _).alloc _
  have KZ : Hid (Blk W (w.heap.size + 1) 41 #[.int .i64 0, .int .i64 0]) := by
    rw [← HW.out]
    have h := Blk.new (w.alloc (.cells #[.int .i64 ap, .int .i64 ab] 43)) 41 #[.int .i64 0, .int .i64 0]
    rw [World.size_alloc] at h
    exact h.alloc _
  have KO : Hid (Blk W (w.heap.size + 1 + 1) 41 #[.int .i64 0, .int .i64 0]) := by
    rw [← HW.out]
    have h := Blk.new ((w.alloc (.cells #[.int .i64 ap, .int .i64 ab] 43)).alloc (.cells #[.int .i64 0, .int .i64 0] 41)) 41 #[.int .i64 0, .int .i64 0]
    rw [World.size_alloc, World.size_alloc] at h
    exact h
  have HB : Hid (Below w.heap.size w W) := by rw [← HW.out]; exact (((Below.refl _ w).alloc (Nat.le_refl _) _).alloc (by simp) _).alloc (by simp; omega) _
  obtain ⟨g1, hg1⟩ : ∃ v, w.heap.size + 1 = v := ⟨_, rfl⟩
  obtain ⟨g2, hg2⟩ : ∃ v, w.heap.size + 1 + 1 = v := ⟨_, rfl⟩
  rw [hg1] at KZ
  rw [hg2] at KO
  have hgg : g1 + 1 = g2 := by omega
  obtain ⟨a0, a1⟩ := lis2 KA.out
  obtain ⟨o0, o1⟩ := lis2 KO.out
  have of := blk_frozen KO.out
  go_enter Try.func24, Try.ntmps24
  go_upto_region 2 with fail
  rw [HW.out]
  go_upto_region 3 with fail
  obtain ⟨W1, HW1⟩ : ∃ Q0, Hid (W.setCell ⟨g2, 0, none⟩ (.int .i64 ap) = Q0) := ⟨_, rfl⟩
  have KO1 : Hid (Blk W1 g2 41 #[.int .i64 ap, .int .i64 0]) := by rw [← HW1.out]; exact KO.out.setOwn 0 _
  have KA1 : Hid (Blk W1 w.heap.size 43 #[.int .i64 ap, .int .i64 ab]) := by rw [← HW1.out]; exact KA.out.setOther (p := ⟨g2, 0, none⟩) (by show g2 ≠ _; omega) _
  have KZ1 : Hid (Blk W1 g1 41 #[.int .i64 0, .int .i64 0]) := by rw [← HW1.out]; exact KZ.out.setOther (p := ⟨g2, 0, none⟩) (by show g2 ≠ _; omega) _
  have HB1 : Hid (Below w.heap.size w W1) := by rw [← HW1.out]; exact HB.out.setCell (p := ⟨g2, 0, none⟩) (by show w.heap.size ≤ g2; omega) _
  rw [HW1.out]
  clear a0 a1 o0 o1 of
  obtain ⟨a0, a1⟩ := lis2 KA1.out
  obtain ⟨o0, o1⟩ := lis2 KO1.out
  have of := blk_frozen KO1.out
  go_upto_region 4 with fail
  obtain ⟨W2, HW2⟩ : ∃ Q0, Hid (W1.setCell ⟨g2, 1, none⟩ (.int .i64 ab) = Q0) := ⟨_, rfl⟩
  have KO2 : Hid (Blk W2 g2 41 #[.int .i64 ap, .int .i64 ab]) := by rw [← HW2.out]; exact KO1.out.setOwn 1 _
  have KZ2 : Hid (Blk W2 g1 41 #[.int .i64 0, .int .i64 0]) := by rw [← HW2.out]; exact KZ1.out.setOther (p := ⟨g2, 1, none⟩) (by show g2 ≠ _; omega) _
  have HB2 : Hid (Below w.heap.size w W2) := by rw [← HW2.out]; exact HB1.out.setCell (p := ⟨g2, 1, none⟩) (by show w.heap.size ≤ g2; omega) _
  rw [HW2.out]
  clear a0 a1 o0 o1 of
  obtain ⟨o0, o1⟩ := lis2 KO2.out
  obtain ⟨z0, z1⟩ := lis2 KZ2.out
  have zf := blk_frozen KZ2.out
  go_wp2
  obtain ⟨Y, HY⟩ : ∃ Q0, Hid ((W2.setCell ⟨g1, 0, none⟩ (.int .i64 ap)).setCell ⟨g1, 1, none⟩ (.int .i64 ab) = Q0) := ⟨_, rfl⟩
  have KY : Hid (Blk Y g1 41 #[.int .i64 ap, .int .i64 ab]) := by rw [← HY.out]; exact (KZ2.out.setOwn 0 _).setOwn 1 _
  have HBY : Hid (Below w.heap.size w Y) := by rw [← HY.out]; exact (HB2.out.setCell (p := ⟨g1, 0, none⟩) (by show w.heap.size ≤ g1; omega) _).setCell (p := ⟨g1, 1, none⟩) (by show w.heap.size ≤ g1; omega) _
  rw [HY.out]
  obtain ⟨y0, y1⟩ := lis2 KY.out
  exact bodyPost_ret (v := lisV ⟨ap, ab⟩) (by simp [results, Try.results24, go_sem, y0, y1]) rfl ⟨rfl, HBY.out⟩

/-- A copy of nodes in memory of the call's own. -/
def CopiedL (w : World) (xs : List LD) (e : Ending) (w' : World) : Prop :=
  e = .returned (.slice (some ⟨w.heap.size, 0, none⟩) xs.length xs.length) ∧ OwnRow LK w' w.heap.size (some ⟨w.heap.size, 0, none⟩) xs.length xs ∧ Below w.heap.size w w'

set_option maxHeartbeats 4000000 in
set_option maxRecDepth 100000 in
theorem toLs_any (A : Option Addr) (cap : Nat) (xs : List LD) (w : World) (hI : RowAt LK w w.heap.size A xs) (hm : xs.length ≤ 1048576) :
    Calls Try.prog 9 #[.slice A xs.length cap] w (CopiedL w xs) := by
  have HI := Lib.hid hI
  obtain ⟨n, HN⟩ : ∃ n, Hid (xs.length = n) := ⟨_, rfl⟩
  rw [HN.out] at hm ⊢
  clear hI
  obtain ⟨i0, zz, hi0, hz0, hz1, hz2, hz3⟩ := lis_info_parts
  have hmk := fun W => run_make_kind (P := Try.prog) LK 25 ⟨0, 0⟩ _ Try.underlying25 hi0 hz0 hz1 hz2 rfl .i64 .i64 n (by show 16 * n ≤ _; omega) (by omega) W
  obtain ⟨W, HW⟩ : ∃ Q0, Hid (w.alloc (.cells (LK.cells (List.replicate n ⟨0, 0⟩)).toArray LK.e) = Q0) := ⟨_, rfl⟩
  have HO0 : Hid (OwnRow LK W w.heap.size (some ⟨w.heap.size, 0, none⟩) n (noL n)) := by rw [← HW.out]; exact OwnRow.made LK w n ⟨0, 0⟩ (by unfold maxLen; omega)
  have HB0 : Hid (Below w.heap.size w W) := by rw [← HW.out]; exact (Below.refl _ _).alloc (Nat.le_refl _) _
  have hWz : w.heap.size < W.heap.size := (HO0.out.lies _ rfl).2
  clear hz0 hz1 hz2 hi0
  go_enter Try.func9, Try.ntmps9
  go_upto_region 2 with fail
  rw [HW.out]
  clear hmk
  go_wp2
  go_loopw [4] (fun i w' => ∃ k : Nat, k ≤ n ∧ i = .int .i64 k ∧ Hid (OwnRow LK w' w.heap.size (some ⟨w.heap.size, 0, none⟩) n (xs.take k ++ noL (n - k))) ∧ Hid (Below w.heap.size w w')) (fun i _ => n - (intOf i).toNat)
  case atStart => exact ⟨0, Nat.zero_le _, rfl, (by show OwnRow _ _ _ _ _ _; have h := HO0.out; simpa using h), HB0⟩
  case round =>
    obtain ⟨k, hk, rfl, HO, HB⟩ := hrel
    by_cases hlt : k < n
    · have hkz : k < xs.length := by rw [HN.out]; exact hlt
      have hj := HI.out.belowS HB.out
      obtain ⟨b, o, rfl⟩ := hj.some_ (by omega)
      obtain ⟨c0, c1⟩ := lis_cells hj k hkz
      obtain ⟨ap, HRI⟩ : ∃ x, Hid ((lth xs k).n = x) := ⟨_, rfl⟩
      obtain ⟨ab, HRT⟩ : ∃ x, Hid ((lth xs k).t = x) := ⟨_, rfl⟩
      have HONE : Hid (lth xs k = ⟨ap, ab⟩) := by
        show _ = _
        rw [← HRI.out, ← HRT.out]
      rw [HRI.out] at c0
      rw [HRT.out] at c1
      have hki : (k : Int) < (n : Int) := by omega
      have hwz : w.heap.size ≤ wr.heap.size := HB.out.size
      clear hj
      go_wp2_with fail
      refine (toL_any ⟨ap, ab⟩ wr).mono ?_
      rintro e w2 ⟨rfl, hb2⟩
      have HO2 := Lib.hid (HO.out.below hb2)
      have HB2 : Hid (Below w.heap.size w w2) := HB.out.trans (hb2.mono hwz)
      have hlen := copyL_len xs k n HN.out (by omega)
      obtain ⟨⟨d0, e0⟩, ⟨d1, e1⟩⟩ := lis_cellF HO2.out k (by omega)
      have hs := lis_store HO2.out k (by omega) ⟨ap, ab⟩
      rw [← HONE.out, copyL_step xs k n HN.out hlt, HONE.out] at hs
      have HS := Lib.hid hs.1
      have HBS : Hid (Below w.heap.size w ((w2.setCell ⟨w.heap.size, k * 2, none⟩ (.int .i64 ap)).setCell ⟨w.heap.size, k * 2 + 1, none⟩ (.int .i64 ab))) := (HB2.out.setCell (p := ⟨w.heap.size, k * 2, none⟩) (Nat.le_refl _) _).setCell (p := ⟨w.heap.size, k * 2 + 1, none⟩) (Nat.le_refl _) _
      clear hkz hs hb2 c0 c1 hlen
      go_wp2
      go_roundw
      case rel => exact ⟨k + 1, by omega, by go_num, HS, HBS⟩
      case measure => simp [intOf]; omega
    · have hkn : k = n := by omega
      subst hkn
      have ho := HO.out
      rw [Nat.sub_self, List.take_of_length_le (by rw [HN.out]; omega)] at ho
      have HO' : Hid (OwnRow LK wr w.heap.size (some ⟨w.heap.size, 0, none⟩) k xs) := by show OwnRow _ _ _ _ _ _; simpa [noL] using ho
      clear ho
      go_wp2
      go_ret
      refine ⟨?_, ?_, HB.out⟩
      · rw [HN.out]; first | done | rfl
      · rw [HN.out]; exact HO'.out

theorem toLs_ret (A : Option Addr) (cap : Nat) (xs : List LD) (w : World) (hI : RowAt LK w w.heap.size A xs) (hm : xs.length ≤ 1048576) :
    Calls Try.prog 9 #[.slice A xs.length cap] w fun e w' => ∃ g, e = .returned (.slice (some ⟨g, 0, none⟩) xs.length xs.length) ∧ OwnRow LK w' w.heap.size (some ⟨g, 0, none⟩) xs.length xs ∧ Below w.heap.size w w' :=
  (toLs_any A cap xs w hI hm).mono fun _ _ h => ⟨_, h⟩
set_option maxHeartbeats 4000000 in
set_option maxRecDepth 100000 in
theorem szL_fit (A : Option Addr) (n cap : Nat) (w : World) (hn : n ≤ 1048576) :
    Calls Try.prog 7 #[.slice A n cap, .int .i64 1048576] w fun e w' => e = .returned (.int .i64 (1048576 - (n : Int))) ∧ w = w' := by
  have hw1 : IntKind.i64.wrap (1048576 - (n : Int)) = 1048576 - (n : Int) := IntWalk.i64_in _ (by omega)
  obtain ⟨r, hr⟩ : ∃ r, 1048576 - (n : Int) = r := ⟨_, rfl⟩
  have h0 : ¬ r < 0 := by omega
  rw [hr] at hw1 ⊢
  go_enter Try.func7, Try.ntmps7
  go_wp2
  go_ret
  exact ⟨rfl, rfl⟩

set_option maxHeartbeats 4000000 in
set_option maxRecDepth 100000 in
theorem szL_over (A : Option Addr) (n cap : Nat) (w : World) (hn : 1048576 < n) (hm : n ≤ maxLen) :
    Calls Try.prog 7 #[.slice A n cap, .int .i64 1048576] w fun e w' => e = .returned (.int .i64 (-1)) ∧ w = w' := by
  unfold maxLen at hm
  have hw1 : IntKind.i64.wrap (1048576 - (n : Int)) = 1048576 - (n : Int) := IntWalk.i64_in _ (by omega)
  obtain ⟨r, hr⟩ : ∃ r, 1048576 - (n : Int) = r := ⟨_, rfl⟩
  have h0 : r < 0 := by omega
  rw [hr] at hw1
  go_enter Try.func7, Try.ntmps7
  go_wp2
  go_ret
  exact ⟨rfl, rfl⟩

set_option maxHeartbeats 4000000 in
set_option maxRecDepth 100000 in
theorem eqL_any (a : LD) (w : World) :
    Calls Try.prog 27 #[lisV a, lisV a] w fun e w' => e = .returned (.bool true) ∧ Below w.heap.size w w' := by
  obtain ⟨ap, ab⟩ := a
  obtain ⟨W, HW⟩ : ∃ Q0, Hid ((w.alloc (.cells #[.int .i64 ap, .int .i64 ab] 41)).alloc (.cells #[.int .i64 ap, .int .i64 ab] 41) = Q0) := ⟨_, rfl⟩
  have KA : Hid (Blk W w.heap.size 41 #[.int .i64 ap, .int .i64 ab]) := by rw [← HW.out]; exact (Blk.new w _ _).alloc _
  have KB : Hid (Blk W (w.heap.size + 1) 41 #[.int .i64 ap, .int .i64 ab]) := by
    rw [← HW.out]
    have h := Blk.new (w.alloc (.cells #[.int .i64 ap, .int .i64 ab] 41)) 41 #[.int .i64 ap, .int .i64 ab]
    rw [World.size_alloc] at h
    exact h
  have HB : Hid (Below w.heap.size w W) := by rw [← HW.out]; exact ((Below.refl _ w).alloc (Nat.le_refl _) _).alloc (by simp) _
  obtain ⟨a0, a1⟩ := lis2 KA.out
  obtain ⟨b0, b1⟩ := lis2 KB.out
  go_enter Try.func27, Try.ntmps27
  go_upto_region 1 with fail
  rw [HW.out]
  go_wp2
  go_ret
  exact ⟨rfl, HB.out⟩

theorem two_cellsL {w w' : World} {b o : Nat} {u v : Value} (h : w.cell? ⟨b, o, none⟩ = some u ∧ w.cell? ⟨b, o + 1, none⟩ = some v) (hb : Below w.heap.size w w') : w'.cell? ⟨b, o, none⟩ = some u ∧ w'.cell? ⟨b, o + 1, none⟩ = some v :=
  ⟨(hb.cell (p := ⟨b, o, none⟩) (World.block_lt_of_cell? w _ h.1)).trans h.1, (hb.cell (p := ⟨b, o + 1, none⟩) (World.block_lt_of_cell? w _ h.2)).trans h.2⟩

set_option maxHeartbeats 4000000 in
set_option maxRecDepth 100000 in
theorem eqLs_any (A : Option Addr) (c : Nat) (A1 : Option Addr) (c1 : Nat) (xs : List LD) (w : World) (hJ : RowAt LK w w.heap.size A xs) (hJ1 : RowAt LK w w.heap.size A1 xs) (hm : xs.length ≤ maxLen) {n : Nat} (hn : xs.length = n) :
    Calls Try.prog 11 #[.slice A n c, .slice A1 n c1] w fun e w' => e = .returned (.bool true) ∧ Below w.heap.size w w' := by
  unfold maxLen at hm
  rw [hn] at hm
  have HN := Lib.hid hn
  have HJ := Lib.hid hJ
  have HJ1 := Lib.hid hJ1
  clear hJ hJ1 hn
  go_enter Try.func11, Try.ntmps11
  go_wp2
  go_loopw [5] (fun i w' => ∃ k : Nat, k ≤ n ∧ i = .int .i64 k ∧ Hid (Below w.heap.size w w')) (fun i _ => n - (intOf i).toNat)
  case atStart => exact ⟨0, Nat.zero_le _, rfl, Below.refl _ _⟩
  case round =>
    obtain ⟨k, hk, rfl, HB⟩ := hrel
    by_cases hlt : k < n
    · have hkz : k < xs.length := by rw [HN.out]; exact hlt
      have ja := HJ.out.belowS HB.out
      have jb := HJ1.out.belowS HB.out
      obtain ⟨b, o, rfl⟩ := ja.some_ (by omega)
      obtain ⟨b', o', rfl⟩ := jb.some_ (by omega)
      have h1 := lis_cells ja k hkz
      have h2 := lis_cells jb k hkz
      obtain ⟨ap, HRI⟩ : ∃ x, Hid ((lth xs k).n = x) := ⟨_, rfl⟩
      obtain ⟨ab, HRT⟩ : ∃ x, Hid ((lth xs k).t = x) := ⟨_, rfl⟩
      rw [HRI.out, HRT.out] at h1 h2
      have H1 := Lib.hid h1
      have H2 := Lib.hid h2
      have hk0 : (0 : Int) ≤ (k : Int) := by omega
      have hki : (k : Int) < (n : Int) := by omega
      clear hkz ja jb h1 h2
      go_wp2_with fail
      refine wp_region_held_drew (S := (fun w' => (w'.cell? ⟨b, o + k * 2, none⟩ = some (.int .i64 ap) ∧ w'.cell? ⟨b, o + k * 2 + 1, none⟩ = some (.int .i64 ab)) ∧ (w'.cell? ⟨b', o' + k * 2, none⟩ = some (.int .i64 ap) ∧ w'.cell? ⟨b', o' + k * 2 + 1, none⟩ = some (.int .i64 ab)))) (by kernel_rfl) (⟨H1.out, H2.out⟩) (fun hHeld => ?_)
      refine wpAnyH_take (i := 0) (v := ?zv51001) rfl (by kernel_rfl) (by kernel_rfl) (by kernel_rfl) (fun _ _ _ h => h) (Or.inl ⟨by kernel_rfl, ?zy51001⟩) (by assumption) ?zr51001
      case zy51001 => (intro w hSw; (try dsimp only at hSw); go_simp; try with_reducible rfl)
      change wpAnyH _ _ _ _ _ _ _ (Act.put _ (some 17) _) _
      simp only [Act.put, List.setIfInBounds_toArray, List.set_cons_zero, List.set_cons_succ]
      refine wpAnyH_take (i := 1) (v := ?zv51002) rfl (by kernel_rfl) (by kernel_rfl) (by kernel_rfl) (fun _ _ _ h => h) (Or.inl ⟨by kernel_rfl, ?zy51002⟩) (by assumption) ?zr51002
      case zy51002 => (intro w hSw; (try dsimp only at hSw); go_simp; try with_reducible rfl)
      change wpAnyH _ _ _ _ _ _ _ (Act.put _ (some 18) _) _
      simp only [Act.put, List.setIfInBounds_toArray, List.set_cons_zero, List.set_cons_succ]
      refine wpAnyH_take (i := 2) (v := ?zv51003) rfl (by kernel_rfl) (by kernel_rfl) (by kernel_rfl) (fun _ _ _ h => h) (Or.inl ⟨by kernel_rfl, ?zy51003⟩) (by assumption) ?zr51003
      case zy51003 => (intro w hSw; (try dsimp only at hSw); go_simp; try with_reducible rfl)
      change wpAnyH _ _ _ _ _ _ _ (Act.put _ (some 19) _) _
      simp only [Act.put, List.setIfInBounds_toArray, List.set_cons_zero, List.set_cons_succ]
      refine wpAnyH_take (i := 3) (v := ?zv51004) rfl (by kernel_rfl) (by kernel_rfl) (by kernel_rfl) (fun _ _ _ h => h) (Or.inl ⟨by kernel_rfl, ?zy51004⟩) (by assumption) ?zr51004
      case zy51004 => (intro w hSw; (try dsimp only at hSw); go_simp; try with_reducible rfl)
      change wpAnyH _ _ _ _ _ _ _ (Act.put _ (some 20) _) _
      simp only [Act.put, List.setIfInBounds_toArray, List.set_cons_zero, List.set_cons_succ]
      refine wpAnyH_take (i := 4) (v := ?zv51005) rfl (by kernel_rfl) (by kernel_rfl) (by kernel_rfl) (fun _ _ _ h => h) (Or.inl ⟨by kernel_rfl, ?zy51005⟩) (by assumption) ?zr51005
      case zy51005 => (intro w hSw; (try dsimp only at hSw); go_simp; try with_reducible rfl)
      change wpAnyH _ _ _ _ _ _ _ (Act.put _ (some 21) _) _
      simp only [Act.put, List.setIfInBounds_toArray, List.set_cons_zero, List.set_cons_succ]
      refine wpAnyH_take (i := 5) (v := ?zv51006) rfl (by kernel_rfl) (by kernel_rfl) (by kernel_rfl) (fun _ _ _ h => h) (Or.inl ⟨by kernel_rfl, ?zy51006⟩) (by assumption) ?zr51006
      case zy51006 => (intro w hSw; (try dsimp only at hSw); go_simp; try with_reducible rfl)
      change wpAnyH _ _ _ _ _ _ _ (Act.put _ (some 22) _) _
      simp only [Act.put, List.setIfInBounds_toArray, List.set_cons_zero, List.set_cons_succ]
      refine wpAnyH_take (i := 6) (v := ?zv51007) rfl (by kernel_rfl) (by kernel_rfl) (by kernel_rfl) (fun _ _ _ h => h) (Or.inl ⟨by kernel_rfl, ?zy51007⟩) (by assumption) ?zr51007
      case zy51007 => (intro w hSw; (try dsimp only at hSw); go_simp; try with_reducible rfl)
      change wpAnyH _ _ _ _ _ _ _ (Act.put _ (some 23) _) _
      simp only [Act.put, List.setIfInBounds_toArray, List.set_cons_zero, List.set_cons_succ]
      refine wpAnyH_take (i := 7) (v := ?zv51008) rfl (by kernel_rfl) (by kernel_rfl) (by kernel_rfl) (fun _ _ _ h => h) (Or.inl ⟨by kernel_rfl, ?zy51008⟩) (by assumption) ?zr51008
      case zy51008 => (intro w hSw; (try dsimp only at hSw); go_simp; try with_reducible rfl)
      change wpAnyH _ _ _ _ _ _ _ (Act.put _ (some 24) _) _
      simp only [Act.put, List.setIfInBounds_toArray, List.set_cons_zero, List.set_cons_succ]
      refine wpAnyH_ready (rs := [8]) (by kernel_rfl) (by simp) (AllReadyH.cons rfl (fun K hK => ?_) AllReadyH.nil)
      go_simp
      go_at_call 27
      refine (eqL_any ⟨ap, ab⟩ _).mono ?_
      rintro e w2 ⟨rfl, hb2⟩
      have hb2 := below_drew_l hb2
      have H1 := Lib.hid (two_cellsL H1.out hb2)
      have H2 := Lib.hid (two_cellsL H2.out hb2)
      have HB2 : Hid (Below w.heap.size w w2) := HB.out.trans (hb2.mono HB.out.size)
      clear hb2
      refine hK.out _ _ (⟨H1.out, H2.out⟩) (fun hHeld => ?_)
      clear hK K
      (try simp only [Act.put, List.setIfInBounds_toArray, List.set_cons_zero, List.set_cons_succ])
      refine wpAnyH_take (i := 9) (v := ?zv51009) rfl (by kernel_rfl) (by kernel_rfl) (by kernel_rfl) (fun _ _ _ h => h) (Or.inl ⟨by kernel_rfl, ?zy51009⟩) (by assumption) ?zr51009
      case zy51009 => (intro w hSw; (try dsimp only at hSw); go_simp; try with_reducible rfl)
      change wpAnyH _ _ _ _ _ _ _ (Act.put _ (some 26) _) _
      simp only [Act.put, List.setIfInBounds_toArray, List.set_cons_zero, List.set_cons_succ]
      refine wpAnyH_done (by kernel_rfl) ?_ _
      go_wp2
      go_roundw
      case rel => exact ⟨k + 1, by omega, by go_num, HB2⟩
      case measure => simp [intOf]; omega
    · go_wp2
      go_ret
      exact ⟨rfl, HB.out⟩

set_option maxHeartbeats 4000000 in
set_option maxRecDepth 100000 in
theorem markL_some (base b cap : Nat) (xs : List LD) (w : World) (hO : OwnRow LK w base (some ⟨b, 0, none⟩) cap xs) (hm : xs.length ≤ 1048576) :
    Calls Try.prog 14 #[.slice (some ⟨b, 0, none⟩) xs.length cap, .int .i64 1] w (Marked2 LK w base (some ⟨b, 0, none⟩) cap xs.length (lmarks xs.length)) := by
  have HO := Lib.hid hO
  obtain ⟨n, HN⟩ : ∃ n, Hid (xs.length = n) := ⟨_, rfl⟩
  rw [HN.out] at hm ⊢
  clear hO
  go_enter Try.func14, Try.ntmps14
  go_wp2
  go_loopw [1, 5] (fun x i w' => ∃ k : Nat, k ≤ n ∧ x = .int .i64 (1 + 2 * (k : Int)) ∧ i = .int .i64 k ∧ Hid (OwnRow LK w' base (some ⟨b, 0, none⟩) cap (lmarks k ++ xs.drop k)) ∧ Hid (w.grownBy w' (some b))) (fun _ i _ => n - (intOf i).toNat)
  case atStart => exact ⟨0, Nat.zero_le _, rfl, rfl, HO, World.grownBy.refl _ _⟩
  case round =>
    obtain ⟨k, hk, rfl, rfl, HO1, HG⟩ := hrel
    by_cases hlt : k < n
    · have hkz : k < xs.length := by rw [HN.out]; exact hlt
      have hlen := lmarks_len xs k n HN.out hk
      obtain ⟨⟨d0, e0⟩, ⟨d1, e1⟩⟩ := lis_cellF HO1.out k (by omega)
      have hki : (k : Int) < (n : Int) := by omega
      have hs := lis_n HO1.out k (by omega) (1 + 2 * (k : Int))
      go_upto_region 5 with fail
      obtain ⟨W1, HW1⟩ : ∃ Q0, Hid (wr.setCell ⟨b, k * 2, none⟩ (.int .i64 (1 + 2 * (k : Int))) = Q0) := ⟨_, rfl⟩
      rw [HW1.out] at hs ⊢
      have HS := Lib.hid hs.1
      have HGS : Hid (w.grownBy W1 (some b)) := World.grownBy.trans HG.out hs.2
      clear d0 e0 d1 e1 hs
      obtain ⟨⟨d0, e0⟩, ⟨d1, e1⟩⟩ := lis_cellF HS.out k (by rw [List.length_set]; omega)
      have hs := lis_t HS.out k (by rw [List.length_set]; omega) (2 + 2 * (k : Int))
      rw [show (⟨(lth ((lmarks k ++ xs.drop k).set k ⟨1 + 2 * (k : Int), (lth (lmarks k ++ xs.drop k) k).t⟩) k).n, 2 + 2 * (k : Int)⟩ : LD) = ⟨((1 + 2 * k : Nat) : Int), ((2 + 2 * k : Nat) : Int)⟩ from LD.same (by rw [lth_set _ _ _ (by omega)]; show (1 : Int) + 2 * (k : Int) = ((1 + 2 * k : Nat) : Int); omega) (by show (2 : Int) + 2 * (k : Int) = ((2 + 2 * k : Nat) : Int); omega), lmarks_step xs k hkz _ ⟨0, 0⟩] at hs
      have HT := Lib.hid hs.1
      have HGT : Hid (w.grownBy (W1.setCell ⟨b, k * 2 + 1, none⟩ (.int .i64 (2 + 2 * (k : Int)))) (some b)) := World.grownBy.trans HGS.out hs.2
      have hadd : 1 + 2 * (k : Int) + 1 = 2 + 2 * (k : Int) := by omega
      clear hkz hlen hs
      have hw1 : IntKind.i64.wrap (1 + 2 * (k : Int) + 1) = 2 + 2 * (k : Int) := by rw [hadd]; exact IntWalk.i64_in _ (by omega)
      have hw2 : IntKind.i64.wrap (2 + 2 * (k : Int) + 1) = 3 + 2 * (k : Int) := by rw [show 2 + 2 * (k : Int) + 1 = 3 + 2 * (k : Int) by omega]; exact IntWalk.i64_in _ (by omega)
      clear hadd
      go_wp2
      go_roundw
      case rel => exact ⟨k + 1, by omega, (by first | go_num | (simp; omega)), by go_num, HT, HGT⟩
      case measure => simp [intOf]; omega
    · have hkn : k = n := by omega
      subst hkn
      have ho := HO1.out
      rw [List.drop_eq_nil_of_le (by rw [HN.out]; omega), List.append_nil] at ho
      have HO' := Lib.hid ho
      clear ho
      go_wp2
      go_ret
      exact ⟨ret_int (by simp), HO'.out, (fun b' e => by injection e with e; injection e with e _ _; subst e; exact HG.out), (fun e => by cases e)⟩

set_option maxHeartbeats 4000000 in
set_option maxRecDepth 100000 in
theorem markL_any (base : Nat) (A : Option Addr) (cap : Nat) (xs : List LD) (w : World) (hO : OwnRow LK w base A cap xs) (hm : xs.length ≤ 1048576) :
    Calls Try.prog 14 #[.slice A xs.length cap, .int .i64 1] w (Marked2 LK w base A cap xs.length (lmarks xs.length)) := by
  rcases A with _ | ad
  · have h0 := hO.none_nil
    subst h0
    have HO := Lib.hid hO
    clear hO
    go_enter Try.func14, Try.ntmps14
    go_wp2
    go_loop [1, 5] (fun x i => x = .int .i64 1 ∧ i = .int .i64 0) (fun _ _ => 0)
    case atStart => exact ⟨rfl, rfl⟩
    case round =>
      obtain ⟨rfl, rfl⟩ := hrel
      go_wp2
      go_ret
      exact ⟨rfl, HO.out, (fun b e => by cases e), fun _ => Below.refl _ _⟩
  · rcases hO.nowhere with h | ⟨b, h⟩
    · cases h
    · injection h with h
      subst h
      exact markL_some base b cap xs w hO hm

set_option maxHeartbeats 4000000 in
set_option maxRecDepth 100000 in
theorem heldL_any (A : Option Addr) (cap n : Nat) (w : World) (hI : RowAt LK w w.heap.size A (lmarks n)) (hm : n ≤ 1048576) :
    Calls Try.prog 15 #[.slice A n cap, .int .i64 1] w fun e w' => e = .returned (.int .i64 ((1 + 2 * n : Nat) : Int)) ∧ Below w.heap.size w w' := by
  have HI := Lib.hid hI
  clear hI
  go_enter Try.func15, Try.ntmps15
  go_wp2
  go_loopw [1, 5] (fun x i w' => ∃ k : Nat, k ≤ n ∧ x = .int .i64 (1 + 2 * (k : Int)) ∧ i = .int .i64 k ∧ w' = w) (fun _ i _ => n - (intOf i).toNat)
  case atStart => exact ⟨0, Nat.zero_le _, rfl, rfl, (by first | trivial | rfl)⟩
  case round =>
    obtain ⟨k, hk, rfl, rfl, rfl⟩ := hrel
    by_cases hlt : k < n
    · have hkz : k < (lmarks n).length := by rw [lmarks_length]; exact hlt
      obtain ⟨b, o, rfl⟩ := HI.out.some_ (by omega)
      obtain ⟨c0, c1⟩ := lis_cells HI.out k hkz
      rw [lmarks_lth n k hlt] at c0 c1
      have hc0 : ((1 + 2 * k : Nat) : Int) = 1 + 2 * (k : Int) := by omega
      have hc1 : ((2 + 2 * k : Nat) : Int) = 2 + 2 * (k : Int) := by omega
      simp only [hc0, hc1] at c0 c1
      have hki : (k : Int) < (n : Int) := by omega
      have hn1 : ((1 + 2 * (k : Int)) != (1 + 2 * (k : Int))) = false := by simp
      have hn2 : ((2 + 2 * (k : Int)) != (2 + 2 * (k : Int))) = false := by simp
      have hw1 : IntKind.i64.wrap (1 + 2 * (k : Int) + 1) = 2 + 2 * (k : Int) := by rw [show 1 + 2 * (k : Int) + 1 = 2 + 2 * (k : Int) by omega]; exact IntWalk.i64_in _ (by omega)
      have hw2 : IntKind.i64.wrap (2 + 2 * (k : Int) + 1) = 3 + 2 * (k : Int) := by rw [show 2 + 2 * (k : Int) + 1 = 3 + 2 * (k : Int) by omega]; exact IntWalk.i64_in _ (by omega)
      clear hkz hc0 hc1
      go_wp2
      go_roundw
      case rel => exact ⟨k + 1, by omega, (by first | go_num | (simp; omega)), by go_num, (by first | trivial | rfl)⟩
      case measure => simp [intOf]; omega
    · have hkn : k = n := by omega
      subst hkn
      go_wp2
      go_ret
      exact ⟨ret_int (by simp), Below.refl _ _⟩

end Go.Proofs.Ytjefkpjjdloodaa
