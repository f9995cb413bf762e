/- Contracts of the exact laws' helpers over slices of pairs: the copy, the size, the comparison of equal ones, the marks and what still holds them. Conditions: the pairs lie in memory; marked are at most 2^20. -/
import Derived.Test.YteckmbmpellkgaaExactRow
import Derived.Test.YteckmbmpellkgaaPairV
import Derived.Deep.DeepCutAuto
namespace Go.Proofs.Yteckmbmpellkgaa
open Go.RowKit
set_option linter.unusedVariables false

/-- A pair is written. -/
theorem pv_store {w : World} {base b cap : Nat} {xs : List VD} (h : OwnRow VK w base (some ⟨b, 0, none⟩) cap xs) (i : Nat) (hi : i < xs.length) (a : VD) :
    OwnRow VK ((w.setCell ⟨b, i * 2, none⟩ (.int .i64 a.n)).setCell ⟨b, i * 2 + 1, none⟩ (.int .i64 a.t)) base (some ⟨b, 0, none⟩) cap (xs.set i a) ∧ w.grownBy ((w.setCell ⟨b, i * 2, none⟩ (.int .i64 a.n)).setCell ⟨b, i * 2 + 1, none⟩ (.int .i64 a.t)) (some b) := by
  have h1 := h.stored i (vth xs i) ⟨a.n, (vth xs i).t⟩ (vth_get xs i hi) 0 (by decide) (.int .i64 a.n) rfl
  have h2 := h1.1.stored i ⟨a.n, (vth xs i).t⟩ a (by rw [List.getElem?_set_self hi]) 1 (by decide) (.int .i64 a.t) rfl
  rw [List.set_set] at h2
  exact ⟨h2.1, World.grownBy.trans h1.2 h2.2⟩
theorem pv_n {w : World} {base b cap : Nat} {xs : List VD} (h : OwnRow VK w base (some ⟨b, 0, none⟩) cap xs) (i : Nat) (hi : i < xs.length) (v : Int) :
    OwnRow VK (w.setCell ⟨b, i * 2, none⟩ (.int .i64 v)) base (some ⟨b, 0, none⟩) cap (xs.set i ⟨v, (vth xs i).t⟩) ∧ w.grownBy (w.setCell ⟨b, i * 2, none⟩ (.int .i64 v)) (some b) :=
  h.stored i (vth xs i) ⟨v, (vth xs i).t⟩ (vth_get xs i hi) 0 (by decide) (.int .i64 v) rfl
theorem pv_t {w : World} {base b cap : Nat} {xs : List VD} (h : OwnRow VK w base (some ⟨b, 0, none⟩) cap xs) (i : Nat) (hi : i < xs.length) (v : Int) :
    OwnRow VK (w.setCell ⟨b, i * 2 + 1, none⟩ (.int .i64 v)) base (some ⟨b, 0, none⟩) cap (xs.set i ⟨(vth xs i).n, v⟩) ∧ w.grownBy (w.setCell ⟨b, i * 2 + 1, none⟩ (.int .i64 v)) (some b) :=
  h.stored i (vth xs i) ⟨(vth xs i).n, v⟩ (vth_get xs i hi) 1 (by decide) (.int .i64 v) rfl
theorem pv_cellF {w : World} {base b cap : Nat} {xs : List VD} (h : OwnRow VK w base (some ⟨b, 0, none⟩) cap xs) (i : Nat) (hi : i < xs.length) :
    (w.cell? ⟨b, i * 2, none⟩ = some (.int .i64 (vth xs i).n) ∧ w.frozen? ⟨b, i * 2, none⟩ = false) ∧ (w.cell? ⟨b, i * 2 + 1, none⟩ = some (.int .i64 (vth xs i).t) ∧ w.frozen? ⟨b, i * 2 + 1, none⟩ = false) :=
  ⟨h.cellF i (vth xs i) (vth_get xs i hi) 0 _ rfl, h.cellF i (vth xs i) (vth_get xs i hi) 1 _ rfl⟩
def noV (n : Nat) : List VD := List.replicate n ⟨0, 0⟩
theorem copyV_step (xs : List VD) (k n : Nat) (hn : xs.length = n) (hk : k < n) : (xs.take k ++ noV (n - k)).set k (vth xs k) = xs.take (k + 1) ++ noV (n - (k + 1)) := by
  have hl : (xs.take k).length = k := by rw [List.length_take]; omega
  have e : n - k = (n - (k + 1)) + 1 := by omega
  have hz : noV (n - k) = ⟨0, 0⟩ :: noV (n - (k + 1)) := by rw [e]; rfl
  rw [hz, take_vth xs k (by omega), List.set_append_right _ _ (by omega), hl, Nat.sub_self, List.append_assoc]
  rfl
theorem copyV_len (xs : List VD) (k n : Nat) (hn : xs.length = n) (hk : k ≤ n) : (xs.take k ++ noV (n - k)).length = n := by
  rw [List.length_append, List.length_take]
  unfold noV
  rw [List.length_replicate]; omega
theorem pv_info_parts : ∃ i z, Try.prog.info? VK.e = some i ∧ i.zero = some (.agg #[.int .i64 0, .int .i64 0]) ∧ i.size = VK.k ∧ i.bytes = VK.by_ ∧ z = () := by
  obtain ⟨i0, hi0, hz0, hz1, hz2⟩ := info_parts pv_info
  exact ⟨i0, (), hi0, hz0, hz1, hz2, rfl⟩
theorem vth_set (xs : List VD) (k : Nat) (x : VD) (hk : k < xs.length) : vth (xs.set k x) k = x := by
  unfold vth; rw [List.getD_eq_getElem?_getD, List.getElem?_set_self hk]; rfl
/-- The marks of the first n pairs. -/
def vmarks (n : Nat) : List VD := (List.range n).map fun i => ⟨((1 + 2 * i : Nat) : Int), ((2 + 2 * i : Nat) : Int)⟩
theorem vmarks_length (n : Nat) : (vmarks n).length = n := by unfold vmarks; rw [List.length_map, List.length_range]
theorem vmarks_vth (n k : Nat) (hk : k < n) : vth (vmarks n) k = ⟨((1 + 2 * k : Nat) : Int), ((2 + 2 * k : Nat) : Int)⟩ := by
  have h := vth_get (vmarks n) k (by rw [vmarks_length]; exact hk)
  unfold vmarks at h
  rw [List.getElem?_map, List.getElem?_range hk] at h
  injection h with h
  unfold vmarks
  exact h.symm
theorem vmarks_succ (n : Nat) : vmarks (n + 1) = vmarks n ++ [⟨((1 + 2 * n : Nat) : Int), ((2 + 2 * n : Nat) : Int)⟩] := by
  unfold vmarks; rw [List.range_succ, List.map_append]; rfl
theorem vmarks_step (xs : List VD) (k : Nat) (hk : k < xs.length) (x y : VD) : ((vmarks k ++ xs.drop k).set k x).set k ⟨((1 + 2 * k : Nat) : Int), ((2 + 2 * k : Nat) : Int)⟩ = vmarks (k + 1) ++ xs.drop (k + 1) := by
  rw [List.set_set, vmarks_succ, List.set_append_right _ _ (by rw [vmarks_length]; omega), vmarks_length, Nat.sub_self, drop_vth xs k hk, List.append_assoc]
  rfl
theorem vmarks_len (xs : List VD) (k n : Nat) (hn : xs.length = n) (hk : k ≤ n) : (vmarks k ++ xs.drop k).length = n := by
  rw [List.length_append, vmarks_length, List.length_drop]; omega

set_option maxHeartbeats 4000000 in
set_option maxRecDepth 100000 in
theorem toV_any (a : VD) (w : World) : Calls Try.prog 16 #[pvV a] w fun e w' => e = .returned (pvV a) ∧ Below w.heap.size w w' := by
  obtain ⟨ap, ab⟩ := a
  obtain ⟨W, HW⟩ : ∃ Q0, Hid (((w.alloc (.cells #[.int .i64 ap, .int .i64 ab] 43)).alloc (.cells #[.int .i64 0, .int .i64 0] 29)).alloc (.cells #[.int .i64 0, .int .i64 0] 29) = Q0) := ⟨_, rfl⟩
  have KA : Hid (Blk W w.heap.size 43 #[.int .i64 ap, .int .i64 ab]) := by rw [← HW.out]; exact ((Blk.new w _ _).alloc _).alloc _
  have KZ : Hid (Blk W (w.heap.size + 1) 29 #[.int .i64 0, .int .i64 0]) := by
    rw [← HW.out]
    have h := Blk.new (w.alloc (.cells #[.int .i64 ap, .int .i64 ab] 43)) 29 #[.int .i64 0, .int .i64 0]
    rw [World.size_alloc] at h
    exact h.alloc _
  have KO : Hid (Blk W (w.heap.size + 1 + 1) 29 #[.int .i64 0, .int .i64 0]) := by
    rw [← HW.out]
    have h := Blk.new ((w.alloc (.cells #[.int .i64 ap, .int .i64 ab] 43)).alloc (.cells #[.int .i64 0, .int .i64 0] 29)) 29 #[.int .i64 0, .int .i64 0]
    rw [World.size_alloc, World.size_alloc] at h
    exact h
  have HB : Hid (Below w.heap.size w W) := by rw [← HW.out]; exact (((Below.refl _ w).alloc (Nat.le_refl _) _).alloc (by simp) _).alloc (by simp; omega) _
  obtain ⟨g1, hg1⟩ : ∃ v, w.heap.size + 1 = v := ⟨_, rfl⟩
  obtain ⟨g2, hg2⟩ : ∃ v, w.heap.size + 1 + 1 = v := ⟨_, rfl⟩
  rw [hg1] at KZ
  rw [hg2] at KO
  have hgg : g1 + 1 = g2 := by omega
  obtain ⟨a0, a1⟩ := pv2 KA.out
  obtain ⟨o0, o1⟩ := pv2 KO.out
  have of := blk_frozen KO.out
  go_enter Try.func16, Try.ntmps16
  go_upto_region 2 with fail
  rw [HW.out]
  go_upto_region 3 with fail
  obtain ⟨W1, HW1⟩ : ∃ Q0, Hid (W.setCell ⟨g2, 0, none⟩ (.int .i64 ap) = Q0) := ⟨_, rfl⟩
  have KO1 : Hid (Blk W1 g2 29 #[.int .i64 ap, .int .i64 0]) := by rw [← HW1.out]; exact KO.out.setOwn 0 _
  have KA1 : Hid (Blk W1 w.heap.size 43 #[.int .i64 ap, .int .i64 ab]) := by rw [← HW1.out]; exact KA.out.setOther (p := ⟨g2, 0, none⟩) (by show g2 ≠ _; omega) _
  have KZ1 : Hid (Blk W1 g1 29 #[.int .i64 0, .int .i64 0]) := by rw [← HW1.out]; exact KZ.out.setOther (p := ⟨g2, 0, none⟩) (by show g2 ≠ _; omega) _
  have HB1 : Hid (Below w.heap.size w W1) := by rw [← HW1.out]; exact HB.out.setCell (p := ⟨g2, 0, none⟩) (by show w.heap.size ≤ g2; omega) _
  rw [HW1.out]
  clear a0 a1 o0 o1 of
  obtain ⟨a0, a1⟩ := pv2 KA1.out
  obtain ⟨o0, o1⟩ := pv2 KO1.out
  have of := blk_frozen KO1.out
  go_upto_region 4 with fail
  obtain ⟨W2, HW2⟩ : ∃ Q0, Hid (W1.setCell ⟨g2, 1, none⟩ (.int .i64 ab) = Q0) := ⟨_, rfl⟩
  have KO2 : Hid (Blk W2 g2 29 #[.int .i64 ap, .int .i64 ab]) := by rw [← HW2.out]; exact KO1.out.setOwn 1 _
  have KZ2 : Hid (Blk W2 g1 29 #[.int .i64 0, .int .i64 0]) := by rw [← HW2.out]; exact KZ1.out.setOther (p := ⟨g2, 1, none⟩) (by show g2 ≠ _; omega) _
  have HB2 : Hid (Below w.heap.size w W2) := by rw [← HW2.out]; exact HB1.out.setCell (p := ⟨g2, 1, none⟩) (by show w.heap.size ≤ g2; omega) _
  rw [HW2.out]
  clear a0 a1 o0 o1 of
  obtain ⟨o0, o1⟩ := pv2 KO2.out
  obtain ⟨z0, z1⟩ := pv2 KZ2.out
  have zf := blk_frozen KZ2.out
  go_wp2
  obtain ⟨Y, HY⟩ : ∃ Q0, Hid ((W2.setCell ⟨g1, 0, none⟩ (.int .i64 ap)).setCell ⟨g1, 1, none⟩ (.int .i64 ab) = Q0) := ⟨_, rfl⟩
  have KY : Hid (Blk Y g1 29 #[.int .i64 ap, .int .i64 ab]) := by rw [← HY.out]; exact (KZ2.out.setOwn 0 _).setOwn 1 _
  have HBY : Hid (Below w.heap.size w Y) := by rw [← HY.out]; exact (HB2.out.setCell (p := ⟨g1, 0, none⟩) (by show w.heap.size ≤ g1; omega) _).setCell (p := ⟨g1, 1, none⟩) (by show w.heap.size ≤ g1; omega) _
  rw [HY.out]
  obtain ⟨y0, y1⟩ := pv2 KY.out
  exact bodyPost_ret (v := pvV ⟨ap, ab⟩) (by simp [results, Try.results16, go_sem, y0, y1]) rfl ⟨rfl, HBY.out⟩

/-- A copy of pairs in memory of the call's own. -/
def CopiedV (w : World) (xs : List VD) (e : Ending) (w' : World) : Prop :=
  e = .returned (.slice (some ⟨w.heap.size, 0, none⟩) xs.length xs.length) ∧ OwnRow VK w' w.heap.size (some ⟨w.heap.size, 0, none⟩) xs.length xs ∧ Below w.heap.size w w'

set_option maxHeartbeats 4000000 in
set_option maxRecDepth 100000 in
theorem toVs_any (A : Option Addr) (cap : Nat) (xs : List VD) (w : World) (hI : RowAt VK w w.heap.size A xs) (hm : xs.length ≤ 1048576) :
    Calls Try.prog 10 #[.slice A xs.length cap] w (CopiedV w xs) := by
  have HI := Lib.hid hI
  obtain ⟨n, HN⟩ : ∃ n, Hid (xs.length = n) := ⟨_, rfl⟩
  rw [HN.out] at hm ⊢
  clear hI
  obtain ⟨i0, zz, hi0, hz0, hz1, hz2, hz3⟩ := pv_info_parts
  have hmk := fun W => run_make_kind (P := Try.prog) VK 23 ⟨0, 0⟩ _ Try.underlying23 hi0 hz0 hz1 hz2 rfl .i64 .i64 n (by show 16 * n ≤ _; omega) (by omega) W
  obtain ⟨W, HW⟩ : ∃ Q0, Hid (w.alloc (.cells (VK.cells (List.replicate n ⟨0, 0⟩)).toArray VK.e) = Q0) := ⟨_, rfl⟩
  have HO0 : Hid (OwnRow VK W w.heap.size (some ⟨w.heap.size, 0, none⟩) n (noV n)) := by rw [← HW.out]; exact OwnRow.made VK w n ⟨0, 0⟩ (by unfold maxLen; omega)
  have HB0 : Hid (Below w.heap.size w W) := by rw [← HW.out]; exact (Below.refl _ _).alloc (Nat.le_refl _) _
  have hWz : w.heap.size < W.heap.size := (HO0.out.lies _ rfl).2
  clear hz0 hz1 hz2 hi0
  go_enter Try.func10, Try.ntmps10
  go_upto_region 2 with fail
  rw [HW.out]
  clear hmk
  go_wp2
  go_loopw [4] (fun i w' => ∃ k : Nat, k ≤ n ∧ i = .int .i64 k ∧ Hid (OwnRow VK w' w.heap.size (some ⟨w.heap.size, 0, none⟩) n (xs.take k ++ noV (n - k))) ∧ Hid (Below w.heap.size w w')) (fun i _ => n - (intOf i).toNat)
  case atStart => exact ⟨0, Nat.zero_le _, rfl, (by show OwnRow _ _ _ _ _ _; have h := HO0.out; simpa using h), HB0⟩
  case round =>
    obtain ⟨k, hk, rfl, HO, HB⟩ := hrel
    by_cases hlt : k < n
    · have hkz : k < xs.length := by rw [HN.out]; exact hlt
      have hj := HI.out.belowS HB.out
      obtain ⟨b, o, rfl⟩ := hj.some_ (by omega)
      obtain ⟨c0, c1⟩ := pv_cells hj k hkz
      obtain ⟨ap, HRI⟩ : ∃ x, Hid ((vth xs k).n = x) := ⟨_, rfl⟩
      obtain ⟨ab, HRT⟩ : ∃ x, Hid ((vth xs k).t = x) := ⟨_, rfl⟩
      have HONE : Hid (vth xs k = ⟨ap, ab⟩) := by
        show _ = _
        rw [← HRI.out, ← HRT.out]
      rw [HRI.out] at c0
      rw [HRT.out] at c1
      have hki : (k : Int) < (n : Int) := by omega
      have hwz : w.heap.size ≤ wr.heap.size := HB.out.size
      clear hj
      go_wp2_with fail
      refine (toV_any ⟨ap, ab⟩ wr).mono ?_
      rintro e w2 ⟨rfl, hb2⟩
      have HO2 := Lib.hid (HO.out.below hb2)
      have HB2 : Hid (Below w.heap.size w w2) := HB.out.trans (hb2.mono hwz)
      have hlen := copyV_len xs k n HN.out (by omega)
      obtain ⟨⟨d0, e0⟩, ⟨d1, e1⟩⟩ := pv_cellF HO2.out k (by omega)
      have hs := pv_store HO2.out k (by omega) ⟨ap, ab⟩
      rw [← HONE.out, copyV_step xs k n HN.out hlt, HONE.out] at hs
      have HS := Lib.hid hs.1
      have HBS : Hid (Below w.heap.size w ((w2.setCell ⟨w.heap.size, k * 2, none⟩ (.int .i64 ap)).setCell ⟨w.heap.size, k * 2 + 1, none⟩ (.int .i64 ab))) := (HB2.out.setCell (p := ⟨w.heap.size, k * 2, none⟩) (Nat.le_refl _) _).setCell (p := ⟨w.heap.size, k * 2 + 1, none⟩) (Nat.le_refl _) _
      clear hkz hs hb2 c0 c1 hlen
      go_wp2
      go_roundw
      case rel => exact ⟨k + 1, by omega, by go_num, HS, HBS⟩
      case measure => simp [intOf]; omega
    · have hkn : k = n := by omega
      subst hkn
      have ho := HO.out
      rw [Nat.sub_self, List.take_of_length_le (by rw [HN.out]; omega)] at ho
      have HO' : Hid (OwnRow VK wr w.heap.size (some ⟨w.heap.size, 0, none⟩) k xs) := by show OwnRow _ _ _ _ _ _; simpa [noV] using ho
      clear ho
      go_wp2
      go_ret
      refine ⟨?_, ?_, HB.out⟩
      · rw [HN.out]; first | done | rfl
      · rw [HN.out]; exact HO'.out

theorem toVs_ret (A : Option Addr) (cap : Nat) (xs : List VD) (w : World) (hI : RowAt VK w w.heap.size A xs) (hm : xs.length ≤ 1048576) :
    Calls Try.prog 10 #[.slice A xs.length cap] w fun e w' => ∃ g, e = .returned (.slice (some ⟨g, 0, none⟩) xs.length xs.length) ∧ OwnRow VK w' w.heap.size (some ⟨g, 0, none⟩) xs.length xs ∧ Below w.heap.size w w' :=
  (toVs_any A cap xs w hI hm).mono fun _ _ h => ⟨_, h⟩
set_option maxHeartbeats 4000000 in
set_option maxRecDepth 100000 in
theorem szV_fit (A : Option Addr) (n cap : Nat) (w : World) (hn : n ≤ 1048576) :
    Calls Try.prog 9 #[.slice A n cap, .int .i64 1048576] w fun e w' => e = .returned (.int .i64 (1048576 - (n : Int))) ∧ w = w' := by
  have hw1 : IntKind.i64.wrap (1048576 - (n : Int)) = 1048576 - (n : Int) := IntWalk.i64_in _ (by omega)
  obtain ⟨r, hr⟩ : ∃ r, 1048576 - (n : Int) = r := ⟨_, rfl⟩
  have h0 : ¬ r < 0 := by omega
  rw [hr] at hw1 ⊢
  go_enter Try.func9, Try.ntmps9
  go_wp2
  go_ret
  exact ⟨rfl, rfl⟩

set_option maxHeartbeats 4000000 in
set_option maxRecDepth 100000 in
theorem szV_over (A : Option Addr) (n cap : Nat) (w : World) (hn : 1048576 < n) (hm : n ≤ maxLen) :
    Calls Try.prog 9 #[.slice A n cap, .int .i64 1048576] w fun e w' => e = .returned (.int .i64 (-1)) ∧ w = w' := by
  unfold maxLen at hm
  have hw1 : IntKind.i64.wrap (1048576 - (n : Int)) = 1048576 - (n : Int) := IntWalk.i64_in _ (by omega)
  obtain ⟨r, hr⟩ : ∃ r, 1048576 - (n : Int) = r := ⟨_, rfl⟩
  have h0 : r < 0 := by omega
  rw [hr] at hw1
  go_enter Try.func9, Try.ntmps9
  go_wp2
  go_ret
  exact ⟨rfl, rfl⟩

set_option maxHeartbeats 4000000 in
set_option maxRecDepth 100000 in
theorem eqV_any (a : VD) (w : World) :
    Calls Try.prog 17 #[pvV a, pvV a] w fun e w' => e = .returned (.bool true) ∧ Below w.heap.size w w' := by
  obtain ⟨ap, ab⟩ := a
  obtain ⟨W, HW⟩ : ∃ Q0, Hid ((w.alloc (.cells #[.int .i64 ap, .int .i64 ab] 29)).alloc (.cells #[.int .i64 ap, .int .i64 ab] 29) = Q0) := ⟨_, rfl⟩
  have KA : Hid (Blk W w.heap.size 29 #[.int .i64 ap, .int .i64 ab]) := by rw [← HW.out]; exact (Blk.new w _ _).alloc _
  have KB : Hid (Blk W (w.heap.size + 1) 29 #[.int .i64 ap, .int .i64 ab]) := by
    rw [← HW.out]
    have h := Blk.new (w.alloc (.cells #[.int .i64 ap, .int .i64 ab] 29)) 29 #[.int .i64 ap, .int .i64 ab]
    rw [World.size_alloc] at h
    exact h
  have HB : Hid (Below w.heap.size w W) := by rw [← HW.out]; exact ((Below.refl _ w).alloc (Nat.le_refl _) _).alloc (by simp) _
  obtain ⟨a0, a1⟩ := pv2 KA.out
  obtain ⟨b0, b1⟩ := pv2 KB.out
  go_enter Try.func17, Try.ntmps17
  go_upto_region 1 with fail
  rw [HW.out]
  go_wp2
  go_ret
  exact ⟨rfl, HB.out⟩

theorem two_cellsV {w w' : World} {b o : Nat} {u v : Value} (h : w.cell? ⟨b, o, none⟩ = some u ∧ w.cell? ⟨b, o + 1, none⟩ = some v) (hb : Below w.heap.size w w') : w'.cell? ⟨b, o, none⟩ = some u ∧ w'.cell? ⟨b, o + 1, none⟩ = some v :=
  ⟨(hb.cell (p := ⟨b, o, none⟩) (World.block_lt_of_cell? w _ h.1)).trans h.1, (hb.cell (p := ⟨b, o + 1, none⟩) (World.block_lt_of_cell? w _ h.2)).trans h.2⟩

set_option maxHeartbeats 4000000 in
set_option maxRecDepth 100000 in
theorem eqVs_any (A : Option Addr) (c : Nat) (A1 : Option Addr) (c1 : Nat) (xs : List VD) (w : World) (hJ : RowAt VK w w.heap.size A xs) (hJ1 : RowAt VK w w.heap.size A1 xs) (hm : xs.length ≤ maxLen) {n : Nat} (hn : xs.length = n) :
    Calls Try.prog 11 #[.slice A n c, .slice A1 n c1] w fun e w' => e = .returned (.bool true) ∧ Below w.heap.size w w' := by
  unfold maxLen at hm
  rw [hn] at hm
  have HN := Lib.hid hn
  have HJ := Lib.hid hJ
  have HJ1 := Lib.hid hJ1
  clear hJ hJ1 hn
  go_enter Try.func11, Try.ntmps11
  go_wp2
  go_loopw [5] (fun i w' => ∃ k : Nat, k ≤ n ∧ i = .int .i64 k ∧ Hid (Below w.heap.size w w')) (fun i _ => n - (intOf i).toNat)
  case atStart => exact ⟨0, Nat.zero_le _, rfl, Below.refl _ _⟩
  case round =>
    obtain ⟨k, hk, rfl, HB⟩ := hrel
    by_cases hlt : k < n
    · have hkz : k < xs.length := by rw [HN.out]; exact hlt
      have ja := HJ.out.belowS HB.out
      have jb := HJ1.out.belowS HB.out
      obtain ⟨b, o, rfl⟩ := ja.some_ (by omega)
      obtain ⟨b', o', rfl⟩ := jb.some_ (by omega)
      have h1 := pv_cells ja k hkz
      have h2 := pv_cells jb k hkz
      obtain ⟨ap, HRI⟩ : ∃ x, Hid ((vth xs k).n = x) := ⟨_, rfl⟩
      obtain ⟨ab, HRT⟩ : ∃ x, Hid ((vth xs k).t = x) := ⟨_, rfl⟩
      rw [HRI.out, HRT.out] at h1 h2
      have H1 := Lib.hid h1
      have H2 := Lib.hid h2
      have hk0 : (0 : Int) ≤ (k : Int) := by omega
      have hki : (k : Int) < (n : Int) := by omega
      clear hkz ja jb h1 h2
      go_wp2_with fail
      refine wp_region_held_drew (S := (fun w' => (w'.cell? ⟨b, o + k * 2, none⟩ = some (.int .i64 ap) ∧ w'.cell? ⟨b, o + k * 2 + 1, none⟩ = some (.int .i64 ab)) ∧ (w'.cell? ⟨b', o' + k * 2, none⟩ = some (.int .i64 ap) ∧ w'.cell? ⟨b', o' + k * 2 + 1, none⟩ = some (.int .i64 ab)))) (by kernel_rfl) (⟨H1.out, H2.out⟩) (fun hHeld => ?_)
      refine wpAnyH_take (i := 0) (v := ?zv51001) rfl (by kernel_rfl) (by kernel_rfl) (by kernel_rfl) (fun _ _ _ h => h) (Or.inl ⟨by kernel_rfl, ?zy51001⟩) (by assumption) ?zr51001
      case zy51001 => (intro w hSw; (try dsimp only at hSw); go_simp; try with_reducible rfl)
      change wpAnyH _ _ _ _ _ _ _ (Act.put _ (some 17) _) _
      simp only [Act.put, List.setIfInBounds_toArray, List.set_cons_zero, List.set_cons_succ]
      refine wpAnyH_take (i := 1) (v := ?zv51002) rfl (by kernel_rfl) (by kernel_rfl) (by kernel_rfl) (fun _ _ _ h => h) (Or.inl ⟨by kernel_rfl, ?zy51002⟩) (by assumption) ?zr51002
      case zy51002 => (intro w hSw; (try dsimp only at hSw); go_simp; try with_reducible rfl)
      change wpAnyH _ _ _ _ _ _ _ (Act.put _ (some 18) _) _
      simp only [Act.put, List.setIfInBounds_toArray, List.set_cons_zero, List.set_cons_succ]
      refine wpAnyH_take (i := 2) (v := ?zv51003) rfl (by kernel_rfl) (by kernel_rfl) (by kernel_rfl) (fun _ _ _ h => h) (Or.inl ⟨by kernel_rfl, ?zy51003⟩) (by assumption) ?zr51003
      case zy51003 => (intro w hSw; (try dsimp only at hSw); go_simp; try with_reducible rfl)
      change wpAnyH _ _ _ _ _ _ _ (Act.put _ (some 19) _) _
      simp only [Act.put, List.setIfInBounds_toArray, List.set_cons_zero, List.set_cons_succ]
      refine wpAnyH_take (i := 3) (v := ?zv51004) rfl (by kernel_rfl) (by kernel_rfl) (by kernel_rfl) (fun _ _ _ h => h) (Or.inl ⟨by kernel_rfl, ?zy51004⟩) (by assumption) ?zr51004
      case zy51004 => (intro w hSw; (try dsimp only at hSw); go_simp; try with_reducible rfl)
      change wpAnyH _ _ _ _ _ _ _ (Act.put _ (some 20) _) _
      simp only [Act.put, List.setIfInBounds_toArray, List.set_cons_zero, List.set_cons_succ]
      refine wpAnyH_take (i := 4) (v := ?zv51005) rfl (by kernel_rfl) (by kernel_rfl) (by kernel_rfl) (fun _ _ _ h => h) (Or.inl ⟨by kernel_rfl, ?zy51005⟩) (by assumption) ?zr51005
      case zy51005 => (intro w hSw; (try dsimp only at hSw); go_simp; try with_reducible rfl)
      change wpAnyH _ _ _ _ _ _ _ (Act.put _ (some 21) _) _
      simp only [Act.put, List.setIfInBounds_toArray, List.set_cons_zero, List.set_cons_succ]
      refine wpAnyH_take (i := 5) (v := ?zv51006) rfl (by kernel_rfl) (by kernel_rfl) (by kernel_rfl) (fun _ _ _ h => h) (Or.inl ⟨by kernel_rfl, ?zy51006⟩) (by assumption) ?zr51006
      case zy51006 => (intro w hSw; (try dsimp only at hSw); go_simp; try with_reducible rfl)
      change wpAnyH _ _ _ _ _ _ _ (Act.put _ (some 22) _) _
      simp only [Act.put, List.setIfInBounds_toArray, List.set_cons_zero, List.set_cons_succ]
      refine wpAnyH_take (i := 6) (v := ?zv51007) rfl (by kernel_rfl) (by kernel_rfl) (by kernel_rfl) (fun _ _ _ h => h) (Or.inl ⟨by kernel_rfl, ?zy51007⟩) (by assumption) ?zr51007
      case zy51007 => (intro w hSw; (try dsimp only at hSw); go_simp; try with_reducible rfl)
      change wpAnyH _ _ _ _ _ _ _ (Act.put _ (some 23) _) _
      simp only [Act.put, List.setIfInBounds_toArray, List.set_cons_zero, List.set_cons_succ]
      refine wpAnyH_take (i := 7) (v := ?zv51008) rfl (by kernel_rfl) (by kernel_rfl) (by kernel_rfl) (fun _ _ _ h => h) (Or.inl ⟨by kernel_rfl, ?zy51008⟩) (by assumption) ?zr51008
      case zy51008 => (intro w hSw; (try dsimp only at hSw); go_simp; try with_reducible rfl)
      change wpAnyH _ _ _ _ _ _ _ (Act.put _ (some 24) _) _
      simp only [Act.put, List.setIfInBounds_toArray, List.set_cons_zero, List.set_cons_succ]
      refine wpAnyH_ready (rs := [8]) (by kernel_rfl) (by simp) (AllReadyH.cons rfl (fun K hK => ?_) AllReadyH.nil)
      go_simp
      go_at_call 17
      refine (eqV_any ⟨ap, ab⟩ _).mono ?_
      rintro e w2 ⟨rfl, hb2⟩
      have hb2 := below_drew_l hb2
      have H1 := Lib.hid (two_cellsV H1.out hb2)
      have H2 := Lib.hid (two_cellsV H2.out hb2)
      have HB2 : Hid (Below w.heap.size w w2) := HB.out.trans (hb2.mono HB.out.size)
      clear hb2
      refine hK.out _ _ (⟨H1.out, H2.out⟩) (fun hHeld => ?_)
      clear hK K
      (try simp only [Act.put, List.setIfInBounds_toArray, List.set_cons_zero, List.set_cons_succ])
      refine wpAnyH_take (i := 9) (v := ?zv51009) rfl (by kernel_rfl) (by kernel_rfl) (by kernel_rfl) (fun _ _ _ h => h) (Or.inl ⟨by kernel_rfl, ?zy51009⟩) (by assumption) ?zr51009
      case zy51009 => (intro w hSw; (try dsimp only at hSw); go_simp; try with_reducible rfl)
      change wpAnyH _ _ _ _ _ _ _ (Act.put _ (some 26) _) _
      simp only [Act.put, List.setIfInBounds_toArray, List.set_cons_zero, List.set_cons_succ]
      refine wpAnyH_done (by kernel_rfl) ?_ _
      go_wp2
      go_roundw
      case rel => exact ⟨k + 1, by omega, by go_num, HB2⟩
      case measure => simp [intOf]; omega
    · go_wp2
      go_ret
      exact ⟨rfl, HB.out⟩







end Go.Proofs.Yteckmbmpellkgaa
