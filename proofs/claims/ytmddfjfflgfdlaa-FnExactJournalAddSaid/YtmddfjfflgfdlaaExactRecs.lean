/- Contracts of the exact laws' helpers over records and journals: the copy, the size, the comparison of equal ones, the marks and what still holds them. Conditions: they lie in memory; marked are at most 2^20 records. -/
import Derived.Test.YtmddfjfflgfdlaaExactRow
import Derived.Test.YtmddfjfflgfdlaaSJournal
import Derived.Test.YtmddfjfflgfdlaaBaseL
import Derived.Deep.DeepCutAuto
namespace Go.Proofs.Ytmddfjfflgfdlaa
open Go.RowKit Go.Conc
set_option linter.unusedVariables false

theorem RD.same {x y : RD} (h : x.i = y.i) (k : x.t = y.t) : x = y := by
  cases x; cases y; simp only at h k; rw [h, k]
theorem drop_rth (xs : List RD) (k : Nat) (h : k < xs.length) : xs.drop k = rth xs k :: xs.drop (k + 1) := by
  rw [List.drop_eq_getElem_cons h, rth_eq xs k h]
/-- A record is written. -/
theorem rec_store {w : World} {base b cap : Nat} {xs : List RD} (h : OwnRow RK w base (some ⟨b, 0, none⟩) cap xs) (i : Nat) (hi : i < xs.length) (a : RD) :
    OwnRow RK ((w.setCell ⟨b, i * 2, none⟩ (.int .i64 a.i)).setCell ⟨b, i * 2 + 1, none⟩ (.string a.t)) base (some ⟨b, 0, none⟩) cap (xs.set i a) ∧ w.grownBy ((w.setCell ⟨b, i * 2, none⟩ (.int .i64 a.i)).setCell ⟨b, i * 2 + 1, none⟩ (.string a.t)) (some b) := by
  have h1 := h.stored i (rth xs i) ⟨a.i, (rth xs i).t⟩ (rth_get xs i hi) 0 (by decide) (.int .i64 a.i) rfl
  have h2 := h1.1.stored i ⟨a.i, (rth xs i).t⟩ a (by rw [List.getElem?_set_self hi]) 1 (by decide) (.string a.t) rfl
  rw [List.set_set] at h2
  exact ⟨h2.1, World.grownBy.trans h1.2 h2.2⟩
theorem rec_p {w : World} {base b cap : Nat} {xs : List RD} (h : OwnRow RK w base (some ⟨b, 0, none⟩) cap xs) (i : Nat) (hi : i < xs.length) (v : Int) :
    OwnRow RK (w.setCell ⟨b, i * 2, none⟩ (.int .i64 v)) base (some ⟨b, 0, none⟩) cap (xs.set i ⟨v, (rth xs i).t⟩) ∧ w.grownBy (w.setCell ⟨b, i * 2, none⟩ (.int .i64 v)) (some b) :=
  h.stored i (rth xs i) ⟨v, (rth xs i).t⟩ (rth_get xs i hi) 0 (by decide) (.int .i64 v) rfl
theorem rec_b {w : World} {base b cap : Nat} {xs : List RD} (h : OwnRow RK w base (some ⟨b, 0, none⟩) cap xs) (i : Nat) (hi : i < xs.length) (v : ByteArray) :
    OwnRow RK (w.setCell ⟨b, i * 2 + 1, none⟩ (.string v)) base (some ⟨b, 0, none⟩) cap (xs.set i ⟨(rth xs i).i, v⟩) ∧ w.grownBy (w.setCell ⟨b, i * 2 + 1, none⟩ (.string v)) (some b) :=
  h.stored i (rth xs i) ⟨(rth xs i).i, v⟩ (rth_get xs i hi) 1 (by decide) (.string v) rfl
theorem rec_cellF {w : World} {base b cap : Nat} {xs : List RD} (h : OwnRow RK w base (some ⟨b, 0, none⟩) cap xs) (i : Nat) (hi : i < xs.length) :
    (w.cell? ⟨b, i * 2, none⟩ = some (.int .i64 (rth xs i).i) ∧ w.frozen? ⟨b, i * 2, none⟩ = false) ∧ (w.cell? ⟨b, i * 2 + 1, none⟩ = some (.string (rth xs i).t) ∧ w.frozen? ⟨b, i * 2 + 1, none⟩ = false) :=
  ⟨h.cellF i (rth xs i) (rth_get xs i hi) 0 _ rfl, h.cellF i (rth xs i) (rth_get xs i hi) 1 _ rfl⟩
def noR (n : Nat) : List RD := List.replicate n ⟨0, ByteArray.empty⟩
theorem copyR_step (xs : List RD) (k n : Nat) (hn : xs.length = n) (hk : k < n) : (xs.take k ++ noR (n - k)).set k (rth xs k) = xs.take (k + 1) ++ noR (n - (k + 1)) := by
  have hl : (xs.take k).length = k := by rw [List.length_take]; omega
  have e : n - k = (n - (k + 1)) + 1 := by omega
  have hz : noR (n - k) = ⟨0, ByteArray.empty⟩ :: noR (n - (k + 1)) := by rw [e]; rfl
  rw [hz, take_rth xs k (by omega), List.set_append_right _ _ (by omega), hl, Nat.sub_self, List.append_assoc]
  rfl
theorem copyR_len (xs : List RD) (k n : Nat) (hn : xs.length = n) (hk : k ≤ n) : (xs.take k ++ noR (n - k)).length = n := by
  rw [List.length_append, List.length_take]
  unfold noR
  rw [List.length_replicate]; omega
theorem rec_info_parts : ∃ i z, Try.prog.info? RK.e = some i ∧ i.zero = some (.agg #[.int .i64 0, .string ByteArray.empty]) ∧ i.size = RK.k ∧ i.bytes = RK.by_ ∧ z = () := by
  obtain ⟨i0, hi0, hz0, hz1, hz2⟩ := info_parts rec_info
  exact ⟨i0, (), hi0, hz0, hz1, hz2, rfl⟩
theorem rth_set (xs : List RD) (k : Nat) (x : RD) (hk : k < xs.length) : rth (xs.set k x) k = x := by
  unfold rth; rw [List.getD_eq_getElem?_getD, List.getElem?_set_self hk]; rfl
/-- The marks of the first n records. -/
def rmarks (n : Nat) : List RD := (List.range n).map fun i => ⟨((1 + 2 * i : Nat) : Int), markT (2 + 2 * i)⟩
theorem rmarks_length (n : Nat) : (rmarks n).length = n := by unfold rmarks; rw [List.length_map, List.length_range]
theorem rmarks_rth (n k : Nat) (hk : k < n) : rth (rmarks n) k = ⟨((1 + 2 * k : Nat) : Int), markT (2 + 2 * k)⟩ := by
  have h := rth_get (rmarks n) k (by rw [rmarks_length]; exact hk)
  unfold rmarks at h
  rw [List.getElem?_map, List.getElem?_range hk] at h
  injection h with h
  unfold rmarks
  exact h.symm
theorem rmarks_succ (n : Nat) : rmarks (n + 1) = rmarks n ++ [⟨((1 + 2 * n : Nat) : Int), markT (2 + 2 * n)⟩] := by
  unfold rmarks; rw [List.range_succ, List.map_append]; rfl
theorem rmarks_step (xs : List RD) (k : Nat) (hk : k < xs.length) (x y : RD) : ((rmarks k ++ xs.drop k).set k x).set k ⟨((1 + 2 * k : Nat) : Int), markT (2 + 2 * k)⟩ = rmarks (k + 1) ++ xs.drop (k + 1) := by
  rw [List.set_set, rmarks_succ, List.set_append_right _ _ (by rw [rmarks_length]; omega), rmarks_length, Nat.sub_self, drop_rth xs k hk, List.append_assoc]
  rfl
theorem rmarks_len (xs : List RD) (k n : Nat) (hn : xs.length = n) (hk : k ≤ n) : (rmarks k ++ xs.drop k).length = n := by
  rw [List.length_append, rmarks_length, List.length_drop]; omega

set_option maxHeartbeats 4000000 in
set_option maxRecDepth 100000 in
theorem toR_any (a : RD) (w : World) : Calls Try.prog 15 #[recV a] w fun e w' => e = .returned (recV a) ∧ Below w.heap.size w w' := by
  obtain ⟨ap, ab⟩ := a
  obtain ⟨W, HW⟩ : ∃ Q0, Hid (((w.alloc (.cells #[.int .i64 ap, .string ab] 34)).alloc (.cells #[.int .i64 0, .string ⟨#[]⟩] 38)).alloc (.cells #[.int .i64 0, .string ⟨#[]⟩] 38) = Q0) := ⟨_, rfl⟩
  have KA : Hid (Blk W w.heap.size 34 #[.int .i64 ap, .string ab]) := by rw [← HW.out]; exact ((Blk.new w _ _).alloc _).alloc _
  have KZ : Hid (Blk W (w.heap.size + 1) 38 #[.int .i64 0, .string ⟨#[]⟩]) := by
    rw [← HW.out]
    have h := Blk.new (w.alloc (.cells #[.int .i64 ap, .string ab] 34)) 38 #[.int .i64 0, .string ⟨#[]⟩]
    rw [World.size_alloc] at h
    exact h.alloc _
  have KO : Hid (Blk W (w.heap.size + 1 + 1) 38 #[.int .i64 0, .string ⟨#[]⟩]) := by
    rw [← HW.out]
    have h := Blk.new ((w.alloc (.cells #[.int .i64 ap, .string ab] 34)).alloc (.cells #[.int .i64 0, .string ⟨#[]⟩] 38)) 38 #[.int .i64 0, .string ⟨#[]⟩]
    rw [World.size_alloc, World.size_alloc] at h
    exact h
  have HB : Hid (Below w.heap.size w W) := by rw [← HW.out]; exact (((Below.refl _ w).alloc (Nat.le_refl _) _).alloc (by simp) _).alloc (by simp; omega) _
  obtain ⟨g1, hg1⟩ : ∃ v, w.heap.size + 1 = v := ⟨_, rfl⟩
  obtain ⟨g2, hg2⟩ : ∃ v, w.heap.size + 1 + 1 = v := ⟨_, rfl⟩
  rw [hg1] at KZ
  rw [hg2] at KO
  have hgg : g1 + 1 = g2 := by omega
  obtain ⟨a0, a1⟩ := jr_cells KA.out
  obtain ⟨o0, o1⟩ := jr_cells KO.out
  have of := blk_frozen KO.out
  go_enter Try.func15, Try.ntmps15
  go_upto_region 2 with fail
  rw [HW.out]
  go_upto_region 3 with fail
  obtain ⟨W1, HW1⟩ : ∃ Q0, Hid (W.setCell ⟨g2, 0, none⟩ (.int .i64 ap) = Q0) := ⟨_, rfl⟩
  have KO1 : Hid (Blk W1 g2 38 #[.int .i64 ap, .string ⟨#[]⟩]) := by rw [← HW1.out]; exact KO.out.setOwn 0 _
  have KA1 : Hid (Blk W1 w.heap.size 34 #[.int .i64 ap, .string ab]) := by rw [← HW1.out]; exact KA.out.setOther (p := ⟨g2, 0, none⟩) (by show g2 ≠ _; omega) _
  have KZ1 : Hid (Blk W1 g1 38 #[.int .i64 0, .string ⟨#[]⟩]) := by rw [← HW1.out]; exact KZ.out.setOther (p := ⟨g2, 0, none⟩) (by show g2 ≠ _; omega) _
  have HB1 : Hid (Below w.heap.size w W1) := by rw [← HW1.out]; exact HB.out.setCell (p := ⟨g2, 0, none⟩) (by show w.heap.size ≤ g2; omega) _
  rw [HW1.out]
  clear a0 a1 o0 o1 of
  obtain ⟨a0, a1⟩ := jr_cells KA1.out
  obtain ⟨o0, o1⟩ := jr_cells KO1.out
  have of := blk_frozen KO1.out
  go_upto_region 4 with fail
  obtain ⟨W2, HW2⟩ : ∃ Q0, Hid (W1.setCell ⟨g2, 1, none⟩ (.string ab) = Q0) := ⟨_, rfl⟩
  have KO2 : Hid (Blk W2 g2 38 #[.int .i64 ap, .string ab]) := by rw [← HW2.out]; exact KO1.out.setOwn 1 _
  have KZ2 : Hid (Blk W2 g1 38 #[.int .i64 0, .string ⟨#[]⟩]) := by rw [← HW2.out]; exact KZ1.out.setOther (p := ⟨g2, 1, none⟩) (by show g2 ≠ _; omega) _
  have HB2 : Hid (Below w.heap.size w W2) := by rw [← HW2.out]; exact HB1.out.setCell (p := ⟨g2, 1, none⟩) (by show w.heap.size ≤ g2; omega) _
  rw [HW2.out]
  clear a0 a1 o0 o1 of
  obtain ⟨o0, o1⟩ := jr_cells KO2.out
  obtain ⟨z0, z1⟩ := jr_cells KZ2.out
  have zf := blk_frozen KZ2.out
  go_wp2
  obtain ⟨Y, HY⟩ : ∃ Q0, Hid ((W2.setCell ⟨g1, 0, none⟩ (.int .i64 ap)).setCell ⟨g1, 1, none⟩ (.string ab) = Q0) := ⟨_, rfl⟩
  have KY : Hid (Blk Y g1 38 #[.int .i64 ap, .string ab]) := by rw [← HY.out]; exact (KZ2.out.setOwn 0 _).setOwn 1 _
  have HBY : Hid (Below w.heap.size w Y) := by rw [← HY.out]; exact (HB2.out.setCell (p := ⟨g1, 0, none⟩) (by show w.heap.size ≤ g1; omega) _).setCell (p := ⟨g1, 1, none⟩) (by show w.heap.size ≤ g1; omega) _
  rw [HY.out]
  obtain ⟨y0, y1⟩ := jr_cells KY.out
  exact bodyPost_ret (v := recV ⟨ap, ab⟩) (by simp [results, Try.results15, go_sem, y0, y1]) rfl ⟨rfl, HBY.out⟩

/-- A copy of records in memory of the call's own. -/
def CopiedR (w : World) (xs : List RD) (e : Ending) (w' : World) : Prop :=
  e = .returned (.slice (some ⟨w.heap.size, 0, none⟩) xs.length xs.length) ∧ OwnRow RK w' w.heap.size (some ⟨w.heap.size, 0, none⟩) xs.length xs ∧ Below w.heap.size w w'

set_option maxHeartbeats 4000000 in
set_option maxRecDepth 100000 in
theorem toRs_any (A : Option Addr) (cap : Nat) (xs : List RD) (w : World) (hI : RowAt RK w w.heap.size A xs) (hm : xs.length ≤ 1048576) :
    Calls Try.prog 34 #[.slice A xs.length cap] w (CopiedR w xs) := by
  have HI := Lib.hid hI
  obtain ⟨n, HN⟩ : ∃ n, Hid (xs.length = n) := ⟨_, rfl⟩
  rw [HN.out] at hm ⊢
  clear hI
  obtain ⟨i0, zz, hi0, hz0, hz1, hz2, hz3⟩ := rec_info_parts
  have hmk := fun W => run_make_kind (P := Try.prog) RK 27 ⟨0, ByteArray.empty⟩ _ Try.underlying27 hi0 hz0 hz1 hz2 rfl .i64 .i64 n (by show 24 * n ≤ _; omega) (by omega) W
  obtain ⟨W, HW⟩ : ∃ Q0, Hid (w.alloc (.cells (RK.cells (List.replicate n ⟨0, ByteArray.empty⟩)).toArray RK.e) = Q0) := ⟨_, rfl⟩
  have HO0 : Hid (OwnRow RK W w.heap.size (some ⟨w.heap.size, 0, none⟩) n (noR n)) := by rw [← HW.out]; exact OwnRow.made RK w n ⟨0, ByteArray.empty⟩ (by unfold maxLen; omega)
  have HB0 : Hid (Below w.heap.size w W) := by rw [← HW.out]; exact (Below.refl _ _).alloc (Nat.le_refl _) _
  have hWz : w.heap.size < W.heap.size := (HO0.out.lies _ rfl).2
  clear hz0 hz1 hz2 hi0
  go_enter Try.func34, Try.ntmps34
  go_upto_region 2 with fail
  rw [HW.out]
  clear hmk
  go_wp2
  go_loopw [4] (fun i w' => ∃ k : Nat, k ≤ n ∧ i = .int .i64 k ∧ Hid (OwnRow RK w' w.heap.size (some ⟨w.heap.size, 0, none⟩) n (xs.take k ++ noR (n - k))) ∧ Hid (Below w.heap.size w w')) (fun i _ => n - (intOf i).toNat)
  case atStart => exact ⟨0, Nat.zero_le _, rfl, (by show OwnRow _ _ _ _ _ _; have h := HO0.out; simpa using h), HB0⟩
  case round =>
    obtain ⟨k, hk, rfl, HO, HB⟩ := hrel
    by_cases hlt : k < n
    · have hkz : k < xs.length := by rw [HN.out]; exact hlt
      have hj := HI.out.belowS HB.out
      obtain ⟨b, o, rfl⟩ := hj.some_ (by omega)
      obtain ⟨c0, c1⟩ := rec_cells hj k hkz
      obtain ⟨ap, HRI⟩ : ∃ x, Hid ((rth xs k).i = x) := ⟨_, rfl⟩
      obtain ⟨ab, HRT⟩ : ∃ x, Hid ((rth xs k).t = x) := ⟨_, rfl⟩
      have HONE : Hid (rth xs k = ⟨ap, ab⟩) := by
        show _ = _
        rw [← HRI.out, ← HRT.out]
      rw [HRI.out] at c0
      rw [HRT.out] at c1
      have hki : (k : Int) < (n : Int) := by omega
      have hwz : w.heap.size ≤ wr.heap.size := HB.out.size
      clear hj
      go_wp2_with fail
      refine (toR_any ⟨ap, ab⟩ wr).mono ?_
      rintro e w2 ⟨rfl, hb2⟩
      have HO2 := Lib.hid (HO.out.below hb2)
      have HB2 : Hid (Below w.heap.size w w2) := HB.out.trans (hb2.mono hwz)
      have hlen := copyR_len xs k n HN.out (by omega)
      obtain ⟨⟨d0, e0⟩, ⟨d1, e1⟩⟩ := rec_cellF HO2.out k (by omega)
      have hs := rec_store HO2.out k (by omega) ⟨ap, ab⟩
      rw [← HONE.out, copyR_step xs k n HN.out hlt, HONE.out] at hs
      have HS := Lib.hid hs.1
      have HBS : Hid (Below w.heap.size w ((w2.setCell ⟨w.heap.size, k * 2, none⟩ (.int .i64 ap)).setCell ⟨w.heap.size, k * 2 + 1, none⟩ (.string ab))) := (HB2.out.setCell (p := ⟨w.heap.size, k * 2, none⟩) (Nat.le_refl _) _).setCell (p := ⟨w.heap.size, k * 2 + 1, none⟩) (Nat.le_refl _) _
      clear hkz hs hb2 c0 c1 hlen
      go_wp2
      go_roundw
      case rel => exact ⟨k + 1, by omega, by go_num, HS, HBS⟩
      case measure => simp [intOf]; omega
    · have hkn : k = n := by omega
      subst hkn
      have ho := HO.out
      rw [Nat.sub_self, List.take_of_length_le (by rw [HN.out]; omega)] at ho
      have HO' : Hid (OwnRow RK wr w.heap.size (some ⟨w.heap.size, 0, none⟩) k xs) := by show OwnRow _ _ _ _ _ _; simpa [noR] using ho
      clear ho
      go_wp2
      go_ret
      refine ⟨?_, ?_, HB.out⟩
      · rw [HN.out]; first | done | rfl
      · rw [HN.out]; exact HO'.out

theorem toRs_ret (A : Option Addr) (cap : Nat) (xs : List RD) (w : World) (hI : RowAt RK w w.heap.size A xs) (hm : xs.length ≤ 1048576) :
    Calls Try.prog 34 #[.slice A xs.length cap] w fun e w' => ∃ g, e = .returned (.slice (some ⟨g, 0, none⟩) xs.length xs.length) ∧ OwnRow RK w' w.heap.size (some ⟨g, 0, none⟩) xs.length xs ∧ Below w.heap.size w w' :=
  (toRs_any A cap xs w hI hm).mono fun _ _ h => ⟨_, h⟩
/-- What a size leaves: -1, or what is left. -/
def SzR (left : Int) (n : Nat) (w : World) (e : Ending) (w' : World) : Prop := ∃ r : Int, e = .returned (.int .i64 r) ∧ -1 ≤ r ∧ r ≤ left ∧ (0 ≤ r → (n : Int) ≤ left) ∧ Below w.heap.size w w'

set_option maxHeartbeats 4000000 in
set_option maxRecDepth 100000 in
theorem szR_any (a : RD) (left : Int) (w : World) (hf : a.t.size ≤ maxLen) (h0 : 0 ≤ left) (h1 : left ≤ 1048576) :
    Calls Try.prog 13 #[recV a, .int .i64 left] w (SzR left 0 w) := by
  obtain ⟨ap, ab⟩ := a
  have hf2 : ab.size ≤ maxLen := hf
  unfold maxLen at hf2
  obtain ⟨W, HW⟩ : ∃ Q0, Hid (w.alloc (.cells #[.int .i64 ap, .string ab] 34) = Q0) := ⟨_, rfl⟩
  have KA : Hid (Blk W w.heap.size 34 #[.int .i64 ap, .string ab]) := by rw [← HW.out]; exact Blk.new w _ _
  have HB : Hid (Below w.heap.size w W) := by rw [← HW.out]; exact (Below.refl _ w).alloc (Nat.le_refl _) _
  obtain ⟨a0, a1⟩ := jr_cells KA.out
  clear hf
  obtain ⟨m, hm⟩ : ∃ m, ab.size = m := ⟨_, rfl⟩
  rw [hm] at hf2
  have hw1 : IntKind.i64.wrap (left - (m : Int)) = left - (m : Int) := IntWalk.i64_in _ (by omega)
  obtain ⟨r, hr⟩ : ∃ r, left - (m : Int) = r := ⟨_, rfl⟩
  rw [hr] at hw1
  by_cases hn : r < 0
  · go_enter Try.func13, Try.ntmps13
    go_upto_region 1 with fail
    rw [HW.out]
    go_wp2
    go_ret
    exact ⟨-1, rfl, by omega, by omega, fun h => absurd h (by omega), HB.out⟩
  · go_enter Try.func13, Try.ntmps13
    go_upto_region 1 with fail
    rw [HW.out]
    go_wp2
    go_ret
    exact ⟨r, rfl, by omega, by omega, fun h => by omega, HB.out⟩

set_option maxHeartbeats 4000000 in
set_option maxRecDepth 100000 in
theorem szRs_any (A : Option Addr) (cap : Nat) (rs : List RD) (left : Int) (w : World) (hI : RowAt RK w w.heap.size A rs) (hf : FitR rs) (hm : rs.length ≤ maxLen) (h0 : 0 ≤ left) (h1 : left ≤ 1048576) :
    Calls Try.prog 31 #[.slice A rs.length cap, .int .i64 left] w (SzR left rs.length w) := by
  have HI := Lib.hid hI
  have HF := Lib.hid hf
  unfold maxLen at hm
  obtain ⟨n, HN⟩ : ∃ n, Hid (rs.length = n) := ⟨_, rfl⟩
  rw [HN.out] at hm ⊢
  clear hI hf
  have hw1 : IntKind.i64.wrap (left - (n : Int)) = left - (n : Int) := IntWalk.i64_in _ (by omega)
  obtain ⟨r, hr⟩ : ∃ r, left - (n : Int) = r := ⟨_, rfl⟩
  rw [hr] at hw1
  by_cases hn : r < 0
  · go_enter Try.func31, Try.ntmps31
    go_wp2
    go_ret
    exact ⟨-1, rfl, by omega, by omega, fun h => absurd h (by omega), Below.refl _ _⟩
  · go_enter Try.func31, Try.ntmps31
    go_wp2
    go_loopw [1, 5] (fun x i w' => ∃ (k : Nat) (q : Int), k ≤ n ∧ x = .int .i64 q ∧ 0 ≤ q ∧ q ≤ r ∧ i = .int .i64 (k : Int) ∧ Hid (Below w.heap.size w w')) (fun _ i _ => n - (intOf i).toNat)
    case atStart => exact ⟨0, r, Nat.zero_le _, rfl, by omega, by omega, rfl, Below.refl _ _⟩
    case round =>
      obtain ⟨k, q, hk, rfl, hq0, hq1, rfl, HB⟩ := hrel
      by_cases hlt : k < n
      · have hkz : k < rs.length := by rw [HN.out]; exact hlt
        have hj := HI.out.belowS HB.out
        obtain ⟨b, o, rfl⟩ := hj.some_ (by omega)
        obtain ⟨c0, c1⟩ := rec_cells hj k hkz
        obtain ⟨ap, HRI⟩ : ∃ x, Hid ((rth rs k).i = x) := ⟨_, rfl⟩
        obtain ⟨ab, HRT⟩ : ∃ x, Hid ((rth rs k).t = x) := ⟨_, rfl⟩
        have hfk : ab.size ≤ maxLen := by rw [← HRT.out]; exact HF.out k
        rw [HRI.out] at c0
        rw [HRT.out] at c1
        have hki : (k : Int) < (n : Int) := by omega
        have CS := Lib.hid (szR_any ⟨ap, ab⟩ q wr hfk hq0 (by omega))
        clear hkz hj hfk
        go_wp2_with fail
        refine CS.out.mono ?_
        rintro e w2 ⟨q2, rfl, hq2, hq3, -, hb2⟩
        have HB2 : Hid (Below w.heap.size w w2) := HB.out.trans (hb2.mono HB.out.size)
        clear hb2 c0 c1
        by_cases hq4 : q2 < 0
        · go_wp2
          go_ret
          exact ⟨-1, rfl, by omega, by omega, fun h => absurd h (by omega), HB2.out⟩
        · go_wp2
          go_roundw
          case rel => exact ⟨k + 1, q2, by omega, rfl, by omega, by omega, by go_num, HB2⟩
          case measure => simp [intOf]; omega
      · have hkn : k = n := by omega
        subst hkn
        go_wp2
        go_ret
        exact ⟨q, rfl, by omega, by omega, fun _ => by omega, HB.out⟩

set_option maxHeartbeats 4000000 in
set_option maxRecDepth 100000 in
theorem eqR_any (a : RD) (w : World) :
    Calls Try.prog 48 #[recV a, recV a] w fun e w' => e = .returned (.bool true) ∧ Below w.heap.size w w' := by
  obtain ⟨ap, ab⟩ := a
  obtain ⟨W, HW⟩ : ∃ Q0, Hid ((w.alloc (.cells #[.int .i64 ap, .string ab] 38)).alloc (.cells #[.int .i64 ap, .string ab] 38) = Q0) := ⟨_, rfl⟩
  have KA : Hid (Blk W w.heap.size 38 #[.int .i64 ap, .string ab]) := by rw [← HW.out]; exact (Blk.new w _ _).alloc _
  have KB : Hid (Blk W (w.heap.size + 1) 38 #[.int .i64 ap, .string ab]) := by
    rw [← HW.out]
    have h := Blk.new (w.alloc (.cells #[.int .i64 ap, .string ab] 38)) 38 #[.int .i64 ap, .string ab]
    rw [World.size_alloc] at h
    exact h
  have HB : Hid (Below w.heap.size w W) := by rw [← HW.out]; exact ((Below.refl _ w).alloc (Nat.le_refl _) _).alloc (by simp) _
  obtain ⟨a0, a1⟩ := jr_cells KA.out
  obtain ⟨b0, b1⟩ := jr_cells KB.out
  go_enter Try.func48, Try.ntmps48
  go_upto_region 1 with fail
  rw [HW.out]
  go_wp2
  go_ret
  exact ⟨rfl, HB.out⟩

theorem two_cells {w w' : World} {b o : Nat} {u v : Value} (h : w.cell? ⟨b, o, none⟩ = some u ∧ w.cell? ⟨b, o + 1, none⟩ = some v) (hb : Below w.heap.size w w') : w'.cell? ⟨b, o, none⟩ = some u ∧ w'.cell? ⟨b, o + 1, none⟩ = some v :=
  ⟨(hb.cell (p := ⟨b, o, none⟩) (World.block_lt_of_cell? w _ h.1)).trans h.1, (hb.cell (p := ⟨b, o + 1, none⟩) (World.block_lt_of_cell? w _ h.2)).trans h.2⟩

set_option maxHeartbeats 4000000 in
set_option maxRecDepth 100000 in
theorem eqRs_any (A : Option Addr) (c : Nat) (A1 : Option Addr) (c1 : Nat) (xs : List RD) (w : World) (hJ : RowAt RK w w.heap.size A xs) (hJ1 : RowAt RK w w.heap.size A1 xs) (hm : xs.length ≤ maxLen) {n : Nat} (hn : xs.length = n) :
    Calls Try.prog 38 #[.slice A n c, .slice A1 n c1] w fun e w' => e = .returned (.bool true) ∧ Below w.heap.size w w' := by
  unfold maxLen at hm
  rw [hn] at hm
  have HN := Lib.hid hn
  have HJ := Lib.hid hJ
  have HJ1 := Lib.hid hJ1
  clear hJ hJ1 hn
  go_enter Try.func38, Try.ntmps38
  go_wp2
  go_loopw [5] (fun i w' => ∃ k : Nat, k ≤ n ∧ i = .int .i64 k ∧ Hid (Below w.heap.size w w')) (fun i _ => n - (intOf i).toNat)
  case atStart => exact ⟨0, Nat.zero_le _, rfl, Below.refl _ _⟩
  case round =>
    obtain ⟨k, hk, rfl, HB⟩ := hrel
    by_cases hlt : k < n
    · have hkz : k < xs.length := by rw [HN.out]; exact hlt
      have ja := HJ.out.belowS HB.out
      have jb := HJ1.out.belowS HB.out
      obtain ⟨b, o, rfl⟩ := ja.some_ (by omega)
      obtain ⟨b', o', rfl⟩ := jb.some_ (by omega)
      have h1 := rec_cells ja k hkz
      have h2 := rec_cells jb k hkz
      obtain ⟨ap, HRI⟩ : ∃ x, Hid ((rth xs k).i = x) := ⟨_, rfl⟩
      obtain ⟨ab, HRT⟩ : ∃ x, Hid ((rth xs k).t = x) := ⟨_, rfl⟩
      rw [HRI.out, HRT.out] at h1 h2
      have H1 := Lib.hid h1
      have H2 := Lib.hid h2
      have hk0 : (0 : Int) ≤ (k : Int) := by omega
      have hki : (k : Int) < (n : Int) := by omega
      clear hkz ja jb h1 h2
      go_wp2_with fail
      refine wp_region_held_drew (S := (fun w' => (w'.cell? ⟨b, o + k * 2, none⟩ = some (.int .i64 ap) ∧ w'.cell? ⟨b, o + k * 2 + 1, none⟩ = some (.string ab)) ∧ (w'.cell? ⟨b', o' + k * 2, none⟩ = some (.int .i64 ap) ∧ w'.cell? ⟨b', o' + k * 2 + 1, none⟩ = some (.string ab)))) (by kernel_rfl) (⟨H1.out, H2.out⟩) (fun hHeld => ?_)
      refine wpAnyH_take (i := 0) (v := ?zv51001) rfl (by kernel_rfl) (by kernel_rfl) (by kernel_rfl) (fun _ _ _ h => h) (Or.inl ⟨by kernel_rfl, ?zy51001⟩) (by assumption) ?zr51001
      case zy51001 => (intro w hSw; (try dsimp only at hSw); go_simp; try with_reducible rfl)
      change wpAnyH _ _ _ _ _ _ _ (Act.put _ (some 17) _) _
      simp only [Act.put, List.setIfInBounds_toArray, List.set_cons_zero, List.set_cons_succ]
      refine wpAnyH_take (i := 1) (v := ?zv51002) rfl (by kernel_rfl) (by kernel_rfl) (by kernel_rfl) (fun _ _ _ h => h) (Or.inl ⟨by kernel_rfl, ?zy51002⟩) (by assumption) ?zr51002
      case zy51002 => (intro w hSw; (try dsimp only at hSw); go_simp; try with_reducible rfl)
      change wpAnyH _ _ _ _ _ _ _ (Act.put _ (some 18) _) _
      simp only [Act.put, List.setIfInBounds_toArray, List.set_cons_zero, List.set_cons_succ]
      refine wpAnyH_take (i := 2) (v := ?zv51003) rfl (by kernel_rfl) (by kernel_rfl) (by kernel_rfl) (fun _ _ _ h => h) (Or.inl ⟨by kernel_rfl, ?zy51003⟩) (by assumption) ?zr51003
      case zy51003 => (intro w hSw; (try dsimp only at hSw); go_simp; try with_reducible rfl)
      change wpAnyH _ _ _ _ _ _ _ (Act.put _ (some 19) _) _
      simp only [Act.put, List.setIfInBounds_toArray, List.set_cons_zero, List.set_cons_succ]
      refine wpAnyH_take (i := 3) (v := ?zv51004) rfl (by kernel_rfl) (by kernel_rfl) (by kernel_rfl) (fun _ _ _ h => h) (Or.inl ⟨by kernel_rfl, ?zy51004⟩) (by assumption) ?zr51004
      case zy51004 => (intro w hSw; (try dsimp only at hSw); go_simp; try with_reducible rfl)
      change wpAnyH _ _ _ _ _ _ _ (Act.put _ (some 20) _) _
      simp only [Act.put, List.setIfInBounds_toArray, List.set_cons_zero, List.set_cons_succ]
      refine wpAnyH_take (i := 4) (v := ?zv51005) rfl (by kernel_rfl) (by kernel_rfl) (by kernel_rfl) (fun _ _ _ h => h) (Or.inl ⟨by kernel_rfl, ?zy51005⟩) (by assumption) ?zr51005
      case zy51005 => (intro w hSw; (try dsimp only at hSw); go_simp; try with_reducible rfl)
      change wpAnyH _ _ _ _ _ _ _ (Act.put _ (some 21) _) _
      simp only [Act.put, List.setIfInBounds_toArray, List.set_cons_zero, List.set_cons_succ]
      refine wpAnyH_take (i := 5) (v := ?zv51006) rfl (by kernel_rfl) (by kernel_rfl) (by kernel_rfl) (fun _ _ _ h => h) (Or.inl ⟨by kernel_rfl, ?zy51006⟩) (by assumption) ?zr51006
      case zy51006 => (intro w hSw; (try dsimp only at hSw); go_simp; try with_reducible rfl)
      change wpAnyH _ _ _ _ _ _ _ (Act.put _ (some 22) _) _
      simp only [Act.put, List.setIfInBounds_toArray, List.set_cons_zero, List.set_cons_succ]
      refine wpAnyH_take (i := 6) (v := ?zv51007) rfl (by kernel_rfl) (by kernel_rfl) (by kernel_rfl) (fun _ _ _ h => h) (Or.inl ⟨by kernel_rfl, ?zy51007⟩) (by assumption) ?zr51007
      case zy51007 => (intro w hSw; (try dsimp only at hSw); go_simp; try with_reducible rfl)
      change wpAnyH _ _ _ _ _ _ _ (Act.put _ (some 23) _) _
      simp only [Act.put, List.setIfInBounds_toArray, List.set_cons_zero, List.set_cons_succ]
      refine wpAnyH_take (i := 7) (v := ?zv51008) rfl (by kernel_rfl) (by kernel_rfl) (by kernel_rfl) (fun _ _ _ h => h) (Or.inl ⟨by kernel_rfl, ?zy51008⟩) (by assumption) ?zr51008
      case zy51008 => (intro w hSw; (try dsimp only at hSw); go_simp; try with_reducible rfl)
      change wpAnyH _ _ _ _ _ _ _ (Act.put _ (some 24) _) _
      simp only [Act.put, List.setIfInBounds_toArray, List.set_cons_zero, List.set_cons_succ]
      refine wpAnyH_ready (rs := [8]) (by kernel_rfl) (by simp) (AllReadyH.cons rfl (fun K hK => ?_) AllReadyH.nil)
      go_simp
      go_at_call 48
      refine (eqR_any ⟨ap, ab⟩ _).mono ?_
      rintro e w2 ⟨rfl, hb2⟩
      have hb2 := below_drew_l hb2
      have H1 := Lib.hid (two_cells H1.out hb2)
      have H2 := Lib.hid (two_cells H2.out hb2)
      have HB2 : Hid (Below w.heap.size w w2) := HB.out.trans (hb2.mono HB.out.size)
      clear hb2
      refine hK.out _ _ (⟨H1.out, H2.out⟩) (fun hHeld => ?_)
      clear hK K
      (try simp only [Act.put, List.setIfInBounds_toArray, List.set_cons_zero, List.set_cons_succ])
      refine wpAnyH_take (i := 9) (v := ?zv51009) rfl (by kernel_rfl) (by kernel_rfl) (by kernel_rfl) (fun _ _ _ h => h) (Or.inl ⟨by kernel_rfl, ?zy51009⟩) (by assumption) ?zr51009
      case zy51009 => (intro w hSw; (try dsimp only at hSw); go_simp; try with_reducible rfl)
      change wpAnyH _ _ _ _ _ _ _ (Act.put _ (some 26) _) _
      simp only [Act.put, List.setIfInBounds_toArray, List.set_cons_zero, List.set_cons_succ]
      refine wpAnyH_done (by kernel_rfl) ?_ _
      go_wp2
      go_roundw
      case rel => exact ⟨k + 1, by omega, by go_num, HB2⟩
      case measure => simp [intOf]; omega
    · go_wp2
      go_ret
      exact ⟨rfl, HB.out⟩

set_option maxHeartbeats 4000000 in
set_option maxRecDepth 100000 in
theorem markR_some (base b cap : Nat) (xs : List RD) (w : World) (hO : OwnRow RK w base (some ⟨b, 0, none⟩) cap xs) (hm : xs.length ≤ 1048576) :
    Calls Try.prog 43 #[.slice (some ⟨b, 0, none⟩) xs.length cap, .int .i64 1] w (Marked2 RK w base (some ⟨b, 0, none⟩) cap xs.length (rmarks xs.length)) := by
  have HO := Lib.hid hO
  obtain ⟨n, HN⟩ : ∃ n, Hid (xs.length = n) := ⟨_, rfl⟩
  rw [HN.out] at hm ⊢
  clear hO
  go_enter Try.func43, Try.ntmps43
  go_wp2
  go_loopw [1, 5] (fun x i w' => ∃ k : Nat, k ≤ n ∧ x = .int .i64 (1 + 2 * (k : Int)) ∧ i = .int .i64 k ∧ Hid (OwnRow RK w' base (some ⟨b, 0, none⟩) cap (rmarks k ++ xs.drop k)) ∧ Hid (w.grownBy w' (some b))) (fun _ i _ => n - (intOf i).toNat)
  case atStart => exact ⟨0, Nat.zero_le _, rfl, rfl, HO, World.grownBy.refl _ _⟩
  case round =>
    obtain ⟨k, hk, rfl, rfl, HO1, HG⟩ := hrel
    by_cases hlt : k < n
    · have hkz : k < xs.length := by rw [HN.out]; exact hlt
      have hlen := rmarks_len xs k n HN.out hk
      obtain ⟨⟨d0, e0⟩, ⟨d1, e1⟩⟩ := rec_cellF HO1.out k (by omega)
      have hki : (k : Int) < (n : Int) := by omega
      have hs := rec_p HO1.out k (by omega) (1 + 2 * (k : Int))
      go_upto_region 5 with fail
      obtain ⟨W1, HW1⟩ : ∃ Q0, Hid (wr.setCell ⟨b, k * 2, none⟩ (.int .i64 (1 + 2 * (k : Int))) = Q0) := ⟨_, rfl⟩
      rw [HW1.out] at hs ⊢
      have HS := Lib.hid hs.1
      have HGS : Hid (w.grownBy W1 (some b)) := World.grownBy.trans HG.out hs.2
      clear d0 e0 d1 e1 hs
      have hw1 : IntKind.i64.wrap (1 + 2 * (k : Int) + 1) = 2 + 2 * (k : Int) := by rw [show 1 + 2 * (k : Int) + 1 = 2 + 2 * (k : Int) by omega]; exact IntWalk.i64_in _ (by omega)
      have hw2 : IntKind.i64.wrap (2 + 2 * (k : Int) + 1) = 3 + 2 * (k : Int) := by rw [show 2 + 2 * (k : Int) + 1 = 3 + 2 * (k : Int) by omega]; exact IntWalk.i64_in _ (by omega)
      obtain ⟨T, HT⟩ : ∃ T, Hid (markT (2 + 2 * k) = T) := ⟨_, rfl⟩
      have CM : Hid (Calls Try.prog 46 #[.int .i64 (2 + 2 * (k : Int))] W1 fun e w' => e = .returned (.string T) ∧ Below W1.heap.size W1 w') := by
        have h := markText_any (2 + 2 * k) W1 (by omega) (by omega)
        rw [show ((2 + 2 * k : Nat) : Int) = 2 + 2 * (k : Int) by omega, HT.out] at h
        exact h
      go_wp2_with fail
      refine CM.out.mono ?_
      rintro e w2 ⟨rfl, hb2⟩
      have HS2 := Lib.hid (HS.out.below hb2)
      have HGS2 : Hid (w.grownBy w2 (some b)) := World.grownBy.trans HGS.out (grown_of_below hb2 _)
      clear hb2
      obtain ⟨⟨d0, e0⟩, ⟨d1, e1⟩⟩ := rec_cellF HS2.out k (by rw [List.length_set]; omega)
      have hs := rec_b HS2.out k (by rw [List.length_set]; omega) T
      rw [← HT.out, show (⟨(rth ((rmarks k ++ xs.drop k).set k ⟨1 + 2 * (k : Int), (rth (rmarks k ++ xs.drop k) k).t⟩) k).i, markT (2 + 2 * k)⟩ : RD) = ⟨((1 + 2 * k : Nat) : Int), markT (2 + 2 * k)⟩ from RD.same (by rw [rth_set _ _ _ (by omega)]; show (1 : Int) + 2 * (k : Int) = ((1 + 2 * k : Nat) : Int); omega) rfl, rmarks_step xs k hkz _ ⟨0, ByteArray.empty⟩, HT.out] at hs
      have HX := Lib.hid hs.1
      have HGT : Hid (w.grownBy (w2.setCell ⟨b, k * 2 + 1, none⟩ (.string T)) (some b)) := World.grownBy.trans HGS2.out hs.2
      clear hkz hlen hs
      go_wp2
      go_roundw
      case rel => exact ⟨k + 1, by omega, (by first | go_num | (simp; omega)), by go_num, HX, HGT⟩
      case measure => simp [intOf]; omega
    · have hkn : k = n := by omega
      subst hkn
      have ho := HO1.out
      rw [List.drop_eq_nil_of_le (by rw [HN.out]; omega), List.append_nil] at ho
      have HO' := Lib.hid ho
      clear ho
      go_wp2
      go_ret
      exact ⟨ret_int (by simp), HO'.out, (fun b' e => by injection e with e; injection e with e _ _; subst e; exact HG.out), (fun e => by cases e)⟩

set_option maxHeartbeats 4000000 in
set_option maxRecDepth 100000 in
theorem markR_any (base : Nat) (A : Option Addr) (cap : Nat) (xs : List RD) (w : World) (hO : OwnRow RK w base A cap xs) (hm : xs.length ≤ 1048576) :
    Calls Try.prog 43 #[.slice A xs.length cap, .int .i64 1] w (Marked2 RK w base A cap xs.length (rmarks xs.length)) := by
  rcases A with _ | ad
  · have h0 := hO.none_nil
    subst h0
    have HO := Lib.hid hO
    clear hO
    go_enter Try.func43, Try.ntmps43
    go_wp2
    go_loop [1, 5] (fun x i => x = .int .i64 1 ∧ i = .int .i64 0) (fun _ _ => 0)
    case atStart => exact ⟨rfl, rfl⟩
    case round =>
      obtain ⟨rfl, rfl⟩ := hrel
      go_wp2
      go_ret
      exact ⟨rfl, HO.out, (fun b e => by cases e), fun _ => Below.refl _ _⟩
  · rcases hO.nowhere with h | ⟨b, h⟩
    · cases h
    · injection h with h
      subst h
      exact markR_some base b cap xs w hO hm

set_option maxHeartbeats 4000000 in
set_option maxRecDepth 100000 in
theorem heldR_any (A : Option Addr) (cap n : Nat) (w : World) (hI : RowAt RK w w.heap.size A (rmarks n)) (hm : n ≤ 1048576) :
    Calls Try.prog 44 #[.slice A n cap, .int .i64 1] w fun e w' => e = .returned (.int .i64 ((1 + 2 * n : Nat) : Int)) ∧ Below w.heap.size w w' := by
  have HI := Lib.hid hI
  clear hI
  go_enter Try.func44, Try.ntmps44
  go_wp2
  go_loopw [1, 5] (fun x i w' => ∃ k : Nat, k ≤ n ∧ x = .int .i64 (1 + 2 * (k : Int)) ∧ i = .int .i64 k ∧ Hid (Below w.heap.size w w')) (fun _ i _ => n - (intOf i).toNat)
  case atStart => exact ⟨0, Nat.zero_le _, rfl, rfl, Below.refl _ _⟩
  case round =>
    obtain ⟨k, hk, rfl, rfl, HB⟩ := hrel
    by_cases hlt : k < n
    · have hkz : k < (rmarks n).length := by rw [rmarks_length]; exact hlt
      have hj := HI.out.belowS HB.out
      obtain ⟨b, o, rfl⟩ := hj.some_ (by omega)
      have hbl := (hj.lt (by omega)).1
      obtain ⟨c0, c1⟩ := rec_cells hj k hkz
      rw [rmarks_rth n k hlt] at c0 c1
      have hc0 : ((1 + 2 * k : Nat) : Int) = 1 + 2 * (k : Int) := by omega
      obtain ⟨T, HT⟩ : ∃ T, Hid (markT (2 + 2 * k) = T) := ⟨_, rfl⟩
      simp only [hc0, HT.out] at c0 c1
      have CM : Hid (∀ U, Calls Try.prog 46 #[.int .i64 (2 + 2 * (k : Int))] U fun e w' => e = .returned (.string T) ∧ Below U.heap.size U w') := fun U => by
        have h := markText_any (2 + 2 * k) U (by omega) (by omega)
        rw [show ((2 + 2 * k : Nat) : Int) = 2 + 2 * (k : Int) by omega, HT.out] at h
        exact h
      have hki : (k : Int) < (n : Int) := by omega
      have hk00 : (0 : Int) ≤ (k : Int) := by omega
      have hn1 : ((1 + 2 * (k : Int)) != (1 + 2 * (k : Int))) = false := by simp
      have hvb : (T.toList == T.toList) = true := by simp
      have hw1 : IntKind.i64.wrap (1 + 2 * (k : Int) + 1) = 2 + 2 * (k : Int) := by rw [show 1 + 2 * (k : Int) + 1 = 2 + 2 * (k : Int) by omega]; exact IntWalk.i64_in _ (by omega)
      have hw2 : IntKind.i64.wrap (2 + 2 * (k : Int) + 1) = 3 + 2 * (k : Int) := by rw [show 2 + 2 * (k : Int) + 1 = 3 + 2 * (k : Int) by omega]; exact IntWalk.i64_in _ (by omega)
      clear hkz hc0 hj
      go_upto_region 7 with fail
      (try go_wp2_with fail)
      refine wp_region_held_drew (S := (fun w' => w'.cell? ⟨b, o + k * 2 + 1, none⟩ = some (.string T))) (by kernel_rfl) (c1) (fun hHeld => ?_)
      refine wpAnyH_take (i := 0) (v := ?zv71001) rfl (by kernel_rfl) (by kernel_rfl) (by kernel_rfl) (fun _ _ _ h => h) (Or.inl ⟨by kernel_rfl, ?zy71001⟩) (by assumption) ?zr71001
      case zy71001 => (intro w hSw; (try dsimp only at hSw); go_simp; try with_reducible rfl)
      change wpAnyH _ _ _ _ _ _ _ (Act.put _ (some 21) _) _
      simp only [Act.put, List.setIfInBounds_toArray, List.set_cons_zero, List.set_cons_succ]
      refine wpAnyH_take (i := 1) (v := ?zv71002) rfl (by kernel_rfl) (by kernel_rfl) (by kernel_rfl) (fun _ _ _ h => h) (Or.inl ⟨by kernel_rfl, ?zy71002⟩) (by assumption) ?zr71002
      case zy71002 => (intro w hSw; (try dsimp only at hSw); go_simp; try with_reducible rfl)
      change wpAnyH _ _ _ _ _ _ _ (Act.put _ (some 22) _) _
      simp only [Act.put, List.setIfInBounds_toArray, List.set_cons_zero, List.set_cons_succ]
      refine wpAnyH_take (i := 2) (v := ?zv71003) rfl (by kernel_rfl) (by kernel_rfl) (by kernel_rfl) (fun _ _ _ h => h) (Or.inl ⟨by kernel_rfl, ?zy71003⟩) (by assumption) ?zr71003
      case zy71003 => (intro w hSw; (try dsimp only at hSw); go_simp; try with_reducible rfl)
      change wpAnyH _ _ _ _ _ _ _ (Act.put _ (some 23) _) _
      simp only [Act.put, List.setIfInBounds_toArray, List.set_cons_zero, List.set_cons_succ]
      refine wpAnyH_take (i := 3) (v := ?zv71004) rfl (by kernel_rfl) (by kernel_rfl) (by kernel_rfl) (fun _ _ _ h => h) (Or.inl ⟨by kernel_rfl, ?zy71004⟩) (by assumption) ?zr71004
      case zy71004 => (intro w hSw; (try dsimp only at hSw); go_simp; try with_reducible rfl)
      change wpAnyH _ _ _ _ _ _ _ (Act.put _ (some 24) _) _
      simp only [Act.put, List.setIfInBounds_toArray, List.set_cons_zero, List.set_cons_succ]
      refine wpAnyH_take (i := 4) (v := ?zv71005) rfl (by kernel_rfl) (by kernel_rfl) (by kernel_rfl) (fun _ _ _ h => h) (Or.inl ⟨by kernel_rfl, ?zy71005⟩) (by assumption) ?zr71005
      case zy71005 => (intro w hSw; (try dsimp only at hSw); go_simp; try with_reducible rfl)
      change wpAnyH _ _ _ _ _ _ _ (Act.put _ (some 25) _) _
      simp only [Act.put, List.setIfInBounds_toArray, List.set_cons_zero, List.set_cons_succ]
      refine wpAnyH_take (i := 5) (v := ?zv71006) rfl (by kernel_rfl) (by kernel_rfl) (by kernel_rfl) (fun _ _ _ h => h) (Or.inl ⟨by kernel_rfl, ?zy71006⟩) (by assumption) ?zr71006
      case zy71006 => (intro w hSw; (try dsimp only at hSw); go_simp; try with_reducible rfl)
      change wpAnyH _ _ _ _ _ _ _ (Act.put _ (some 26) _) _
      simp only [Act.put, List.setIfInBounds_toArray, List.set_cons_zero, List.set_cons_succ]
      refine wpAnyH_ready (rs := [6]) (by kernel_rfl) (by simp) (AllReadyH.cons rfl (fun K hK => ?_) AllReadyH.nil)
      go_simp
      go_at_call 46
      refine (CM.out _).mono ?_
      rintro e w2 ⟨rfl, hb2⟩
      have HB2 : Hid (Below wr.heap.size wr w2) := below_drew_l hb2
      have hck2 : w2.cell? ⟨b, o + k * 2 + 1, none⟩ = some (.string T) := (HB2.out.cell (p := ⟨b, o + k * 2 + 1, none⟩) hbl).trans c1
      clear hb2
      refine hK.out _ _ (hck2) (fun hHeld => ?_)
      clear hK K
      (try simp only [Act.put, List.setIfInBounds_toArray, List.set_cons_zero, List.set_cons_succ])
      refine wpAnyH_take (i := 7) (v := ?zv71007) rfl (by kernel_rfl) (by kernel_rfl) (by kernel_rfl) (fun _ _ _ h => h) (Or.inl ⟨by kernel_rfl, ?zy71007⟩) (by assumption) ?zr71007
      case zy71007 => (intro w hSw; (try dsimp only at hSw); go_simp; try with_reducible rfl)
      change wpAnyH _ _ _ _ _ _ _ (Act.put _ (some 28) _) _
      simp only [Act.put, List.setIfInBounds_toArray, List.set_cons_zero, List.set_cons_succ]
      refine wpAnyH_done (by kernel_rfl) ?_ _
      have HBS : Hid (Below w.heap.size w w2) := HB.out.trans (HB2.out.mono HB.out.size)
      go_wp2
      go_roundw
      case rel => exact ⟨k + 1, by omega, (by first | go_num | (simp; omega)), by go_num, HBS⟩
      case measure => simp [intOf]; omega
    · have hkn : k = n := by omega
      subst hkn
      go_wp2
      go_ret
      exact ⟨ret_int (by simp), HB.out⟩

end Go.Proofs.Ytmddfjfflgfdlaa
