/- Contracts of the exact laws' helpers over slices of requests: the copy, the size, the comparison of equal ones, the marks and what still holds them. Conditions: the requests lie in memory; marked are at most 2^20. -/
import Derived.Test.YtkmebilhbjcfpaaGreatBaseA
import Derived.Test.YtkmebilhbjcfpaaGreatExactRow
import Derived.Test.YtkmebilhbjcfpaaGreatAsks
import Derived.Deep.DeepCutAuto
namespace Go.Proofs.YtkmebilhbjcfpaaGreat
open Go.RowKit
set_option linter.unusedVariables false

/-- A request is written. -/
theorem ask_store {w : World} {base b cap : Nat} {xs : List AD} (h : OwnRow AK w base (some ⟨b, 0, none⟩) cap xs) (i : Nat) (hi : i < xs.length) (a : AD) :
    OwnRow AK ((w.setCell ⟨b, i * 2, none⟩ (.int .i64 a.p)).setCell ⟨b, i * 2 + 1, none⟩ (.int .i64 a.b)) base (some ⟨b, 0, none⟩) cap (xs.set i a) ∧ w.grownBy ((w.setCell ⟨b, i * 2, none⟩ (.int .i64 a.p)).setCell ⟨b, i * 2 + 1, none⟩ (.int .i64 a.b)) (some b) := by
  have h1 := h.stored i (ath xs i) ⟨a.p, (ath xs i).b⟩ (ath_get xs i hi) 0 (by decide) (.int .i64 a.p) rfl
  have h2 := h1.1.stored i ⟨a.p, (ath xs i).b⟩ a (by rw [List.getElem?_set_self hi]) 1 (by decide) (.int .i64 a.b) rfl
  rw [List.set_set] at h2
  exact ⟨h2.1, World.grownBy.trans h1.2 h2.2⟩
theorem ask_p {w : World} {base b cap : Nat} {xs : List AD} (h : OwnRow AK w base (some ⟨b, 0, none⟩) cap xs) (i : Nat) (hi : i < xs.length) (v : Int) :
    OwnRow AK (w.setCell ⟨b, i * 2, none⟩ (.int .i64 v)) base (some ⟨b, 0, none⟩) cap (xs.set i ⟨v, (ath xs i).b⟩) ∧ w.grownBy (w.setCell ⟨b, i * 2, none⟩ (.int .i64 v)) (some b) :=
  h.stored i (ath xs i) ⟨v, (ath xs i).b⟩ (ath_get xs i hi) 0 (by decide) (.int .i64 v) rfl
theorem ask_b {w : World} {base b cap : Nat} {xs : List AD} (h : OwnRow AK w base (some ⟨b, 0, none⟩) cap xs) (i : Nat) (hi : i < xs.length) (v : Int) :
    OwnRow AK (w.setCell ⟨b, i * 2 + 1, none⟩ (.int .i64 v)) base (some ⟨b, 0, none⟩) cap (xs.set i ⟨(ath xs i).p, v⟩) ∧ w.grownBy (w.setCell ⟨b, i * 2 + 1, none⟩ (.int .i64 v)) (some b) :=
  h.stored i (ath xs i) ⟨(ath xs i).p, v⟩ (ath_get xs i hi) 1 (by decide) (.int .i64 v) rfl
theorem ask_cellF {w : World} {base b cap : Nat} {xs : List AD} (h : OwnRow AK w base (some ⟨b, 0, none⟩) cap xs) (i : Nat) (hi : i < xs.length) :
    (w.cell? ⟨b, i * 2, none⟩ = some (.int .i64 (ath xs i).p) ∧ w.frozen? ⟨b, i * 2, none⟩ = false) ∧ (w.cell? ⟨b, i * 2 + 1, none⟩ = some (.int .i64 (ath xs i).b) ∧ w.frozen? ⟨b, i * 2 + 1, none⟩ = false) :=
  ⟨h.cellF i (ath xs i) (ath_get xs i hi) 0 _ rfl, h.cellF i (ath xs i) (ath_get xs i hi) 1 _ rfl⟩
def noA (n : Nat) : List AD := List.replicate n ⟨0, 0⟩
theorem copyA_step (xs : List AD) (k n : Nat) (hn : xs.length = n) (hk : k < n) : (xs.take k ++ noA (n - k)).set k (ath xs k) = xs.take (k + 1) ++ noA (n - (k + 1)) := by
  have hl : (xs.take k).length = k := by rw [List.length_take]; omega
  have e : n - k = (n - (k + 1)) + 1 := by omega
  have hz : noA (n - k) = ⟨0, 0⟩ :: noA (n - (k + 1)) := by rw [e]; rfl
  rw [hz, take_ath xs k (by omega), List.set_append_right _ _ (by omega), hl, Nat.sub_self, List.append_assoc]
  rfl
theorem copyA_len (xs : List AD) (k n : Nat) (hn : xs.length = n) (hk : k ≤ n) : (xs.take k ++ noA (n - k)).length = n := by
  rw [List.length_append, List.length_take]
  unfold noA
  rw [List.length_replicate]; omega
theorem ask_info_parts : ∃ i z, Tryz.prog.info? AK.e = some i ∧ i.zero = some (.agg #[.int .i64 0, .int .i64 0]) ∧ i.size = AK.k ∧ i.bytes = AK.by_ ∧ z = () := by
  obtain ⟨i0, hi0, hz0, hz1, hz2⟩ := info_parts ask_info
  exact ⟨i0, (), hi0, hz0, hz1, hz2, rfl⟩
theorem ath_set (xs : List AD) (k : Nat) (x : AD) (hk : k < xs.length) : ath (xs.set k x) k = x := by
  unfold ath; rw [List.getD_eq_getElem?_getD, List.getElem?_set_self hk]; rfl
/-- The marks of the first n requests. -/
def amarks (n : Nat) : List AD := (List.range n).map fun i => ⟨((1 + 2 * i : Nat) : Int), ((2 + 2 * i : Nat) : Int)⟩
theorem amarks_length (n : Nat) : (amarks n).length = n := by unfold amarks; rw [List.length_map, List.length_range]
theorem amarks_ath (n k : Nat) (hk : k < n) : ath (amarks n) k = ⟨((1 + 2 * k : Nat) : Int), ((2 + 2 * k : Nat) : Int)⟩ := by
  have h := ath_get (amarks n) k (by rw [amarks_length]; exact hk)
  unfold amarks at h
  rw [List.getElem?_map, List.getElem?_range hk] at h
  injection h with h
  unfold amarks
  exact h.symm
theorem amarks_succ (n : Nat) : amarks (n + 1) = amarks n ++ [⟨((1 + 2 * n : Nat) : Int), ((2 + 2 * n : Nat) : Int)⟩] := by
  unfold amarks; rw [List.range_succ, List.map_append]; rfl
theorem amarks_step (xs : List AD) (k : Nat) (hk : k < xs.length) (x y : AD) : ((amarks k ++ xs.drop k).set k x).set k ⟨((1 + 2 * k : Nat) : Int), ((2 + 2 * k : Nat) : Int)⟩ = amarks (k + 1) ++ xs.drop (k + 1) := by
  rw [List.set_set, amarks_succ, List.set_append_right _ _ (by rw [amarks_length]; omega), amarks_length, Nat.sub_self, drop_ath xs k hk, List.append_assoc]
  rfl
theorem amarks_len (xs : List AD) (k n : Nat) (hn : xs.length = n) (hk : k ≤ n) : (amarks k ++ xs.drop k).length = n := by
  rw [List.length_append, amarks_length, List.length_drop]; omega

set_option maxHeartbeats 4000000 in
set_option maxRecDepth 100000 in
theorem toA_any (a : AD) (w : World) : Calls Tryz.prog 115 #[askV a] w fun e w' => e = .returned (askV a) ∧ Below w.heap.size w w' := by
  obtain ⟨ap, ab⟩ := a
  obtain ⟨W, HW⟩ : ∃ Q0, Hid (((w.alloc (.cells #[.int .i64 ap, .int .i64 ab] 146)).alloc (.cells #[.int .i64 0, .int .i64 0] 105)).alloc (.cells #[.int .i64 0, .int .i64 0] 105) = Q0) := ⟨_, rfl⟩
  have KA : Hid (Blk W w.heap.size 146 #[.int .i64 ap, .int .i64 ab]) := by rw [← HW.out]; exact ((Blk.new w _ _).alloc _).alloc _
  have KZ : Hid (Blk W (w.heap.size + 1) 105 #[.int .i64 0, .int .i64 0]) := by
    rw [← HW.out]
    have h := Blk.new (w.alloc (.cells #[.int .i64 ap, .int .i64 ab] 146)) 105 #[.int .i64 0, .int .i64 0]
    rw [World.size_alloc] at h
    exact h.alloc _
  have KO : Hid (Blk W (w.heap.size + 1 + 1) 105 #[.int .i64 0, .int .i64 0]) := by
    rw [← HW.out]
    have h := Blk.new ((w.alloc (.cells #[.int .i64 ap, .int .i64 ab] 146)).alloc (.cells #[.int .i64 0, .int .i64 0] 105)) 105 #[.int .i64 0, .int .i64 0]
    rw [World.size_alloc, World.size_alloc] at h
    exact h
  have HB : Hid (Below w.heap.size w W) := by rw [← HW.out]; exact (((Below.refl _ w).alloc (Nat.le_refl _) _).alloc (by simp) _).alloc (by simp; omega) _
  obtain ⟨g1, hg1⟩ : ∃ v, w.heap.size + 1 = v := ⟨_, rfl⟩
  obtain ⟨g2, hg2⟩ : ∃ v, w.heap.size + 1 + 1 = v := ⟨_, rfl⟩
  rw [hg1] at KZ
  rw [hg2] at KO
  have hgg : g1 + 1 = g2 := by omega
  obtain ⟨a0, a1⟩ := ask2 KA.out
  obtain ⟨o0, o1⟩ := ask2 KO.out
  have of := blk_frozen KO.out
  go_enter Tryz.func115, Tryz.ntmps115
  go_upto_region 2 with fail
  rw [HW.out]
  go_upto_region 3 with fail
  obtain ⟨W1, HW1⟩ : ∃ Q0, Hid (W.setCell ⟨g2, 0, none⟩ (.int .i64 ap) = Q0) := ⟨_, rfl⟩
  have KO1 : Hid (Blk W1 g2 105 #[.int .i64 ap, .int .i64 0]) := by rw [← HW1.out]; exact KO.out.setOwn 0 _
  have KA1 : Hid (Blk W1 w.heap.size 146 #[.int .i64 ap, .int .i64 ab]) := by rw [← HW1.out]; exact KA.out.setOther (p := ⟨g2, 0, none⟩) (by show g2 ≠ _; omega) _
  have KZ1 : Hid (Blk W1 g1 105 #[.int .i64 0, .int .i64 0]) := by rw [← HW1.out]; exact KZ.out.setOther (p := ⟨g2, 0, none⟩) (by show g2 ≠ _; omega) _
  have HB1 : Hid (Below w.heap.size w W1) := by rw [← HW1.out]; exact HB.out.setCell (p := ⟨g2, 0, none⟩) (by show w.heap.size ≤ g2; omega) _
  rw [HW1.out]
  clear a0 a1 o0 o1 of
  obtain ⟨a0, a1⟩ := ask2 KA1.out
  obtain ⟨o0, o1⟩ := ask2 KO1.out
  have of := blk_frozen KO1.out
  go_upto_region 4 with fail
  obtain ⟨W2, HW2⟩ : ∃ Q0, Hid (W1.setCell ⟨g2, 1, none⟩ (.int .i64 ab) = Q0) := ⟨_, rfl⟩
  have KO2 : Hid (Blk W2 g2 105 #[.int .i64 ap, .int .i64 ab]) := by rw [← HW2.out]; exact KO1.out.setOwn 1 _
  have KZ2 : Hid (Blk W2 g1 105 #[.int .i64 0, .int .i64 0]) := by rw [← HW2.out]; exact KZ1.out.setOther (p := ⟨g2, 1, none⟩) (by show g2 ≠ _; omega) _
  have HB2 : Hid (Below w.heap.size w W2) := by rw [← HW2.out]; exact HB1.out.setCell (p := ⟨g2, 1, none⟩) (by show w.heap.size ≤ g2; omega) _
  rw [HW2.out]
  clear a0 a1 o0 o1 of
  obtain ⟨o0, o1⟩ := ask2 KO2.out
  obtain ⟨z0, z1⟩ := ask2 KZ2.out
  have zf := blk_frozen KZ2.out
  go_wp2
  obtain ⟨Y, HY⟩ : ∃ Q0, Hid ((W2.setCell ⟨g1, 0, none⟩ (.int .i64 ap)).setCell ⟨g1, 1, none⟩ (.int .i64 ab) = Q0) := ⟨_, rfl⟩
  have KY : Hid (Blk Y g1 105 #[.int .i64 ap, .int .i64 ab]) := by rw [← HY.out]; exact (KZ2.out.setOwn 0 _).setOwn 1 _
  have HBY : Hid (Below w.heap.size w Y) := by rw [← HY.out]; exact (HB2.out.setCell (p := ⟨g1, 0, none⟩) (by show w.heap.size ≤ g1; omega) _).setCell (p := ⟨g1, 1, none⟩) (by show w.heap.size ≤ g1; omega) _
  rw [HY.out]
  obtain ⟨y0, y1⟩ := ask2 KY.out
  exact bodyPost_ret (v := askV ⟨ap, ab⟩) (by simp [results, Tryz.results115, go_sem, y0, y1]) rfl ⟨rfl, HBY.out⟩

/-- A copy of requests in memory of the call's own. -/
def CopiedA (w : World) (xs : List AD) (e : Ending) (w' : World) : Prop :=
  e = .returned (.slice (some ⟨w.heap.size, 0, none⟩) xs.length xs.length) ∧ OwnRow AK w' w.heap.size (some ⟨w.heap.size, 0, none⟩) xs.length xs ∧ Below w.heap.size w w'

set_option maxHeartbeats 4000000 in
set_option maxRecDepth 100000 in
theorem toAs_any (A : Option Addr) (cap : Nat) (xs : List AD) (w : World) (hI : RowAt AK w w.heap.size A xs) (hm : xs.length ≤ 1048576) :
    Calls Tryz.prog 70 #[.slice A xs.length cap] w (CopiedA w xs) := by
  have HI := Lib.hid hI
  obtain ⟨n, HN⟩ : ∃ n, Hid (xs.length = n) := ⟨_, rfl⟩
  rw [HN.out] at hm ⊢
  clear hI
  obtain ⟨i0, zz, hi0, hz0, hz1, hz2, hz3⟩ := ask_info_parts
  have hmk := fun W => run_make_kind (P := Tryz.prog) AK 59 ⟨0, 0⟩ _ Tryz.underlying59 hi0 hz0 hz1 hz2 rfl .i64 .i64 n (by show 16 * n ≤ _; omega) (by omega) W
  obtain ⟨W, HW⟩ : ∃ Q0, Hid (w.alloc (.cells (AK.cells (List.replicate n ⟨0, 0⟩)).toArray AK.e) = Q0) := ⟨_, rfl⟩
  have HO0 : Hid (OwnRow AK W w.heap.size (some ⟨w.heap.size, 0, none⟩) n (noA n)) := by rw [← HW.out]; exact OwnRow.made AK w n ⟨0, 0⟩ (by unfold maxLen; omega)
  have HB0 : Hid (Below w.heap.size w W) := by rw [← HW.out]; exact (Below.refl _ _).alloc (Nat.le_refl _) _
  have hWz : w.heap.size < W.heap.size := (HO0.out.lies _ rfl).2
  clear hz0 hz1 hz2 hi0
  go_enter Tryz.func70, Tryz.ntmps70
  go_upto_region 2 with fail
  rw [HW.out]
  clear hmk
  go_wp2
  go_loopw [4] (fun i w' => ∃ k : Nat, k ≤ n ∧ i = .int .i64 k ∧ Hid (OwnRow AK w' w.heap.size (some ⟨w.heap.size, 0, none⟩) n (xs.take k ++ noA (n - k))) ∧ Hid (Below w.heap.size w w')) (fun i _ => n - (intOf i).toNat)
  case atStart => exact ⟨0, Nat.zero_le _, rfl, (by show OwnRow _ _ _ _ _ _; have h := HO0.out; simpa using h), HB0⟩
  case round =>
    obtain ⟨k, hk, rfl, HO, HB⟩ := hrel
    by_cases hlt : k < n
    · have hkz : k < xs.length := by rw [HN.out]; exact hlt
      have hj := HI.out.belowS HB.out
      obtain ⟨b, o, rfl⟩ := hj.some_ (by omega)
      obtain ⟨c0, c1⟩ := ask_cells hj k hkz
      obtain ⟨ap, HRI⟩ : ∃ x, Hid ((ath xs k).p = x) := ⟨_, rfl⟩
      obtain ⟨ab, HRT⟩ : ∃ x, Hid ((ath xs k).b = x) := ⟨_, rfl⟩
      have HONE : Hid (ath xs k = ⟨ap, ab⟩) := by
        show _ = _
        rw [← HRI.out, ← HRT.out]
      rw [HRI.out] at c0
      rw [HRT.out] at c1
      have hki : (k : Int) < (n : Int) := by omega
      have hwz : w.heap.size ≤ wr.heap.size := HB.out.size
      clear hj
      go_wp2_with fail
      refine (toA_any ⟨ap, ab⟩ wr).mono ?_
      rintro e w2 ⟨rfl, hb2⟩
      have HO2 := Lib.hid (HO.out.below hb2)
      have HB2 : Hid (Below w.heap.size w w2) := HB.out.trans (hb2.mono hwz)
      have hlen := copyA_len xs k n HN.out (by omega)
      obtain ⟨⟨d0, e0⟩, ⟨d1, e1⟩⟩ := ask_cellF HO2.out k (by omega)
      have hs := ask_store HO2.out k (by omega) ⟨ap, ab⟩
      rw [← HONE.out, copyA_step xs k n HN.out hlt, HONE.out] at hs
      have HS := Lib.hid hs.1
      have HBS : Hid (Below w.heap.size w ((w2.setCell ⟨w.heap.size, k * 2, none⟩ (.int .i64 ap)).setCell ⟨w.heap.size, k * 2 + 1, none⟩ (.int .i64 ab))) := (HB2.out.setCell (p := ⟨w.heap.size, k * 2, none⟩) (Nat.le_refl _) _).setCell (p := ⟨w.heap.size, k * 2 + 1, none⟩) (Nat.le_refl _) _
      clear hkz hs hb2 c0 c1 hlen
      go_wp2
      go_roundw
      case rel => exact ⟨k + 1, by omega, by go_num, HS, HBS⟩
      case measure => simp [intOf]; omega
    · have hkn : k = n := by omega
      subst hkn
      have ho := HO.out
      rw [Nat.sub_self, List.take_of_length_le (by rw [HN.out]; omega)] at ho
      have HO' : Hid (OwnRow AK wr w.heap.size (some ⟨w.heap.size, 0, none⟩) k xs) := by show OwnRow _ _ _ _ _ _; simpa [noA] using ho
      clear ho
      go_wp2
      go_ret
      refine ⟨?_, ?_, HB.out⟩
      · rw [HN.out]; first | done | rfl
      · rw [HN.out]; exact HO'.out

theorem toAs_ret (A : Option Addr) (cap : Nat) (xs : List AD) (w : World) (hI : RowAt AK w w.heap.size A xs) (hm : xs.length ≤ 1048576) :
    Calls Tryz.prog 70 #[.slice A xs.length cap] w fun e w' => ∃ g, e = .returned (.slice (some ⟨g, 0, none⟩) xs.length xs.length) ∧ OwnRow AK w' w.heap.size (some ⟨g, 0, none⟩) xs.length xs ∧ Below w.heap.size w w' :=
  (toAs_any A cap xs w hI hm).mono fun _ _ h => ⟨_, h⟩
theorem gotR_len (xs : List AD) (a : AD) : (gotR xs a).length ≤ xs.length := by
  unfold gotR
  split
  · split
    · exact List.length_filter_le _ _
    · exact Nat.le_refl _
  · exact Nat.zero_le _
theorem dropR_len (xs : List AD) (p : Int) : (dropR xs p).length ≤ xs.length := by
  unfold dropR
  split
  · exact List.length_filter_le _ _
  · exact Nat.zero_le _
theorem askR_len (xs : List AD) (a : AD) (e : Bool) (h : xs.length ≤ 1048576) : (askR xs a e).length ≤ 1048576 := by
  unfold askR
  split
  · rename_i hw
    rw [Bool.and_eq_true] at hw
    split
    · have := winB_short hw.1
      rw [List.length_append]; show xs.length + 1 ≤ 1048576; omega
    · exact h
  · exact Nat.zero_le _

set_option maxHeartbeats 4000000 in
set_option maxRecDepth 100000 in
theorem szA_fit (A : Option Addr) (n cap : Nat) (w : World) (hn : n ≤ 1048576) :
    Calls Tryz.prog 48 #[.slice A n cap, .int .i64 1048576] w fun e w' => e = .returned (.int .i64 (1048576 - (n : Int))) ∧ w = w' := by
  have hw1 : IntKind.i64.wrap (1048576 - (n : Int)) = 1048576 - (n : Int) := IntWalk.i64_in _ (by omega)
  obtain ⟨r, hr⟩ : ∃ r, 1048576 - (n : Int) = r := ⟨_, rfl⟩
  have h0 : ¬ r < 0 := by omega
  rw [hr] at hw1 ⊢
  go_enter Tryz.func48, Tryz.ntmps48
  go_wp2
  go_ret
  exact ⟨rfl, rfl⟩

set_option maxHeartbeats 4000000 in
set_option maxRecDepth 100000 in
theorem szA_over (A : Option Addr) (n cap : Nat) (w : World) (hn : 1048576 < n) (hm : n ≤ maxLen) :
    Calls Tryz.prog 48 #[.slice A n cap, .int .i64 1048576] w fun e w' => e = .returned (.int .i64 (-1)) ∧ w = w' := by
  unfold maxLen at hm
  have hw1 : IntKind.i64.wrap (1048576 - (n : Int)) = 1048576 - (n : Int) := IntWalk.i64_in _ (by omega)
  obtain ⟨r, hr⟩ : ∃ r, 1048576 - (n : Int) = r := ⟨_, rfl⟩
  have h0 : r < 0 := by omega
  rw [hr] at hw1
  go_enter Tryz.func48, Tryz.ntmps48
  go_wp2
  go_ret
  exact ⟨rfl, rfl⟩

set_option maxHeartbeats 4000000 in
set_option maxRecDepth 100000 in
theorem eqA_any (a : AD) (w : World) :
    Calls Tryz.prog 137 #[askV a, askV a] w fun e w' => e = .returned (.bool true) ∧ Below w.heap.size w w' := by
  obtain ⟨ap, ab⟩ := a
  obtain ⟨W, HW⟩ : ∃ Q0, Hid ((w.alloc (.cells #[.int .i64 ap, .int .i64 ab] 105)).alloc (.cells #[.int .i64 ap, .int .i64 ab] 105) = Q0) := ⟨_, rfl⟩
  have KA : Hid (Blk W w.heap.size 105 #[.int .i64 ap, .int .i64 ab]) := by rw [← HW.out]; exact (Blk.new w _ _).alloc _
  have KB : Hid (Blk W (w.heap.size + 1) 105 #[.int .i64 ap, .int .i64 ab]) := by
    rw [← HW.out]
    have h := Blk.new (w.alloc (.cells #[.int .i64 ap, .int .i64 ab] 105)) 105 #[.int .i64 ap, .int .i64 ab]
    rw [World.size_alloc] at h
    exact h
  have HB : Hid (Below w.heap.size w W) := by rw [← HW.out]; exact ((Below.refl _ w).alloc (Nat.le_refl _) _).alloc (by simp) _
  obtain ⟨a0, a1⟩ := ask2 KA.out
  obtain ⟨b0, b1⟩ := ask2 KB.out
  go_enter Tryz.func137, Tryz.ntmps137
  go_upto_region 1 with fail
  rw [HW.out]
  go_wp2
  go_ret
  exact ⟨rfl, HB.out⟩

theorem two_cells {w w' : World} {b o : Nat} {u v : Value} (h : w.cell? ⟨b, o, none⟩ = some u ∧ w.cell? ⟨b, o + 1, none⟩ = some v) (hb : Below w.heap.size w w') : w'.cell? ⟨b, o, none⟩ = some u ∧ w'.cell? ⟨b, o + 1, none⟩ = some v :=
  ⟨(hb.cell (p := ⟨b, o, none⟩) (World.block_lt_of_cell? w _ h.1)).trans h.1, (hb.cell (p := ⟨b, o + 1, none⟩) (World.block_lt_of_cell? w _ h.2)).trans h.2⟩

set_option maxHeartbeats 4000000 in
set_option maxRecDepth 100000 in
theorem eqAs_any (A : Option Addr) (c : Nat) (A1 : Option Addr) (c1 : Nat) (xs : List AD) (w : World) (hJ : RowAt AK w w.heap.size A xs) (hJ1 : RowAt AK w w.heap.size A1 xs) (hm : xs.length ≤ maxLen) {n : Nat} (hn : xs.length = n) :
    Calls Tryz.prog 90 #[.slice A n c, .slice A1 n c1] w fun e w' => e = .returned (.bool true) ∧ Below w.heap.size w w' := by
  unfold maxLen at hm
  rw [hn] at hm
  have HN := Lib.hid hn
  have HJ := Lib.hid hJ
  have HJ1 := Lib.hid hJ1
  clear hJ hJ1 hn
  go_enter Tryz.func90, Tryz.ntmps90
  go_wp2
  go_loopw [5] (fun i w' => ∃ k : Nat, k ≤ n ∧ i = .int .i64 k ∧ Hid (Below w.heap.size w w')) (fun i _ => n - (intOf i).toNat)
  case atStart => exact ⟨0, Nat.zero_le _, rfl, Below.refl _ _⟩
  case round =>
    obtain ⟨k, hk, rfl, HB⟩ := hrel
    by_cases hlt : k < n
    · have hkz : k < xs.length := by rw [HN.out]; exact hlt
      have ja := HJ.out.belowS HB.out
      have jb := HJ1.out.belowS HB.out
      obtain ⟨b, o, rfl⟩ := ja.some_ (by omega)
      obtain ⟨b', o', rfl⟩ := jb.some_ (by omega)
      have h1 := ask_cells ja k hkz
      have h2 := ask_cells jb k hkz
      obtain ⟨ap, HRI⟩ : ∃ x, Hid ((ath xs k).p = x) := ⟨_, rfl⟩
      obtain ⟨ab, HRT⟩ : ∃ x, Hid ((ath xs k).b = x) := ⟨_, rfl⟩
      rw [HRI.out, HRT.out] at h1 h2
      have H1 := Lib.hid h1
      have H2 := Lib.hid h2
      have hk0 : (0 : Int) ≤ (k : Int) := by omega
      have hki : (k : Int) < (n : Int) := by omega
      clear hkz ja jb h1 h2
      go_wp2_with fail
      refine wp_region_held_drew (S := (fun w' => (w'.cell? ⟨b, o + k * 2, none⟩ = some (.int .i64 ap) ∧ w'.cell? ⟨b, o + k * 2 + 1, none⟩ = some (.int .i64 ab)) ∧ (w'.cell? ⟨b', o' + k * 2, none⟩ = some (.int .i64 ap) ∧ w'.cell? ⟨b', o' + k * 2 + 1, none⟩ = some (.int .i64 ab)))) (by kernel_rfl) (⟨H1.out, H2.out⟩) (fun hHeld => ?_)
      refine wtk 0 ?zv51001 17 rfl rfl (by kernel_rfl) (fun _ _ _ h => h) (by kernel_rfl) ?zy51001 (by assumption) ?zr51001
      case zy51001 => (intro w hSw; (try dsimp only at hSw); go_simp; try with_reducible rfl)
      simp only [Act.put, aput]
      refine wtk 1 ?zv51002 18 rfl rfl (by kernel_rfl) (fun _ _ _ h => h) (by kernel_rfl) ?zy51002 (by assumption) ?zr51002
      case zy51002 => (intro w hSw; (try dsimp only at hSw); go_simp; try with_reducible rfl)
      simp only [Act.put, aput]
      refine wtk 2 ?zv51003 19 rfl rfl (by kernel_rfl) (fun _ _ _ h => h) (by kernel_rfl) ?zy51003 (by assumption) ?zr51003
      case zy51003 => (intro w hSw; (try dsimp only at hSw); go_simp; try with_reducible rfl)
      simp only [Act.put, aput]
      refine wtk 3 ?zv51004 20 rfl rfl (by kernel_rfl) (fun _ _ _ h => h) (by kernel_rfl) ?zy51004 (by assumption) ?zr51004
      case zy51004 => (intro w hSw; (try dsimp only at hSw); go_simp; try with_reducible rfl)
      simp only [Act.put, aput]
      refine wtk 4 ?zv51005 21 rfl rfl (by kernel_rfl) (fun _ _ _ h => h) (by kernel_rfl) ?zy51005 (by assumption) ?zr51005
      case zy51005 => (intro w hSw; (try dsimp only at hSw); go_simp; try with_reducible rfl)
      simp only [Act.put, aput]
      refine wtk 5 ?zv51006 22 rfl rfl (by kernel_rfl) (fun _ _ _ h => h) (by kernel_rfl) ?zy51006 (by assumption) ?zr51006
      case zy51006 => (intro w hSw; (try dsimp only at hSw); go_simp; try with_reducible rfl)
      simp only [Act.put, aput]
      refine wtk 6 ?zv51007 23 rfl rfl (by kernel_rfl) (fun _ _ _ h => h) (by kernel_rfl) ?zy51007 (by assumption) ?zr51007
      case zy51007 => (intro w hSw; (try dsimp only at hSw); go_simp; try with_reducible rfl)
      simp only [Act.put, aput]
      refine wtk 7 ?zv51008 24 rfl rfl (by kernel_rfl) (fun _ _ _ h => h) (by kernel_rfl) ?zy51008 (by assumption) ?zr51008
      case zy51008 => (intro w hSw; (try dsimp only at hSw); go_simp; try with_reducible rfl)
      simp only [Act.put, aput]
      refine wpAnyH_ready (rs := [8]) (by kernel_rfl) (by simp) (AllReadyH.cons rfl (fun K hK => ?_) AllReadyH.nil)
      go_simp
      go_at_call 137
      refine (eqA_any ⟨ap, ab⟩ _).mono ?_
      rintro e w2 ⟨rfl, hb2⟩
      have hb2 := below_drew_l hb2
      have H1 := Lib.hid (two_cells H1.out hb2)
      have H2 := Lib.hid (two_cells H2.out hb2)
      have HB2 : Hid (Below w.heap.size w w2) := HB.out.trans (hb2.mono HB.out.size)
      clear hb2
      refine hK.out _ _ (⟨H1.out, H2.out⟩) (fun hHeld => ?_)
      clear hK K
      (try simp only [Act.put, aput])
      refine wtk 9 ?zv51009 26 rfl rfl (by kernel_rfl) (fun _ _ _ h => h) (by kernel_rfl) ?zy51009 (by assumption) ?zr51009
      case zy51009 => (intro w hSw; (try dsimp only at hSw); go_simp; try with_reducible rfl)
      simp only [Act.put, aput]
      refine wpAnyH_done (by kernel_rfl) ?_ _
      go_wp2
      go_roundw
      case rel => exact ⟨k + 1, by omega, by go_num, HB2⟩
      case measure => simp [intOf]; omega
    · go_wp2
      go_ret
      exact ⟨rfl, HB.out⟩

set_option maxHeartbeats 4000000 in
set_option maxRecDepth 100000 in
theorem markA_some (base b cap : Nat) (xs : List AD) (w : World) (hO : OwnRow AK w base (some ⟨b, 0, none⟩) cap xs) (hm : xs.length ≤ 1048576) :
    Calls Tryz.prog 99 #[.slice (some ⟨b, 0, none⟩) xs.length cap, .int .i64 1] w (Marked2 AK w base (some ⟨b, 0, none⟩) cap xs.length (amarks xs.length)) := by
  have HO := Lib.hid hO
  obtain ⟨n, HN⟩ : ∃ n, Hid (xs.length = n) := ⟨_, rfl⟩
  rw [HN.out] at hm ⊢
  clear hO
  go_enter Tryz.func99, Tryz.ntmps99
  go_wp2
  go_loopw [1, 5] (fun x i w' => ∃ k : Nat, k ≤ n ∧ x = .int .i64 (1 + 2 * (k : Int)) ∧ i = .int .i64 k ∧ Hid (OwnRow AK w' base (some ⟨b, 0, none⟩) cap (amarks k ++ xs.drop k)) ∧ Hid (w.grownBy w' (some b))) (fun _ i _ => n - (intOf i).toNat)
  case atStart => exact ⟨0, Nat.zero_le _, rfl, rfl, HO, World.grownBy.refl _ _⟩
  case round =>
    obtain ⟨k, hk, rfl, rfl, HO1, HG⟩ := hrel
    by_cases hlt : k < n
    · have hkz : k < xs.length := by rw [HN.out]; exact hlt
      have hlen := amarks_len xs k n HN.out hk
      obtain ⟨⟨d0, e0⟩, ⟨d1, e1⟩⟩ := ask_cellF HO1.out k (by omega)
      have hki : (k : Int) < (n : Int) := by omega
      have hs := ask_p HO1.out k (by omega) (1 + 2 * (k : Int))
      go_upto_region 5 with fail
      obtain ⟨W1, HW1⟩ : ∃ Q0, Hid (wr.setCell ⟨b, k * 2, none⟩ (.int .i64 (1 + 2 * (k : Int))) = Q0) := ⟨_, rfl⟩
      rw [HW1.out] at hs ⊢
      have HS := Lib.hid hs.1
      have HGS : Hid (w.grownBy W1 (some b)) := World.grownBy.trans HG.out hs.2
      clear d0 e0 d1 e1 hs
      obtain ⟨⟨d0, e0⟩, ⟨d1, e1⟩⟩ := ask_cellF HS.out k (by rw [List.length_set]; omega)
      have hs := ask_b HS.out k (by rw [List.length_set]; omega) (2 + 2 * (k : Int))
      rw [show (⟨(ath ((amarks k ++ xs.drop k).set k ⟨1 + 2 * (k : Int), (ath (amarks k ++ xs.drop k) k).b⟩) k).p, 2 + 2 * (k : Int)⟩ : AD) = ⟨((1 + 2 * k : Nat) : Int), ((2 + 2 * k : Nat) : Int)⟩ from AD.same (by rw [ath_set _ _ _ (by omega)]; show (1 : Int) + 2 * (k : Int) = ((1 + 2 * k : Nat) : Int); omega) (by show (2 : Int) + 2 * (k : Int) = ((2 + 2 * k : Nat) : Int); omega), amarks_step xs k hkz _ ⟨0, 0⟩] at hs
      have HT := Lib.hid hs.1
      have HGT : Hid (w.grownBy (W1.setCell ⟨b, k * 2 + 1, none⟩ (.int .i64 (2 + 2 * (k : Int)))) (some b)) := World.grownBy.trans HGS.out hs.2
      have hadd : 1 + 2 * (k : Int) + 1 = 2 + 2 * (k : Int) := by omega
      clear hkz hlen hs
      have hw1 : IntKind.i64.wrap (1 + 2 * (k : Int) + 1) = 2 + 2 * (k : Int) := by rw [hadd]; exact IntWalk.i64_in _ (by omega)
      have hw2 : IntKind.i64.wrap (2 + 2 * (k : Int) + 1) = 3 + 2 * (k : Int) := by rw [show 2 + 2 * (k : Int) + 1 = 3 + 2 * (k : Int) by omega]; exact IntWalk.i64_in _ (by omega)
      clear hadd
      go_wp2
      go_roundw
      case rel => exact ⟨k + 1, by omega, (by first | go_num | (simp; omega)), by go_num, HT, HGT⟩
      case measure => simp [intOf]; omega
    · have hkn : k = n := by omega
      subst hkn
      have ho := HO1.out
      rw [List.drop_eq_nil_of_le (by rw [HN.out]; omega), List.append_nil] at ho
      have HO' := Lib.hid ho
      clear ho
      go_wp2
      go_ret
      exact ⟨ret_int (by simp), HO'.out, (fun b' e => by injection e with e; injection e with e _ _; subst e; exact HG.out), (fun e => by cases e)⟩

set_option maxHeartbeats 4000000 in
set_option maxRecDepth 100000 in
theorem markA_any (base : Nat) (A : Option Addr) (cap : Nat) (xs : List AD) (w : World) (hO : OwnRow AK w base A cap xs) (hm : xs.length ≤ 1048576) :
    Calls Tryz.prog 99 #[.slice A xs.length cap, .int .i64 1] w (Marked2 AK w base A cap xs.length (amarks xs.length)) := by
  rcases A with _ | ad
  · have h0 := hO.none_nil
    subst h0
    have HO := Lib.hid hO
    clear hO
    go_enter Tryz.func99, Tryz.ntmps99
    go_wp2
    go_loop [1, 5] (fun x i => x = .int .i64 1 ∧ i = .int .i64 0) (fun _ _ => 0)
    case atStart => exact ⟨rfl, rfl⟩
    case round =>
      obtain ⟨rfl, rfl⟩ := hrel
      go_wp2
      go_ret
      exact ⟨rfl, HO.out, (fun b e => by cases e), fun _ => Below.refl _ _⟩
  · rcases hO.nowhere with h | ⟨b, h⟩
    · cases h
    · injection h with h
      subst h
      exact markA_some base b cap xs w hO hm



end Go.Proofs.YtkmebilhbjcfpaaGreat
