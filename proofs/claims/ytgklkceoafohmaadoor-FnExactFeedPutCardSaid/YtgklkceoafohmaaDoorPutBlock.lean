/- Contracts of lacksBlock and withBlock: is a block wanting, and a feed with a further block in memory of its own. Conditions: the feed lies in memory. -/
import Derived.Test.YtgklkceoafohmaaDoorWithHead
import Derived.Test.YtgklkceoafohmaaDoorDrawSpoilt
import Derived.Test.YtgklkceoafohmaaDoorDrawFeed
import Derived.Test.YtgklkceoafohmaaDoorPutMath
namespace Go.Proofs.YtgklkceoafohmaaDoor
open Go.RowKit
set_option linter.unusedVariables false

/-- A bit of the row of bits is written. -/
theorem Fd.putB {w : World} {base g y : Nat} {p l d s : Int} {A1 : Option Addr} {c1 c2 : Nat} {bs : List ByteArray} {hs : List Bool} (h : Fd w base g p l d s A1 c1 (some ⟨y, 0, none⟩) c2 bs hs) (j : Nat) (x : Bool) : Fd (w.setCell ⟨y, j, none⟩ (.bool x)) base g p l d s A1 c1 (some ⟨y, 0, none⟩) c2 bs (hs.set j x) := by
  refine ⟨owns_block h.strs fun z hz => Below.heap_setCell w _ _ z (fun e => rows_part h.strs h.bits z y hz rfl e), (ownb_stored h.bits j x).1, ?_, h.big⟩
  rw [List.length_set]
  exact h.blk.setOther (p := ⟨y, j, none⟩) (bits_ne_blk h.bits h.blk y rfl) _

set_option maxHeartbeats 2000000 in
theorem lacks_any (p l d s : Int) (A1 : Option Addr) (nb c1 : Nat) (A2 : Option Addr) (c2 : Nat) (bs : List ByteArray) (hs : List Bool) (i : Int) (w : World) (hH : BoolsAt w w.heap.size A2 hs) (hm : hs.length ≤ maxLen) :
    Calls Tryd.prog 36 #[feedV p l d s A1 nb c1 A2 hs.length c2, .int .i64 i] w fun e w' => e = .returned (.bool (lacksB ⟨p, l, d, s, bs, hs⟩ i)) ∧ Below w.heap.size w w' := by
  have HH := Lib.hid hH
  obtain ⟨n, HN⟩ : ∃ n, Hid (hs.length = n) := ⟨_, rfl⟩
  rw [HN.out] at hm ⊢
  unfold maxLen at hm
  obtain ⟨W, HW⟩ : ∃ W, Hid (w.alloc (.cells (feedC p l d s A1 nb c1 A2 n c2) 28) = W) := ⟨_, rfl⟩
  have HB : Hid (Below w.heap.size w W) := by rw [← HW.out]; exact (Below.refl _ w).alloc (Nat.le_refl _) _
  have HK : Hid (Blk W w.heap.size 28 (feedC p l d s A1 nb c1 A2 n c2)) := by rw [← HW.out]; exact Blk.new w _ _
  obtain ⟨k0, k1, k2, k3, k4, k5⟩ := feed_cells HK.out
  clear hH
  by_cases h0 : 0 ≤ i
  · by_cases h1 : i < (n : Int)
    · obtain ⟨k, rfl⟩ := Int.eq_ofNat_of_zero_le h0
      have hkn : k < n := by omega
      obtain ⟨b, o, rfl, hb, hcell⟩ := (HH.out.belowS HB.out).at_ (by rw [HN.out]; omega)
      have hc := hcell k (by rw [HN.out]; exact hkn)
      obtain ⟨x, HX⟩ : ∃ x, Hid (bth hs k = x) := ⟨_, rfl⟩
      rw [HX.out] at hc
      have HV : Hid (lacksB ⟨p, l, d, s, bs, hs⟩ (k : Int) = !x) := by
        show decide (0 ≤ (k : Int) ∧ (k : Int) < (hs.length : Int) ∧ bth hs (Int.toNat (k : Int)) = false) = _
        rw [Int.toNat_natCast, HX.out, HN.out]
        cases x
        · exact decide_eq_true ⟨h0, h1, rfl⟩
        · exact decide_eq_false (fun h => by cases h.2.2)
      clear hcell
      go_enter Tryd.func36, Tryd.ntmps36
      go_upto_region 1 with fail
      rw [HW.out]
      go_wp2
      go_ret
      exact ⟨ret_bool HV.out.symm, HB.out⟩
    · have HV : Hid (lacksB ⟨p, l, d, s, bs, hs⟩ i = false) := by
        show decide (0 ≤ i ∧ i < (hs.length : Int) ∧ bth hs i.toNat = false) = _
        rw [HN.out]
        exact decide_eq_false (fun h => h1 h.2.1)
      have h1i : (n : Int) ≤ i := by omega
      go_enter Tryd.func36, Tryd.ntmps36
      go_upto_region 1 with fail
      rw [HW.out]
      go_wp2
      go_ret
      exact ⟨ret_bool HV.out.symm, HB.out⟩
  · have HV : Hid (lacksB ⟨p, l, d, s, bs, hs⟩ i = false) := decide_eq_false (fun h => h0 h.1)
    have h0i : i < 0 := by omega
    go_enter Tryd.func36, Tryd.ntmps36
    go_upto_region 1 with fail
    rw [HW.out]
    go_wp2
    go_ret
    exact ⟨ret_bool HV.out.symm, HB.out⟩

set_option maxHeartbeats 8000000 in
set_option maxRecDepth 100000 in
theorem withBlock_any (p d s : Int) (A1 : Option Addr) (c1 : Nat) (A2 : Option Addr) (c2 : Nat) (bs : List ByteArray) (hs : List Bool) (m k : Nat) (t : ByteArray) (w : World) (hF : FeedAt w w.heap.size A1 A2 bs hs) (h16 : m ≤ 16) (hb : bs.length = m) (hh : hs.length = m) (hk : k < m) (ht : t.size ≤ maxLen) :
    Calls Tryd.prog 38 #[feedV p (m : Int) d s A1 m c1 A2 m c2, .int .i64 (k : Int), .string t] w (FeedMade w p (m : Int) d s (bs.set k t) (hs.set k true)) := by
  have HF := Lib.hid hF
  have HFS : Hid (Fit (bs.set k t)) := hF.fit.set k ht
  have CW : Hid (∀ U, Below w.heap.size w U → Calls Tryd.prog 37 #[feedV p (m : Int) d s A1 m c1 A2 m c2, headV (m : Int) d s] U (FeedMade U p (m : Int) d s bs hs)) := fun U hU => by
    have h := withHead_any p (m : Int) d s A1 c1 A2 c2 bs hs m d s U (HF.out.belowS hU) h16 (by omega) (by omega)
    rw [longS_same (by omega), longB_same (by omega), hb, hh] at h
    exact h
  clear hF
  obtain ⟨W, HW⟩ : ∃ W, Hid ((w.alloc (.cells (feedC p (m : Int) d s A1 m c1 A2 m c2) 28)).alloc (.cells (feedC 0 0 0 0 none 0 0 none 0 0) 28) = W) := ⟨_, rfl⟩
  have KF : Hid (Blk W w.heap.size 28 (feedC p (m : Int) d s A1 m c1 A2 m c2)) := by rw [← HW.out]; exact (Blk.new w _ _).alloc _
  have KZ : Hid (Blk W (w.heap.size + 1) 28 (feedC 0 0 0 0 none 0 0 none 0 0)) := by
    rw [← HW.out]
    have h := Blk.new (w.alloc (.cells (feedC p (m : Int) d s A1 m c1 A2 m c2) 28)) 28 (feedC 0 0 0 0 none 0 0 none 0 0)
    rw [World.size_alloc] at h
    exact h
  have HB : Hid (Below w.heap.size w W) := by rw [← HW.out]; exact ((Below.refl _ w).alloc (Nat.le_refl _) _).alloc (by simp) _
  have hzW : w.heap.size + 1 < W.heap.size := KZ.out.lt
  obtain ⟨k0, k1, k2, k3, k4, k5⟩ := feed_cells KF.out
  go_enter Tryd.func38, Tryd.ntmps38
  go_upto_region 1 with fail
  rw [HW.out]
  go_wp2_with fail
  refine (CW.out _ HB.out).mono ?_
  rintro e w1 ⟨X1, e1, X2, e2, rfl, ho1, hb1⟩
  rw [hb, hh]
  have KZ1 := Lib.hid (KZ.out.below hb1 KZ.out.lt)
  have HB1 : Hid (Below w.heap.size w w1) := HB.out.trans (hb1.mono HB.out.size)
  have hz1 : W.heap.size ≤ w1.heap.size := hb1.size
  obtain ⟨g1, cg, hv, _, _⟩ := World.ownsRow.form ho1.strs (by rw [hb]; omega)
  injection hv with hA _ hq
  subst hA
  subst hq
  obtain ⟨g2, cg', hv', _, _⟩ := World.ownsRow.form ho1.bits (by rw [hh]; omega)
  injection hv' with hA' _ hq'
  subst hA'
  subst hq'
  have hg1 : W.heap.size ≤ g1 := ho1.strs.far (n := m) g1 rfl
  have hg2 : W.heap.size ≤ g2 := ho1.bits.far (n := m) g2 rfl
  obtain ⟨w2, HW2⟩ : ∃ Q0, Hid (w1.alloc (.cells (feedC p (m : Int) d s (some ⟨g1, 0, none⟩) m e1 (some ⟨g2, 0, none⟩) m e2) 28) = Q0) := ⟨_, rfl⟩
  have HD2 : Hid (Fd w2 W.heap.size w1.heap.size p (m : Int) d s (some ⟨g1, 0, none⟩) e1 (some ⟨g2, 0, none⟩) e2 bs hs) := by
    rw [← HW2.out]
    exact ⟨ho1.strs.alloc _, ho1.bits.alloc _, by rw [hb, hh]; exact Blk.new w1 _ _, hz1⟩
  have KZ2 : Hid (Blk w2 (w.heap.size + 1) 28 (feedC 0 0 0 0 none 0 0 none 0 0)) := by rw [← HW2.out]; exact KZ1.out.alloc _
  have HB2 : Hid (Below w.heap.size w w2) := by rw [← HW2.out]; exact HB1.out.alloc HB1.out.size _
  clear ho1 hb1 k0 k1 k2 k3 k4 k5
  have hkm : (k : Int) < (m : Int) := by omega
  have hk0 : (0 : Int) ≤ (k : Int) := by omega
  go_upto_region 2 with fail
  rw [HW2.out]
  obtain ⟨x0, x1, x2, x3, x4, x5⟩ := feed_cells HD2.out.blk
  rw [hb] at x4
  rw [hh] at x5
  (try go_wp2_with fail)
  refine wp_region_held_drew (S := (fun w' => w'.cell? ⟨w1.heap.size, 4, none⟩ = some (.slice (some ⟨g1, 0, none⟩) m e1) ∧ w'.cell? ⟨w1.heap.size, 5, none⟩ = some (.slice (some ⟨g2, 0, none⟩) m e2))) (by kernel_rfl) (⟨x4, x5⟩) (fun hHeld => ?_)
  obtain ⟨U0, HU0⟩ : ∃ U, Hid (w2.drew = U) := ⟨_, rfl⟩
  have HD0 : Hid (Fd U0 W.heap.size w1.heap.size p (m : Int) d s (some ⟨g1, 0, none⟩) e1 (some ⟨g2, 0, none⟩) e2 bs hs) := by rw [← HU0.out]; exact HD2.out.drew
  have KZ0 : Hid (Blk U0 (w.heap.size + 1) 28 (feedC 0 0 0 0 none 0 0 none 0 0)) := by rw [← HU0.out]; exact KZ2.out
  have HB0 : Hid (Below w.heap.size w U0) := by rw [← HU0.out]; exact below_drew HB2.out
  rw [HU0.out] at hHeld ⊢
  clear x0 x1 x2 x3 x4 x5
  obtain ⟨x0, x1, x2, x3, x4, x5⟩ := feed_cells HD0.out.blk
  (try rw [List.length_set] at x4)
  (try rw [List.length_set] at x5)
  rw [hb] at x4
  rw [hh] at x5
  obtain ⟨a0, a1⟩ := owns_cell HD0.out.strs k (by (try rw [List.length_set]); rw [hb]; exact hk)
  obtain ⟨b0, b1⟩ := ownb_cell HD0.out.bits k (by (try rw [List.length_set]); rw [hh]; exact hk)
  refine wpAnyH_take (i := 0) (v := ?zv60001) rfl (by kernel_rfl) (by kernel_rfl) (by kernel_rfl) (fun _ _ _ h => h) (Or.inl ⟨by kernel_rfl, ?zy60001⟩) (by assumption) ?zr60001
  case zy60001 => (intro w hSw; (try dsimp only at hSw); go_simp; try with_reducible rfl)
  change wpAnyH _ _ _ _ _ _ _ (Act.put _ (some 12) _) _
  simp only [Act.put, List.setIfInBounds_toArray, List.set_cons_zero, List.set_cons_succ]
  refine wpAnyH_take (i := 2) (v := ?zv60002) rfl (by kernel_rfl) (by kernel_rfl) (by kernel_rfl) (fun _ _ _ h => h) (Or.inl ⟨by kernel_rfl, ?zy60002⟩) (by assumption) ?zr60002
  case zy60002 => (intro w hSw; (try dsimp only at hSw); go_simp; try with_reducible rfl)
  change wpAnyH _ _ _ _ _ _ _ (Act.put _ (some 14) _) _
  simp only [Act.put, List.setIfInBounds_toArray, List.set_cons_zero, List.set_cons_succ]
  refine wpAnyH_take (i := 3) (v := ?zv60003) rfl (by kernel_rfl) (by kernel_rfl) (by kernel_rfl) (fun _ _ _ h => h) (Or.inl ⟨by kernel_rfl, ?zy60003⟩) (by assumption) ?zr60003
  case zy60003 => (intro w hSw; (try dsimp only at hSw); go_simp; try with_reducible rfl)
  change wpAnyH _ _ _ _ _ _ _ (Act.put _ (some 15) _) _
  simp only [Act.put, List.setIfInBounds_toArray, List.set_cons_zero, List.set_cons_succ]
  refine wpAnyH_take (i := 5) (v := ?zv60004) rfl (by kernel_rfl) (by kernel_rfl) (by kernel_rfl) (fun _ _ _ h => h) (Or.inl ⟨by kernel_rfl, ?zy60004⟩) (by assumption) ?zr60004
  case zy60004 => (intro w hSw; (try dsimp only at hSw); go_simp; try with_reducible rfl)
  change wpAnyH _ _ _ _ _ _ _ (Act.put _ (some 17) _) _
  simp only [Act.put, List.setIfInBounds_toArray, List.set_cons_zero, List.set_cons_succ]
  refine wpAnyH_take (i := 6) (v := ?zv60005) rfl (by kernel_rfl) (by kernel_rfl) (by kernel_rfl) (fun _ _ _ h => h) (Or.inl ⟨by kernel_rfl, ?zy60005⟩) (by assumption) ?zr60005
  case zy60005 => (intro w hSw; (try dsimp only at hSw); go_simp; try with_reducible rfl)
  change wpAnyH _ _ _ _ _ _ _ (Act.put _ (some 18) _) _
  simp only [Act.put, List.setIfInBounds_toArray, List.set_cons_zero, List.set_cons_succ]
  refine wpAnyH_take (i := 1) (v := ?zv60006) rfl (by kernel_rfl) (by kernel_rfl) (by kernel_rfl) (fun _ _ _ h => h) (Or.inl ⟨by kernel_rfl, ?zy60006⟩) (by assumption) ?zr60006
  case zy60006 => (intro w hSw; (try dsimp only at hSw); go_simp; try with_reducible rfl)
  change wpAnyH _ _ _ _ _ _ _ (Act.put _ (some 13) _) _
  simp only [Act.put, List.setIfInBounds_toArray, List.set_cons_zero, List.set_cons_succ]
  refine wpAnyH_take (i := 4) (v := ?zv60007) rfl (by kernel_rfl) (by kernel_rfl) (by kernel_rfl) (fun _ _ _ h => h) (Or.inl ⟨by kernel_rfl, ?zy60007⟩) (by assumption) ?zr60007
  case zy60007 => (intro w hSw; (try dsimp only at hSw); go_simp; try with_reducible rfl)
  change wpAnyH _ _ _ _ _ _ _ (Act.put _ (some 16) _) _
  simp only [Act.put, List.setIfInBounds_toArray, List.set_cons_zero, List.set_cons_succ]
  refine wpAnyH_take (i := 7) (v := ?zv60008) rfl (by kernel_rfl) (by kernel_rfl) (by kernel_rfl) (fun _ _ _ h => h) (Or.inl ⟨by kernel_rfl, ?zy60008⟩) (by assumption) ?zr60008
  case zy60008 => (intro w hSw; (try dsimp only at hSw); go_simp; try with_reducible rfl)
  change wpAnyH _ _ _ _ _ _ _ (Act.put _ (some 19) _) _
  simp only [Act.put, List.setIfInBounds_toArray, List.set_cons_zero, List.set_cons_succ]
  refine wpAnyH_ready (rs := [8]) (by kernel_rfl) (by simp) (AllReadyH.cons rfl (fun K hK => ?zo60009_0) AllReadyH.nil)
  case zo60009_0 =>
    go_simp
    obtain ⟨U1, HU1⟩ : ∃ Q0, Hid (U0.setCell ⟨g1, k, none⟩ (.string t) = Q0) := ⟨_, rfl⟩
    have HD1 := Lib.hid (HD0.out.put k t)
    rw [HU1.out] at HD1
    have KZ1 : Hid (Blk U1 (w.heap.size + 1) 28 (feedC 0 0 0 0 none 0 0 none 0 0)) := by rw [← HU1.out]; exact KZ0.out.setOther (p := ⟨g1, k, none⟩) (by show g1 ≠ _; omega) _
    have HB1 : Hid (Below w.heap.size w U1) := by rw [← HU1.out]; exact HB0.out.setCell (p := ⟨g1, k, none⟩) (by show _ ≤ g1; omega) _
    rw [HU1.out]
    clear x0 x1 x2 x3 x4 x5 a0 a1 b0 b1
    obtain ⟨x0, x1, x2, x3, x4, x5⟩ := feed_cells HD1.out.blk
    (try rw [List.length_set] at x4)
    (try rw [List.length_set] at x5)
    rw [hb] at x4
    rw [hh] at x5
    obtain ⟨a0, a1⟩ := owns_cell HD1.out.strs k (by (try rw [List.length_set]); rw [hb]; exact hk)
    obtain ⟨b0, b1⟩ := ownb_cell HD1.out.bits k (by (try rw [List.length_set]); rw [hh]; exact hk)
    refine hK.out _ _ (⟨x4, x5⟩) (fun hHeld => ?_)
    clear hK K
    (try simp only [Act.put])
    refine wpAnyH_take (i := 9) (v := ?zv60010) rfl (by kernel_rfl) (by kernel_rfl) (by kernel_rfl) (fun _ _ _ h => h) (Or.inl ⟨by kernel_rfl, ?zy60010⟩) (by assumption) ?zr60010
    case zy60010 => (intro w hSw; (try dsimp only at hSw); go_simp; try with_reducible rfl)
    change wpAnyH _ _ _ _ _ _ _ (Act.put _ (some 20) _) _
    simp only [Act.put, List.setIfInBounds_toArray, List.set_cons_zero, List.set_cons_succ]
    refine wpAnyH_ready (rs := [10]) (by kernel_rfl) (by simp) (AllReadyH.cons rfl (fun K hK => ?zo60011_0) AllReadyH.nil)
    case zo60011_0 =>
      go_simp
      obtain ⟨U2, HU2⟩ : ∃ Q0, Hid (U1.setCell ⟨g2, k, none⟩ (.bool true) = Q0) := ⟨_, rfl⟩
      have HD2 := Lib.hid (HD1.out.putB k true)
      rw [HU2.out] at HD2
      have KZ2 : Hid (Blk U2 (w.heap.size + 1) 28 (feedC 0 0 0 0 none 0 0 none 0 0)) := by rw [← HU2.out]; exact KZ1.out.setOther (p := ⟨g2, k, none⟩) (by show g2 ≠ _; omega) _
      have HB2 : Hid (Below w.heap.size w U2) := by rw [← HU2.out]; exact HB1.out.setCell (p := ⟨g2, k, none⟩) (by show _ ≤ g2; omega) _
      rw [HU2.out]
      clear x0 x1 x2 x3 x4 x5 a0 a1 b0 b1
      obtain ⟨x0, x1, x2, x3, x4, x5⟩ := feed_cells HD2.out.blk
      (try rw [List.length_set] at x4)
      (try rw [List.length_set] at x5)
      rw [hb] at x4
      rw [hh] at x5
      obtain ⟨a0, a1⟩ := owns_cell HD2.out.strs k (by (try rw [List.length_set]); rw [hb]; exact hk)
      obtain ⟨b0, b1⟩ := ownb_cell HD2.out.bits k (by (try rw [List.length_set]); rw [hh]; exact hk)
      refine hK.out _ _ (⟨x4, x5⟩) (fun hHeld => ?_)
      clear hK K
      (try simp only [Act.put])
      refine wpAnyH_done (by kernel_rfl) ?_ _
      obtain ⟨r0, r1, r2, r3, r4, r5⟩ := feed_cells KZ2.out
      have rf := blk_frozen KZ2.out
      go_wp2
      obtain ⟨Y, HY⟩ : ∃ Y, Hid (((((((U2.setCell ⟨w.heap.size + 1, 0, none⟩ (.int .i64 p)).setCell ⟨w.heap.size + 1, 1, none⟩ (.int .i64 (m : Int))).setCell ⟨w.heap.size + 1, 2, none⟩ (.int .i64 d)).setCell ⟨w.heap.size + 1, 3, none⟩ (.int .i64 s)).setCell ⟨w.heap.size + 1, 4, none⟩ (.slice (some ⟨g1, 0, none⟩) m e1)).setCell ⟨w.heap.size + 1, 5, none⟩ (.slice (some ⟨g2, 0, none⟩) m e2)) = Y) := ⟨_, rfl⟩
      have HBY : Hid (Below w.heap.size w Y) := by rw [← HY.out]; exact below_six HB2.out (by omega) _ _ _ _ _ _
      have KRY : Hid (Blk Y (w.heap.size + 1) 28 (feedC p (m : Int) d s (some ⟨g1, 0, none⟩) m e1 (some ⟨g2, 0, none⟩) m e2)) := by rw [← HY.out]; exact blk_six KZ2.out _ _ _ _ _ _
      have hoF : OwnFeed Y w.heap.size (some ⟨g1, 0, none⟩) e1 (some ⟨g2, 0, none⟩) e2 (bs.set k t) (hs.set k true) := by rw [← HY.out]; exact own_six (OwnFeed.base_le ⟨HD2.out.strs, HD2.out.bits, HFS.out⟩ (by omega)) KZ2.out _ _ _ _ _ _
      rw [HY.out]
      obtain ⟨y0, y1, y2, y3, y4, y5⟩ := feed_cells KRY.out
      exact bodyPost_ret (v := feedV p (m : Int) d s (some ⟨g1, 0, none⟩) m e1 (some ⟨g2, 0, none⟩) m e2) (by simp [results, Tryd.results38, go_sem, y0, y1, y2, y3, y4, y5]) rfl ⟨some ⟨g1, 0, none⟩, e1, some ⟨g2, 0, none⟩, e2, by rw [List.length_set, List.length_set, hb, hh], hoF, HBY.out⟩

end Go.Proofs.YtgklkceoafohmaaDoor
