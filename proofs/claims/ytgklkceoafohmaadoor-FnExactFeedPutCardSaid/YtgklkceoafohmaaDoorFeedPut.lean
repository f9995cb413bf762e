/- The contract of FeedPut: the feed with the block, or the same feed, or none, in memory of its own. Conditions: the feed and the proof lie in memory; the tables of math/bits as laid. -/
import Derived.Test.YtgklkceoafohmaaDoorPutBlock
import Derived.Test.YtgklkceoafohmaaDoorBaseK
namespace Go.Proofs.YtgklkceoafohmaaDoor
open Go.RowKit
set_option linter.unusedVariables false

/-- What FeedPut hands back. -/
def PutRet (w : World) (f : FD) (c : Bool) (e : Ending) (w' : World) : Prop :=
  ∃ A1 c1 A2 c2, e = .returned (.tuple #[feedV f.p f.l f.d f.s A1 f.bs.length c1 A2 f.hs.length c2, .bool c]) ∧ OwnFeed w' w.heap.size A1 c1 A2 c2 f.bs f.hs ∧ Below w.heap.size w w'

set_option maxHeartbeats 16000000 in
set_option maxRecDepth 100000 in
theorem feedPut_any (p l d s : Int) (A1 : Option Addr) (c1 : Nat) (A2 : Option Addr) (c2 : Nat) (bs : List ByteArray) (hs : List Bool) (i : Int) (t : ByteArray) (X : Option Addr) (cz : Nat) (zs : List Int) (w : World) (hTab : Tab w) (hF : FeedAt w w.heap.size A1 A2 bs hs) (hG : IntsAt w w.heap.size X zs) (hX : (X = none ∧ cz = 0) ∨ ∃ b o, X = some ⟨b, o, none⟩) (hcz : zs.length ≤ cz) (hmz : cz ≤ maxLen) (ht : t.size ≤ maxLen) :
    Calls Tryd.prog 10 #[feedV p l d s A1 bs.length c1 A2 hs.length c2, .int .i64 i, .string t, .slice X zs.length cz] w (PutRet w (putR ⟨p, l, d, s, bs, hs⟩ i t zs) (putOk ⟨p, l, d, s, bs, hs⟩ i t zs)) := by
  have HF := Lib.hid hF
  have HT8 := Lib.hid ht
  have CV : Hid (∀ U, Below w.heap.size w U → Calls Tryd.prog 13 #[feedV p l d s A1 bs.length c1 A2 hs.length c2] U fun e w' => e = .returned (.bool (okB ⟨p, l, d, s, bs, hs⟩)) ∧ Below U.heap.size U w') := fun U hU => feedValid_any p l d s A1 c1 A2 c2 bs hs U (HF.out.belowS hU)
  have CL : Hid (∀ U, Below w.heap.size w U → Calls Tryd.prog 36 #[feedV p l d s A1 bs.length c1 A2 hs.length c2, .int .i64 i] U fun e w' => e = .returned (.bool (lacksB ⟨p, l, d, s, bs, hs⟩ i)) ∧ Below U.heap.size U w') := fun U hU => lacks_any p l d s A1 bs.length c1 A2 c2 bs hs i U (HF.out.belowS hU).bits HF.out.lh
  have CT : Hid (∀ U, Below w.heap.size w U → Calls Tryd.prog 14 #[.int .i64 d, .int .i64 l, .int .i64 i, .int .i64 (textOr t), .slice X zs.length cz] U fun e w' => e = .returned (.bool (treeOkB d l i (textOr t) zs)) ∧ Below U.heap.size U w') := fun U hU => tcheck_any d l i (textOr t) zs X cz U (hTab.below hU) ((hG.below hU (Nat.le_refl _)).more hU.size) hX hcz hmz
  obtain ⟨nz, HNZ⟩ : ∃ n, Hid (zs.length = n) := ⟨_, rfl⟩
  obtain ⟨nb, HNB⟩ : ∃ n, Hid (bs.length = n) := ⟨_, rfl⟩
  obtain ⟨nh, HNH⟩ : ∃ n, Hid (hs.length = n) := ⟨_, rfl⟩
  rw [HNB.out, HNH.out] at CV CL
  rw [HNZ.out] at CT
  rw [HNB.out, HNH.out, HNZ.out]
  obtain ⟨W, HW⟩ : ∃ W, Hid ((w.alloc (.cells (feedC p l d s A1 nb c1 A2 nh c2) 28)).alloc (.cells (feedC 0 0 0 0 none 0 0 none 0 0) 28) = W) := ⟨_, rfl⟩
  have KF : Hid (Blk W w.heap.size 28 (feedC p l d s A1 nb c1 A2 nh c2)) := by rw [← HW.out]; exact (Blk.new w _ _).alloc _
  have KZ : Hid (Blk W (w.heap.size + 1) 28 (feedC 0 0 0 0 none 0 0 none 0 0)) := by
    rw [← HW.out]
    have h := Blk.new (w.alloc (.cells (feedC p l d s A1 nb c1 A2 nh c2) 28)) 28 (feedC 0 0 0 0 none 0 0 none 0 0)
    rw [World.size_alloc] at h
    exact h
  have HB : Hid (Below w.heap.size w W) := by rw [← HW.out]; exact ((Below.refl _ w).alloc (Nat.le_refl _) _).alloc (by simp) _
  obtain ⟨k0, k1, k2, k3, k4, k5⟩ := feed_cells KF.out
  clear hF hTab hG hX hcz hmz
  unfold maxLen at ht
  cases hO : okB ⟨p, l, d, s, bs, hs⟩ with
  | false =>
    have HPK : Hid (putOk ⟨p, l, d, s, bs, hs⟩ i t zs = false) := putOk_no fun h => by rw [hO] at h; cases h.1
    have HPR : Hid (putR ⟨p, l, d, s, bs, hs⟩ i t zs = zeroF) := putR_inv fun h => by rw [hO] at h; cases h.1
    rw [hO] at CV
    clear hO CL CT
    go_enter Tryd.func10, Tryd.ntmps10
    go_upto_region 1 with fail
    rw [HW.out]
    go_wp2_with fail
    refine (CV.out _ HB.out).mono ?_
    rintro e w1 ⟨rfl, hb1⟩
    have KF1 := Lib.hid (KF.out.below hb1 KF.out.lt)
    have KZ1 := Lib.hid (KZ.out.below hb1 KZ.out.lt)
    have HB1 : Hid (Below w.heap.size w w1) := HB.out.trans (hb1.mono HB.out.size)
    clear hb1
    obtain ⟨r0, r1, r2, r3, r4, r5⟩ := feed_cells KZ1.out
    have rf := blk_frozen KZ1.out
    go_wp2
    obtain ⟨Y, HY⟩ : ∃ Y, Hid (((((((w1.setCell ⟨w.heap.size + 1, 0, none⟩ (.int .i64 0)).setCell ⟨w.heap.size + 1, 1, none⟩ (.int .i64 0)).setCell ⟨w.heap.size + 1, 2, none⟩ (.int .i64 0)).setCell ⟨w.heap.size + 1, 3, none⟩ (.int .i64 0)).setCell ⟨w.heap.size + 1, 4, none⟩ (.slice none 0 0)).setCell ⟨w.heap.size + 1, 5, none⟩ (.slice none 0 0)) = Y) := ⟨_, rfl⟩
    have HBY : Hid (Below w.heap.size w Y) := by rw [← HY.out]; exact below_six HB1.out (by omega) _ _ _ _ _ _
    have KRY : Hid (Blk Y (w.heap.size + 1) 28 (feedC 0 0 0 0 none 0 0 none 0 0)) := by rw [← HY.out]; exact blk_six KZ1.out _ _ _ _ _ _
    have hoF : OwnFeed Y w.heap.size none 0 none 0 [] [] := ⟨⟨rfl, .inl ⟨rfl, rfl⟩⟩, ⟨rfl, .inl ⟨rfl, rfl⟩⟩, fun k => Nat.zero_le _⟩
    rw [HY.out]
    obtain ⟨y0, y1, y2, y3, y4, y5⟩ := feed_cells KRY.out
    exact bodyPost_ret (v := .tuple #[feedV 0 0 0 0 none 0 0 none 0 0, .bool false]) (by simp [results, Tryd.results10, go_sem, y0, y1, y2, y3, y4, y5]) rfl ⟨none, 0, none, 0, by rw [HPR.out, HPK.out]; rfl, by rw [HPR.out]; exact hoF, HBY.out⟩
  | true =>
    have hok := (okB_iff _).1 hO
    have hlen := hok.len
    simp only at hlen
    have hbl : (nb : Int) = l := by have h := hok.2.2.1.1; simp only at h; rw [HNB.out] at h; exact h
    have hhl : nb = nh := by have h := hlen.2; rw [HNB.out, HNH.out] at h; exact h.symm
    have hn16 : nb ≤ 16 := by have h := hlen.1; rw [HNB.out] at h; exact h
    subst hbl
    subst hhl
    have CW : Hid (∀ U, Below w.heap.size w U → Calls Tryd.prog 37 #[feedV p (nb : Int) d s A1 nb c1 A2 nb c2, headV (nb : Int) d s] U (FeedMade U p (nb : Int) d s bs hs)) := fun U hU => by
      have h := withHead_any p (nb : Int) d s A1 c1 A2 c2 bs hs nb d s U (HF.out.belowS hU) hn16 (by rw [HNB.out]; exact Nat.le_refl _) (by rw [HNH.out]; exact Nat.le_refl _)
      rw [longS_same (by rw [HNB.out]; exact Nat.le_refl _), longB_same (by rw [HNH.out]; exact Nat.le_refl _), HNB.out, HNH.out] at h
      exact h
    rw [hO] at CV
    clear hok hlen
    by_cases h8 : t.size ≤ 8
    · have h8i : ¬ (8 : Int) < (t.size : Int) := by omega
      cases hL : lacksB ⟨p, (nb : Int), d, s, bs, hs⟩ i with
      | false =>
        have HPK : Hid (putOk ⟨p, (nb : Int), d, s, bs, hs⟩ i t zs = false) := putOk_no fun h => by rw [hL] at h; cases h.2.2.1
        have HPR : Hid (putR ⟨p, (nb : Int), d, s, bs, hs⟩ i t zs = ⟨p, (nb : Int), d, s, bs, hs⟩) := putR_no hO h8 HPK.out
        rw [hL] at CL
        clear hO hL CT h8 hn16
        go_enter Tryd.func10, Tryd.ntmps10
        go_upto_region 1 with fail
        rw [HW.out]
        go_wp2_with fail
        refine (CV.out _ HB.out).mono ?_
        rintro e w1 ⟨rfl, hb1⟩
        have KF1 := Lib.hid (KF.out.below hb1 KF.out.lt)
        have KZ1 := Lib.hid (KZ.out.below hb1 KZ.out.lt)
        have HB1 : Hid (Below w.heap.size w w1) := HB.out.trans (hb1.mono HB.out.size)
        clear hb1
        obtain ⟨k0, k1, k2, k3, k4, k5⟩ := feed_cells KF1.out
        go_upto_region 3 with fail
        (try go_wp2_with fail)
        refine wp_region_held_drew (S := (fun w' => w'.cell? ⟨w.heap.size, 0, none⟩ = some (.int .i64 p) ∧ w'.cell? ⟨w.heap.size, 1, none⟩ = some (.int .i64 (nb : Int)) ∧ w'.cell? ⟨w.heap.size, 2, none⟩ = some (.int .i64 d) ∧ w'.cell? ⟨w.heap.size, 3, none⟩ = some (.int .i64 s) ∧ w'.cell? ⟨w.heap.size, 4, none⟩ = some (.slice A1 nb c1) ∧ w'.cell? ⟨w.heap.size, 5, none⟩ = some (.slice A2 nb c2))) (by kernel_rfl) (feed_cells KF1.out) (fun hHeld => ?_)
        refine wpAnyH_take (i := 0) (v := ?zv70001) rfl (by kernel_rfl) (by kernel_rfl) (by kernel_rfl) (fun _ _ _ h => h) (Or.inl ⟨by kernel_rfl, ?zy70001⟩) (by assumption) ?zr70001
        case zy70001 => (intro w hSw; (try dsimp only at hSw); go_simp; try with_reducible rfl)
        change wpAnyH _ _ _ _ _ _ _ (Act.put _ (some 20) _) _
        simp only [Act.put, List.setIfInBounds_toArray, List.set_cons_zero, List.set_cons_succ]
        refine wpAnyH_take (i := 1) (v := ?zv70002) rfl (by kernel_rfl) (by kernel_rfl) (by kernel_rfl) (fun _ _ _ h => h) (Or.inl ⟨by kernel_rfl, ?zy70002⟩) (by assumption) ?zr70002
        case zy70002 => (intro w hSw; (try dsimp only at hSw); go_simp; try with_reducible rfl)
        change wpAnyH _ _ _ _ _ _ _ (Act.put _ (some 21) _) _
        simp only [Act.put, List.setIfInBounds_toArray, List.set_cons_zero, List.set_cons_succ]
        refine wpAnyH_ready (rs := [2]) (by kernel_rfl) (by simp) (AllReadyH.cons rfl (fun K hK => ?_) AllReadyH.nil)
        go_simp
        go_at_call 36
        refine (CL.out _ (below_drew HB1.out)).mono ?_
        rintro e w2 ⟨rfl, hb2d⟩
        have hb2 : Below w1.heap.size w1 w2 := below_drew_l hb2d
        have KF2 := Lib.hid (KF1.out.below hb2 KF1.out.lt)
        have KZ2 := Lib.hid (KZ1.out.below hb2 KZ1.out.lt)
        have HB2 : Hid (Below w.heap.size w w2) := HB1.out.trans (hb2.mono HB1.out.size)
        clear hb2d hb2 k0 k1 k2 k3 k4 k5
        obtain ⟨k0, k1, k2, k3, k4, k5⟩ := feed_cells KF2.out
        refine hK.out _ _ (feed_cells KF2.out) (fun hHeld => ?_)
        clear hK K
        (try simp only [Act.put, List.setIfInBounds_toArray, List.set_cons_zero, List.set_cons_succ])
        refine wpAnyH_take (i := 3) (v := ?zv70003) rfl (by kernel_rfl) (by kernel_rfl) (by kernel_rfl) (fun _ _ _ h => h) (Or.inl ⟨by kernel_rfl, ?zy70003⟩) (by assumption) ?zr70003
        case zy70003 => (intro w hSw; (try dsimp only at hSw); go_simp; try with_reducible rfl)
        change wpAnyH _ _ _ _ _ _ _ (Act.put _ (some 23) _) _
        simp only [Act.put, List.setIfInBounds_toArray, List.set_cons_zero, List.set_cons_succ]
        refine wpAnyH_take (i := 4) (v := ?zv70004) rfl (by kernel_rfl) (by kernel_rfl) (by kernel_rfl) (fun _ _ _ h => h) (Or.inl ⟨by kernel_rfl, ?zy70004⟩) (by assumption) ?zr70004
        case zy70004 => (intro w hSw; (try dsimp only at hSw); go_simp; try with_reducible rfl)
        change wpAnyH _ _ _ _ _ _ _ (Act.put _ (some 24) _) _
        simp only [Act.put, List.setIfInBounds_toArray, List.set_cons_zero, List.set_cons_succ]
        refine wpAnyH_take (i := 5) (v := undef) rfl (by kernel_rfl) (by kernel_rfl) (by kernel_rfl) (fun _ _ _ h => h) (Or.inr ⟨by kernel_rfl, rfl⟩) (by assumption) ?_
        change wpAnyH _ _ _ _ _ _ _ (Act.put _ (some 25) _) _
        simp only [Act.put, List.setIfInBounds_toArray, List.set_cons_zero, List.set_cons_succ]
        refine wpAnyH_take (i := 6) (v := undef) rfl (by kernel_rfl) (by kernel_rfl) (by kernel_rfl) (fun _ _ _ h => h) (Or.inr ⟨by kernel_rfl, rfl⟩) (by assumption) ?_
        change wpAnyH _ _ _ _ _ _ _ (Act.put _ (some 26) _) _
        simp only [Act.put, List.setIfInBounds_toArray, List.set_cons_zero, List.set_cons_succ]
        refine wpAnyH_take (i := 7) (v := undef) rfl (by kernel_rfl) (by kernel_rfl) (by kernel_rfl) (fun _ _ _ h => h) (Or.inr ⟨by kernel_rfl, rfl⟩) (by assumption) ?_
        change wpAnyH _ _ _ _ _ _ _ (Act.put _ (some 27) _) _
        simp only [Act.put, List.setIfInBounds_toArray, List.set_cons_zero, List.set_cons_succ]
        refine wpAnyH_take (i := 8) (v := undef) rfl (by kernel_rfl) (by kernel_rfl) (by kernel_rfl) (fun _ _ _ h => h) (Or.inr ⟨by kernel_rfl, rfl⟩) (by assumption) ?_
        change wpAnyH _ _ _ _ _ _ _ (Act.put _ (some 28) _) _
        simp only [Act.put, List.setIfInBounds_toArray, List.set_cons_zero, List.set_cons_succ]
        refine wpAnyH_take (i := 9) (v := undef) rfl (by kernel_rfl) (by kernel_rfl) (by kernel_rfl) (fun _ _ _ h => h) (Or.inr ⟨by kernel_rfl, rfl⟩) (by assumption) ?_
        change wpAnyH _ _ _ _ _ _ _ (Act.put _ (some 29) _) _
        simp only [Act.put, List.setIfInBounds_toArray, List.set_cons_zero, List.set_cons_succ]
        refine wpAnyH_take (i := 10) (v := undef) rfl (by kernel_rfl) (by kernel_rfl) (by kernel_rfl) (fun _ _ _ h => h) (Or.inr ⟨by kernel_rfl, rfl⟩) (by assumption) ?_
        change wpAnyH _ _ _ _ _ _ _ (Act.put _ (some 30) _) _
        simp only [Act.put, List.setIfInBounds_toArray, List.set_cons_zero, List.set_cons_succ]
        refine wpAnyH_take (i := 11) (v := undef) rfl (by kernel_rfl) (by kernel_rfl) (by kernel_rfl) (fun _ _ _ h => h) (Or.inr ⟨by kernel_rfl, rfl⟩) (by assumption) ?_
        change wpAnyH _ _ _ _ _ _ _ (Act.put _ (some 31) _) _
        simp only [Act.put, List.setIfInBounds_toArray, List.set_cons_zero, List.set_cons_succ]
        refine wpAnyH_take (i := 12) (v := undef) rfl (by kernel_rfl) (by kernel_rfl) (by kernel_rfl) (fun _ _ _ h => h) (Or.inr ⟨by kernel_rfl, rfl⟩) (by assumption) ?_
        change wpAnyH _ _ _ _ _ _ _ (Act.put _ (some 32) _) _
        simp only [Act.put, List.setIfInBounds_toArray, List.set_cons_zero, List.set_cons_succ]
        refine wpAnyH_take (i := 13) (v := undef) rfl (by kernel_rfl) (by kernel_rfl) (by kernel_rfl) (fun _ _ _ h => h) (Or.inr ⟨by kernel_rfl, rfl⟩) (by assumption) ?_
        change wpAnyH _ _ _ _ _ _ _ (Act.put _ (some 33) _) _
        simp only [Act.put, List.setIfInBounds_toArray, List.set_cons_zero, List.set_cons_succ]
        refine wpAnyH_take (i := 14) (v := undef) rfl (by kernel_rfl) (by kernel_rfl) (by kernel_rfl) (fun _ _ _ h => h) (Or.inr ⟨by kernel_rfl, rfl⟩) (by assumption) ?_
        change wpAnyH _ _ _ _ _ _ _ (Act.put _ (some 34) _) _
        simp only [Act.put, List.setIfInBounds_toArray, List.set_cons_zero, List.set_cons_succ]
        refine wpAnyH_take (i := 15) (v := undef) rfl (by kernel_rfl) (by kernel_rfl) (by kernel_rfl) (fun _ _ _ h => h) (Or.inr ⟨by kernel_rfl, rfl⟩) (by assumption) ?_
        change wpAnyH _ _ _ _ _ _ _ (Act.put _ (some 35) _) _
        simp only [Act.put, List.setIfInBounds_toArray, List.set_cons_zero, List.set_cons_succ]
        refine wpAnyH_take (i := 16) (v := undef) rfl (by kernel_rfl) (by kernel_rfl) (by kernel_rfl) (fun _ _ _ h => h) (Or.inr ⟨by kernel_rfl, rfl⟩) (by assumption) ?_
        change wpAnyH _ _ _ _ _ _ _ (Act.put _ (some 36) _) _
        simp only [Act.put, List.setIfInBounds_toArray, List.set_cons_zero, List.set_cons_succ]
        refine wpAnyH_take (i := 17) (v := ?zv70005) rfl (by kernel_rfl) (by kernel_rfl) (by kernel_rfl) (fun _ _ _ h => h) (Or.inl ⟨by kernel_rfl, ?zy70005⟩) (by assumption) ?zr70005
        case zy70005 => (intro w hSw; (try dsimp only at hSw); go_simp; try with_reducible rfl)
        change wpAnyH _ _ _ _ _ _ _ (Act.put _ (some 37) _) _
        simp only [Act.put, List.setIfInBounds_toArray, List.set_cons_zero, List.set_cons_succ]
        refine wpAnyH_done (by kernel_rfl) ?_ _
        go_wp2_with fail
        refine (CW.out _ HB2.out).mono ?_
        rintro e w4 ⟨X1, e1, X2, e2, rfl, ho4, hb4⟩
        rw [HNB.out, HNH.out]
        have KZ4 := Lib.hid (KZ2.out.below hb4 KZ2.out.lt)
        have HB4 : Hid (Below w.heap.size w w4) := HB2.out.trans (hb4.mono HB2.out.size)
        have HO4 := Lib.hid (ho4.base_le HB2.out.size)
        clear ho4 hb4 k0 k1 k2 k3 k4 k5
        obtain ⟨r0, r1, r2, r3, r4, r5⟩ := feed_cells KZ4.out
        have rf := blk_frozen KZ4.out
        go_wp2
        obtain ⟨Y, HY⟩ : ∃ Y, Hid (((((((w4.setCell ⟨w.heap.size + 1, 0, none⟩ (.int .i64 p)).setCell ⟨w.heap.size + 1, 1, none⟩ (.int .i64 (nb : Int))).setCell ⟨w.heap.size + 1, 2, none⟩ (.int .i64 d)).setCell ⟨w.heap.size + 1, 3, none⟩ (.int .i64 s)).setCell ⟨w.heap.size + 1, 4, none⟩ (.slice X1 nb e1)).setCell ⟨w.heap.size + 1, 5, none⟩ (.slice X2 nb e2)) = Y) := ⟨_, rfl⟩
        have HBY : Hid (Below w.heap.size w Y) := by rw [← HY.out]; exact below_six HB4.out (by omega) _ _ _ _ _ _
        have KRY : Hid (Blk Y (w.heap.size + 1) 28 (feedC p (nb : Int) d s X1 nb e1 X2 nb e2)) := by rw [← HY.out]; exact blk_six KZ4.out _ _ _ _ _ _
        have hoF : OwnFeed Y w.heap.size X1 e1 X2 e2 bs hs := by rw [← HY.out]; exact own_six HO4.out KZ4.out _ _ _ _ _ _
        rw [HY.out]
        obtain ⟨y0, y1, y2, y3, y4, y5⟩ := feed_cells KRY.out
        exact bodyPost_ret (v := .tuple #[feedV p (nb : Int) d s X1 nb e1 X2 nb e2, .bool false]) (by simp [results, Tryd.results10, go_sem, y0, y1, y2, y3, y4, y5]) rfl ⟨X1, e1, X2, e2, by rw [HPR.out, HPK.out]; show _ = Ending.returned (.tuple #[feedV p (nb : Int) d s X1 bs.length e1 X2 hs.length e2, .bool false]); rw [HNB.out, HNH.out], by rw [HPR.out]; exact hoF, HBY.out⟩
      | true =>
        obtain ⟨hi0, hi1, -⟩ := (lacksB_iff _ _).1 hL
        have hi2 : i < (hs.length : Int) := hi1
        rw [HNH.out] at hi2
        obtain ⟨k, rfl⟩ := Int.eq_ofNat_of_zero_le hi0
        have hkn : k < nb := by omega
        rw [hL] at CL
        cases hTk : treeOkB d (nb : Int) (k : Int) (textOr t) zs with
        | false =>
          have HPK : Hid (putOk ⟨p, (nb : Int), d, s, bs, hs⟩ (k : Int) t zs = false) := putOk_no fun h => by have h2 : treeOkB d (nb : Int) (k : Int) (textOr t) zs = true := h.2.2.2.1; rw [hTk] at h2; cases h2
          have HPR : Hid (putR ⟨p, (nb : Int), d, s, bs, hs⟩ (k : Int) t zs = ⟨p, (nb : Int), d, s, bs, hs⟩) := putR_no hO h8 HPK.out
          rw [hTk] at CT
          clear hO hL hTk h8 hn16 hi0 hi1 hi2
          go_enter Tryd.func10, Tryd.ntmps10
          go_upto_region 1 with fail
          rw [HW.out]
          go_wp2_with fail
          refine (CV.out _ HB.out).mono ?_
          rintro e w1 ⟨rfl, hb1⟩
          have KF1 := Lib.hid (KF.out.below hb1 KF.out.lt)
          have KZ1 := Lib.hid (KZ.out.below hb1 KZ.out.lt)
          have HB1 : Hid (Below w.heap.size w w1) := HB.out.trans (hb1.mono HB.out.size)
          clear hb1
          obtain ⟨k0, k1, k2, k3, k4, k5⟩ := feed_cells KF1.out
          go_upto_region 3 with fail
          (try go_wp2_with fail)
          refine wp_region_held_drew (S := (fun w' => w'.cell? ⟨w.heap.size, 0, none⟩ = some (.int .i64 p) ∧ w'.cell? ⟨w.heap.size, 1, none⟩ = some (.int .i64 (nb : Int)) ∧ w'.cell? ⟨w.heap.size, 2, none⟩ = some (.int .i64 d) ∧ w'.cell? ⟨w.heap.size, 3, none⟩ = some (.int .i64 s) ∧ w'.cell? ⟨w.heap.size, 4, none⟩ = some (.slice A1 nb c1) ∧ w'.cell? ⟨w.heap.size, 5, none⟩ = some (.slice A2 nb c2))) (by kernel_rfl) (feed_cells KF1.out) (fun hHeld => ?_)
          refine wpAnyH_take (i := 0) (v := ?zv70006) rfl (by kernel_rfl) (by kernel_rfl) (by kernel_rfl) (fun _ _ _ h => h) (Or.inl ⟨by kernel_rfl, ?zy70006⟩) (by assumption) ?zr70006
          case zy70006 => (intro w hSw; (try dsimp only at hSw); go_simp; try with_reducible rfl)
          change wpAnyH _ _ _ _ _ _ _ (Act.put _ (some 20) _) _
          simp only [Act.put, List.setIfInBounds_toArray, List.set_cons_zero, List.set_cons_succ]
          refine wpAnyH_take (i := 1) (v := ?zv70007) rfl (by kernel_rfl) (by kernel_rfl) (by kernel_rfl) (fun _ _ _ h => h) (Or.inl ⟨by kernel_rfl, ?zy70007⟩) (by assumption) ?zr70007
          case zy70007 => (intro w hSw; (try dsimp only at hSw); go_simp; try with_reducible rfl)
          change wpAnyH _ _ _ _ _ _ _ (Act.put _ (some 21) _) _
          simp only [Act.put, List.setIfInBounds_toArray, List.set_cons_zero, List.set_cons_succ]
          refine wpAnyH_ready (rs := [2]) (by kernel_rfl) (by simp) (AllReadyH.cons rfl (fun K hK => ?_) AllReadyH.nil)
          go_simp
          go_at_call 36
          refine (CL.out _ (below_drew HB1.out)).mono ?_
          rintro e w2 ⟨rfl, hb2d⟩
          have hb2 : Below w1.heap.size w1 w2 := below_drew_l hb2d
          have KF2 := Lib.hid (KF1.out.below hb2 KF1.out.lt)
          have KZ2 := Lib.hid (KZ1.out.below hb2 KZ1.out.lt)
          have HB2 : Hid (Below w.heap.size w w2) := HB1.out.trans (hb2.mono HB1.out.size)
          clear hb2d hb2 k0 k1 k2 k3 k4 k5
          obtain ⟨k0, k1, k2, k3, k4, k5⟩ := feed_cells KF2.out
          refine hK.out _ _ (feed_cells KF2.out) (fun hHeld => ?_)
          clear hK K
          (try simp only [Act.put, List.setIfInBounds_toArray, List.set_cons_zero, List.set_cons_succ])
          refine wpAnyH_take (i := 3) (v := ?zv70008) rfl (by kernel_rfl) (by kernel_rfl) (by kernel_rfl) (fun _ _ _ h => h) (Or.inl ⟨by kernel_rfl, ?zy70008⟩) (by assumption) ?zr70008
          case zy70008 => (intro w hSw; (try dsimp only at hSw); go_simp; try with_reducible rfl)
          change wpAnyH _ _ _ _ _ _ _ (Act.put _ (some 23) _) _
          simp only [Act.put, List.setIfInBounds_toArray, List.set_cons_zero, List.set_cons_succ]
          refine wpAnyH_take (i := 4) (v := ?zv70009) rfl (by kernel_rfl) (by kernel_rfl) (by kernel_rfl) (fun _ _ _ h => h) (Or.inl ⟨by kernel_rfl, ?zy70009⟩) (by assumption) ?zr70009
          case zy70009 => (intro w hSw; (try dsimp only at hSw); go_simp; try with_reducible rfl)
          change wpAnyH _ _ _ _ _ _ _ (Act.put _ (some 24) _) _
          simp only [Act.put, List.setIfInBounds_toArray, List.set_cons_zero, List.set_cons_succ]
          refine wpAnyH_take (i := 5) (v := ?zv70010) rfl (by kernel_rfl) (by kernel_rfl) (by kernel_rfl) (fun _ _ _ h => h) (Or.inl ⟨by kernel_rfl, ?zy70010⟩) (by assumption) ?zr70010
          case zy70010 => (intro w hSw; (try dsimp only at hSw); go_simp; try with_reducible rfl)
          change wpAnyH _ _ _ _ _ _ _ (Act.put _ (some 25) _) _
          simp only [Act.put, List.setIfInBounds_toArray, List.set_cons_zero, List.set_cons_succ]
          refine wpAnyH_take (i := 6) (v := ?zv70011) rfl (by kernel_rfl) (by kernel_rfl) (by kernel_rfl) (fun _ _ _ h => h) (Or.inl ⟨by kernel_rfl, ?zy70011⟩) (by assumption) ?zr70011
          case zy70011 => (intro w hSw; (try dsimp only at hSw); go_simp; try with_reducible rfl)
          change wpAnyH _ _ _ _ _ _ _ (Act.put _ (some 26) _) _
          simp only [Act.put, List.setIfInBounds_toArray, List.set_cons_zero, List.set_cons_succ]
          refine wpAnyH_take (i := 7) (v := ?zv70012) rfl (by kernel_rfl) (by kernel_rfl) (by kernel_rfl) (fun _ _ _ h => h) (Or.inl ⟨by kernel_rfl, ?zy70012⟩) (by assumption) ?zr70012
          case zy70012 => (intro w hSw; (try dsimp only at hSw); go_simp; try with_reducible rfl)
          change wpAnyH _ _ _ _ _ _ _ (Act.put _ (some 27) _) _
          simp only [Act.put, List.setIfInBounds_toArray, List.set_cons_zero, List.set_cons_succ]
          refine wpAnyH_take (i := 8) (v := ?zv70013) rfl (by kernel_rfl) (by kernel_rfl) (by kernel_rfl) (fun _ _ _ h => h) (Or.inl ⟨by kernel_rfl, ?zy70013⟩) (by assumption) ?zr70013
          case zy70013 => (intro w hSw; (try dsimp only at hSw); go_simp; try with_reducible rfl)
          change wpAnyH _ _ _ _ _ _ _ (Act.put _ (some 28) _) _
          simp only [Act.put, List.setIfInBounds_toArray, List.set_cons_zero, List.set_cons_succ]
          refine wpAnyH_take (i := 9) (v := ?zv70014) rfl (by kernel_rfl) (by kernel_rfl) (by kernel_rfl) (fun _ _ _ h => h) (Or.inl ⟨by kernel_rfl, ?zy70014⟩) (by assumption) ?zr70014
          case zy70014 => (intro w hSw; (try dsimp only at hSw); go_simp; try with_reducible rfl)
          change wpAnyH _ _ _ _ _ _ _ (Act.put _ (some 29) _) _
          simp only [Act.put, List.setIfInBounds_toArray, List.set_cons_zero, List.set_cons_succ]
          refine wpAnyH_take (i := 10) (v := ?zv70015) rfl (by kernel_rfl) (by kernel_rfl) (by kernel_rfl) (fun _ _ _ h => h) (Or.inl ⟨by kernel_rfl, ?zy70015⟩) (by assumption) ?zr70015
          case zy70015 => (intro w hSw; (try dsimp only at hSw); go_simp; try with_reducible rfl)
          change wpAnyH _ _ _ _ _ _ _ (Act.put _ (some 30) _) _
          simp only [Act.put, List.setIfInBounds_toArray, List.set_cons_zero, List.set_cons_succ]
          refine wpAnyH_take (i := 11) (v := ?zv70016) rfl (by kernel_rfl) (by kernel_rfl) (by kernel_rfl) (fun _ _ _ h => h) (Or.inl ⟨by kernel_rfl, ?zy70016⟩) (by assumption) ?zr70016
          case zy70016 => (intro w hSw; (try dsimp only at hSw); go_simp; try with_reducible rfl)
          change wpAnyH _ _ _ _ _ _ _ (Act.put _ (some 31) _) _
          simp only [Act.put, List.setIfInBounds_toArray, List.set_cons_zero, List.set_cons_succ]
          refine wpAnyH_take (i := 12) (v := ?zv70017) rfl (by kernel_rfl) (by kernel_rfl) (by kernel_rfl) (fun _ _ _ h => h) (Or.inl ⟨by kernel_rfl, ?zy70017⟩) (by assumption) ?zr70017
          case zy70017 => (intro w hSw; (try dsimp only at hSw); go_simp; try with_reducible rfl)
          change wpAnyH _ _ _ _ _ _ _ (Act.put _ (some 32) _) _
          simp only [Act.put, List.setIfInBounds_toArray, List.set_cons_zero, List.set_cons_succ]
          refine wpAnyH_take (i := 14) (v := ?zv70018) rfl (by kernel_rfl) (by kernel_rfl) (by kernel_rfl) (fun _ _ _ h => h) (Or.inl ⟨by kernel_rfl, ?zy70018⟩) (by assumption) ?zr70018
          case zy70018 => (intro w hSw; (try dsimp only at hSw); go_simp; try with_reducible rfl)
          change wpAnyH _ _ _ _ _ _ _ (Act.put _ (some 34) _) _
          simp only [Act.put, List.setIfInBounds_toArray, List.set_cons_zero, List.set_cons_succ]
          refine wpAnyH_ready (rs := [13]) (by kernel_rfl) (by simp) (AllReadyH.cons rfl (fun K hK => ?_) AllReadyH.nil)
          go_simp
          go_at_call 15
          refine (text_any _ _ HT8.out).mono ?_
          rintro e ws ⟨rfl, rfl⟩
          refine hK.out _ _ (feed_cells KF2.out) (fun hHeld => ?_)
          clear hK K
          (try simp only [Act.put, List.setIfInBounds_toArray, List.set_cons_zero, List.set_cons_succ])
          refine wpAnyH_ready (rs := [15]) (by kernel_rfl) (by simp) (AllReadyH.cons rfl (fun K hK => ?_) AllReadyH.nil)
          go_simp
          go_at_call 14
          refine (CT.out _ HB2.out).mono ?_
          rintro e w3 ⟨rfl, hb3⟩
          have KF3 := Lib.hid (KF2.out.below hb3 KF2.out.lt)
          have KZ3 := Lib.hid (KZ2.out.below hb3 KZ2.out.lt)
          have HB3 : Hid (Below w.heap.size w w3) := HB2.out.trans (hb3.mono HB2.out.size)
          clear hb3 k0 k1 k2 k3 k4 k5
          obtain ⟨k0, k1, k2, k3, k4, k5⟩ := feed_cells KF3.out
          refine hK.out _ _ (feed_cells KF3.out) (fun hHeld => ?_)
          clear hK K
          (try simp only [Act.put, List.setIfInBounds_toArray, List.set_cons_zero, List.set_cons_succ])
          refine wpAnyH_take (i := 16) (v := ?zv70019) rfl (by kernel_rfl) (by kernel_rfl) (by kernel_rfl) (fun _ _ _ h => h) (Or.inl ⟨by kernel_rfl, ?zy70019⟩) (by assumption) ?zr70019
          case zy70019 => (intro w hSw; (try dsimp only at hSw); go_simp; try with_reducible rfl)
          change wpAnyH _ _ _ _ _ _ _ (Act.put _ (some 36) _) _
          simp only [Act.put, List.setIfInBounds_toArray, List.set_cons_zero, List.set_cons_succ]
          refine wpAnyH_take (i := 17) (v := ?zv70020) rfl (by kernel_rfl) (by kernel_rfl) (by kernel_rfl) (fun _ _ _ h => h) (Or.inl ⟨by kernel_rfl, ?zy70020⟩) (by assumption) ?zr70020
          case zy70020 => (intro w hSw; (try dsimp only at hSw); go_simp; try with_reducible rfl)
          change wpAnyH _ _ _ _ _ _ _ (Act.put _ (some 37) _) _
          simp only [Act.put, List.setIfInBounds_toArray, List.set_cons_zero, List.set_cons_succ]
          refine wpAnyH_done (by kernel_rfl) ?_ _
          go_wp2_with fail
          refine (CW.out _ HB3.out).mono ?_
          rintro e w4 ⟨X1, e1, X2, e2, rfl, ho4, hb4⟩
          rw [HNB.out, HNH.out]
          have KZ4 := Lib.hid (KZ3.out.below hb4 KZ3.out.lt)
          have HB4 : Hid (Below w.heap.size w w4) := HB3.out.trans (hb4.mono HB3.out.size)
          have HO4 := Lib.hid (ho4.base_le HB3.out.size)
          clear ho4 hb4 k0 k1 k2 k3 k4 k5
          obtain ⟨r0, r1, r2, r3, r4, r5⟩ := feed_cells KZ4.out
          have rf := blk_frozen KZ4.out
          go_wp2
          obtain ⟨Y, HY⟩ : ∃ Y, Hid (((((((w4.setCell ⟨w.heap.size + 1, 0, none⟩ (.int .i64 p)).setCell ⟨w.heap.size + 1, 1, none⟩ (.int .i64 (nb : Int))).setCell ⟨w.heap.size + 1, 2, none⟩ (.int .i64 d)).setCell ⟨w.heap.size + 1, 3, none⟩ (.int .i64 s)).setCell ⟨w.heap.size + 1, 4, none⟩ (.slice X1 nb e1)).setCell ⟨w.heap.size + 1, 5, none⟩ (.slice X2 nb e2)) = Y) := ⟨_, rfl⟩
          have HBY : Hid (Below w.heap.size w Y) := by rw [← HY.out]; exact below_six HB4.out (by omega) _ _ _ _ _ _
          have KRY : Hid (Blk Y (w.heap.size + 1) 28 (feedC p (nb : Int) d s X1 nb e1 X2 nb e2)) := by rw [← HY.out]; exact blk_six KZ4.out _ _ _ _ _ _
          have hoF : OwnFeed Y w.heap.size X1 e1 X2 e2 bs hs := by rw [← HY.out]; exact own_six HO4.out KZ4.out _ _ _ _ _ _
          rw [HY.out]
          obtain ⟨y0, y1, y2, y3, y4, y5⟩ := feed_cells KRY.out
          exact bodyPost_ret (v := .tuple #[feedV p (nb : Int) d s X1 nb e1 X2 nb e2, .bool false]) (by simp [results, Tryd.results10, go_sem, y0, y1, y2, y3, y4, y5]) rfl ⟨X1, e1, X2, e2, by rw [HPR.out, HPK.out]; show _ = Ending.returned (.tuple #[feedV p (nb : Int) d s X1 bs.length e1 X2 hs.length e2, .bool false]); rw [HNB.out, HNH.out], by rw [HPR.out]; exact hoF, HBY.out⟩
        | true =>
          have CB : Hid (∀ U, Below w.heap.size w U → Calls Tryd.prog 38 #[feedV p (nb : Int) d s A1 nb c1 A2 nb c2, .int .i64 (k : Int), .string t] U (FeedMade U p (nb : Int) d s (bs.set k t) (hs.set k true))) := fun U hU => withBlock_any p d s A1 c1 A2 c2 bs hs nb k t U (HF.out.belowS hU) hn16 HNB.out HNH.out hkn HT8.out
          rw [hTk] at CT
          cases hN : okB (putF ⟨p, (nb : Int), d, s, bs, hs⟩ k t) with
          | false =>
            have HPK : Hid (putOk ⟨p, (nb : Int), d, s, bs, hs⟩ (k : Int) t zs = false) := putOk_no fun h => by have h2 := h.2.2.2.2; rw [Int.toNat_natCast, hN] at h2; cases h2
            have HPR : Hid (putR ⟨p, (nb : Int), d, s, bs, hs⟩ (k : Int) t zs = ⟨p, (nb : Int), d, s, bs, hs⟩) := putR_no hO h8 HPK.out
            clear hO hL hTk h8 hn16 hi0 hi1 hi2
            go_enter Tryd.func10, Tryd.ntmps10
            go_upto_region 1 with fail
            rw [HW.out]
            go_wp2_with fail
            refine (CV.out _ HB.out).mono ?_
            rintro e w1 ⟨rfl, hb1⟩
            have KF1 := Lib.hid (KF.out.below hb1 KF.out.lt)
            have KZ1 := Lib.hid (KZ.out.below hb1 KZ.out.lt)
            have HB1 : Hid (Below w.heap.size w w1) := HB.out.trans (hb1.mono HB.out.size)
            clear hb1
            obtain ⟨k0, k1, k2, k3, k4, k5⟩ := feed_cells KF1.out
            go_upto_region 3 with fail
            (try go_wp2_with fail)
            refine wp_region_held_drew (S := (fun w' => w'.cell? ⟨w.heap.size, 0, none⟩ = some (.int .i64 p) ∧ w'.cell? ⟨w.heap.size, 1, none⟩ = some (.int .i64 (nb : Int)) ∧ w'.cell? ⟨w.heap.size, 2, none⟩ = some (.int .i64 d) ∧ w'.cell? ⟨w.heap.size, 3, none⟩ = some (.int .i64 s) ∧ w'.cell? ⟨w.heap.size, 4, none⟩ = some (.slice A1 nb c1) ∧ w'.cell? ⟨w.heap.size, 5, none⟩ = some (.slice A2 nb c2))) (by kernel_rfl) (feed_cells KF1.out) (fun hHeld => ?_)
            refine wpAnyH_take (i := 0) (v := ?zv70021) rfl (by kernel_rfl) (by kernel_rfl) (by kernel_rfl) (fun _ _ _ h => h) (Or.inl ⟨by kernel_rfl, ?zy70021⟩) (by assumption) ?zr70021
            case zy70021 => (intro w hSw; (try dsimp only at hSw); go_simp; try with_reducible rfl)
            change wpAnyH _ _ _ _ _ _ _ (Act.put _ (some 20) _) _
            simp only [Act.put, List.setIfInBounds_toArray, List.set_cons_zero, List.set_cons_succ]
            refine wpAnyH_take (i := 1) (v := ?zv70022) rfl (by kernel_rfl) (by kernel_rfl) (by kernel_rfl) (fun _ _ _ h => h) (Or.inl ⟨by kernel_rfl, ?zy70022⟩) (by assumption) ?zr70022
            case zy70022 => (intro w hSw; (try dsimp only at hSw); go_simp; try with_reducible rfl)
            change wpAnyH _ _ _ _ _ _ _ (Act.put _ (some 21) _) _
            simp only [Act.put, List.setIfInBounds_toArray, List.set_cons_zero, List.set_cons_succ]
            refine wpAnyH_ready (rs := [2]) (by kernel_rfl) (by simp) (AllReadyH.cons rfl (fun K hK => ?_) AllReadyH.nil)
            go_simp
            go_at_call 36
            refine (CL.out _ (below_drew HB1.out)).mono ?_
            rintro e w2 ⟨rfl, hb2d⟩
            have hb2 : Below w1.heap.size w1 w2 := below_drew_l hb2d
            have KF2 := Lib.hid (KF1.out.below hb2 KF1.out.lt)
            have KZ2 := Lib.hid (KZ1.out.below hb2 KZ1.out.lt)
            have HB2 : Hid (Below w.heap.size w w2) := HB1.out.trans (hb2.mono HB1.out.size)
            clear hb2d hb2 k0 k1 k2 k3 k4 k5
            obtain ⟨k0, k1, k2, k3, k4, k5⟩ := feed_cells KF2.out
            refine hK.out _ _ (feed_cells KF2.out) (fun hHeld => ?_)
            clear hK K
            (try simp only [Act.put, List.setIfInBounds_toArray, List.set_cons_zero, List.set_cons_succ])
            refine wpAnyH_take (i := 3) (v := ?zv70023) rfl (by kernel_rfl) (by kernel_rfl) (by kernel_rfl) (fun _ _ _ h => h) (Or.inl ⟨by kernel_rfl, ?zy70023⟩) (by assumption) ?zr70023
            case zy70023 => (intro w hSw; (try dsimp only at hSw); go_simp; try with_reducible rfl)
            change wpAnyH _ _ _ _ _ _ _ (Act.put _ (some 23) _) _
            simp only [Act.put, List.setIfInBounds_toArray, List.set_cons_zero, List.set_cons_succ]
            refine wpAnyH_take (i := 4) (v := ?zv70024) rfl (by kernel_rfl) (by kernel_rfl) (by kernel_rfl) (fun _ _ _ h => h) (Or.inl ⟨by kernel_rfl, ?zy70024⟩) (by assumption) ?zr70024
            case zy70024 => (intro w hSw; (try dsimp only at hSw); go_simp; try with_reducible rfl)
            change wpAnyH _ _ _ _ _ _ _ (Act.put _ (some 24) _) _
            simp only [Act.put, List.setIfInBounds_toArray, List.set_cons_zero, List.set_cons_succ]
            refine wpAnyH_take (i := 5) (v := ?zv70025) rfl (by kernel_rfl) (by kernel_rfl) (by kernel_rfl) (fun _ _ _ h => h) (Or.inl ⟨by kernel_rfl, ?zy70025⟩) (by assumption) ?zr70025
            case zy70025 => (intro w hSw; (try dsimp only at hSw); go_simp; try with_reducible rfl)
            change wpAnyH _ _ _ _ _ _ _ (Act.put _ (some 25) _) _
            simp only [Act.put, List.setIfInBounds_toArray, List.set_cons_zero, List.set_cons_succ]
            refine wpAnyH_take (i := 6) (v := ?zv70026) rfl (by kernel_rfl) (by kernel_rfl) (by kernel_rfl) (fun _ _ _ h => h) (Or.inl ⟨by kernel_rfl, ?zy70026⟩) (by assumption) ?zr70026
            case zy70026 => (intro w hSw; (try dsimp only at hSw); go_simp; try with_reducible rfl)
            change wpAnyH _ _ _ _ _ _ _ (Act.put _ (some 26) _) _
            simp only [Act.put, List.setIfInBounds_toArray, List.set_cons_zero, List.set_cons_succ]
            refine wpAnyH_take (i := 7) (v := ?zv70027) rfl (by kernel_rfl) (by kernel_rfl) (by kernel_rfl) (fun _ _ _ h => h) (Or.inl ⟨by kernel_rfl, ?zy70027⟩) (by assumption) ?zr70027
            case zy70027 => (intro w hSw; (try dsimp only at hSw); go_simp; try with_reducible rfl)
            change wpAnyH _ _ _ _ _ _ _ (Act.put _ (some 27) _) _
            simp only [Act.put, List.setIfInBounds_toArray, List.set_cons_zero, List.set_cons_succ]
            refine wpAnyH_take (i := 8) (v := ?zv70028) rfl (by kernel_rfl) (by kernel_rfl) (by kernel_rfl) (fun _ _ _ h => h) (Or.inl ⟨by kernel_rfl, ?zy70028⟩) (by assumption) ?zr70028
            case zy70028 => (intro w hSw; (try dsimp only at hSw); go_simp; try with_reducible rfl)
            change wpAnyH _ _ _ _ _ _ _ (Act.put _ (some 28) _) _
            simp only [Act.put, List.setIfInBounds_toArray, List.set_cons_zero, List.set_cons_succ]
            refine wpAnyH_take (i := 9) (v := ?zv70029) rfl (by kernel_rfl) (by kernel_rfl) (by kernel_rfl) (fun _ _ _ h => h) (Or.inl ⟨by kernel_rfl, ?zy70029⟩) (by assumption) ?zr70029
            case zy70029 => (intro w hSw; (try dsimp only at hSw); go_simp; try with_reducible rfl)
            change wpAnyH _ _ _ _ _ _ _ (Act.put _ (some 29) _) _
            simp only [Act.put, List.setIfInBounds_toArray, List.set_cons_zero, List.set_cons_succ]
            refine wpAnyH_take (i := 10) (v := ?zv70030) rfl (by kernel_rfl) (by kernel_rfl) (by kernel_rfl) (fun _ _ _ h => h) (Or.inl ⟨by kernel_rfl, ?zy70030⟩) (by assumption) ?zr70030
            case zy70030 => (intro w hSw; (try dsimp only at hSw); go_simp; try with_reducible rfl)
            change wpAnyH _ _ _ _ _ _ _ (Act.put _ (some 30) _) _
            simp only [Act.put, List.setIfInBounds_toArray, List.set_cons_zero, List.set_cons_succ]
            refine wpAnyH_take (i := 11) (v := ?zv70031) rfl (by kernel_rfl) (by kernel_rfl) (by kernel_rfl) (fun _ _ _ h => h) (Or.inl ⟨by kernel_rfl, ?zy70031⟩) (by assumption) ?zr70031
            case zy70031 => (intro w hSw; (try dsimp only at hSw); go_simp; try with_reducible rfl)
            change wpAnyH _ _ _ _ _ _ _ (Act.put _ (some 31) _) _
            simp only [Act.put, List.setIfInBounds_toArray, List.set_cons_zero, List.set_cons_succ]
            refine wpAnyH_take (i := 12) (v := ?zv70032) rfl (by kernel_rfl) (by kernel_rfl) (by kernel_rfl) (fun _ _ _ h => h) (Or.inl ⟨by kernel_rfl, ?zy70032⟩) (by assumption) ?zr70032
            case zy70032 => (intro w hSw; (try dsimp only at hSw); go_simp; try with_reducible rfl)
            change wpAnyH _ _ _ _ _ _ _ (Act.put _ (some 32) _) _
            simp only [Act.put, List.setIfInBounds_toArray, List.set_cons_zero, List.set_cons_succ]
            refine wpAnyH_take (i := 14) (v := ?zv70033) rfl (by kernel_rfl) (by kernel_rfl) (by kernel_rfl) (fun _ _ _ h => h) (Or.inl ⟨by kernel_rfl, ?zy70033⟩) (by assumption) ?zr70033
            case zy70033 => (intro w hSw; (try dsimp only at hSw); go_simp; try with_reducible rfl)
            change wpAnyH _ _ _ _ _ _ _ (Act.put _ (some 34) _) _
            simp only [Act.put, List.setIfInBounds_toArray, List.set_cons_zero, List.set_cons_succ]
            refine wpAnyH_ready (rs := [13]) (by kernel_rfl) (by simp) (AllReadyH.cons rfl (fun K hK => ?_) AllReadyH.nil)
            go_simp
            go_at_call 15
            refine (text_any _ _ HT8.out).mono ?_
            rintro e ws ⟨rfl, rfl⟩
            refine hK.out _ _ (feed_cells KF2.out) (fun hHeld => ?_)
            clear hK K
            (try simp only [Act.put, List.setIfInBounds_toArray, List.set_cons_zero, List.set_cons_succ])
            refine wpAnyH_ready (rs := [15]) (by kernel_rfl) (by simp) (AllReadyH.cons rfl (fun K hK => ?_) AllReadyH.nil)
            go_simp
            go_at_call 14
            refine (CT.out _ HB2.out).mono ?_
            rintro e w3 ⟨rfl, hb3⟩
            have KF3 := Lib.hid (KF2.out.below hb3 KF2.out.lt)
            have KZ3 := Lib.hid (KZ2.out.below hb3 KZ2.out.lt)
            have HB3 : Hid (Below w.heap.size w w3) := HB2.out.trans (hb3.mono HB2.out.size)
            clear hb3 k0 k1 k2 k3 k4 k5
            obtain ⟨k0, k1, k2, k3, k4, k5⟩ := feed_cells KF3.out
            refine hK.out _ _ (feed_cells KF3.out) (fun hHeld => ?_)
            clear hK K
            (try simp only [Act.put, List.setIfInBounds_toArray, List.set_cons_zero, List.set_cons_succ])
            refine wpAnyH_take (i := 16) (v := ?zv70034) rfl (by kernel_rfl) (by kernel_rfl) (by kernel_rfl) (fun _ _ _ h => h) (Or.inl ⟨by kernel_rfl, ?zy70034⟩) (by assumption) ?zr70034
            case zy70034 => (intro w hSw; (try dsimp only at hSw); go_simp; try with_reducible rfl)
            change wpAnyH _ _ _ _ _ _ _ (Act.put _ (some 36) _) _
            simp only [Act.put, List.setIfInBounds_toArray, List.set_cons_zero, List.set_cons_succ]
            refine wpAnyH_take (i := 17) (v := ?zv70035) rfl (by kernel_rfl) (by kernel_rfl) (by kernel_rfl) (fun _ _ _ h => h) (Or.inl ⟨by kernel_rfl, ?zy70035⟩) (by assumption) ?zr70035
            case zy70035 => (intro w hSw; (try dsimp only at hSw); go_simp; try with_reducible rfl)
            change wpAnyH _ _ _ _ _ _ _ (Act.put _ (some 37) _) _
            simp only [Act.put, List.setIfInBounds_toArray, List.set_cons_zero, List.set_cons_succ]
            refine wpAnyH_done (by kernel_rfl) ?_ _
            go_wp2_with fail
            refine (CB.out _ HB3.out).mono ?_
            rintro e w4 ⟨X1, e1, X2, e2, rfl, ho4, hb4⟩
            rw [List.length_set, List.length_set, HNB.out, HNH.out]
            have KF4 := Lib.hid (KF3.out.below hb4 KF3.out.lt)
            have KZ4 := Lib.hid (KZ3.out.below hb4 KZ3.out.lt)
            have HB4 : Hid (Below w.heap.size w w4) := HB3.out.trans (hb4.mono HB3.out.size)
            have HO4 := Lib.hid (ho4.base_le HB3.out.size)
            clear ho4 hb4 k0 k1 k2 k3 k4 k5
            obtain ⟨w5, HW5⟩ : ∃ Q0, Hid (w4.alloc (.cells (feedC p (nb : Int) d s X1 nb e1 X2 nb e2) 28) = Q0) := ⟨_, rfl⟩
            have hb5 : Below w4.heap.size w4 w5 := by rw [← HW5.out]; exact (Below.refl _ _).alloc (Nat.le_refl _) _
            have KN5 : Hid (Blk w5 w4.heap.size 28 (feedC p (nb : Int) d s X1 nb e1 X2 nb e2)) := by rw [← HW5.out]; exact Blk.new w4 _ _
            have KF5 := Lib.hid (KF4.out.below hb5 KF4.out.lt)
            have KZ5 := Lib.hid (KZ4.out.below hb5 KZ4.out.lt)
            have HB5 : Hid (Below w.heap.size w w5) := HB4.out.trans (hb5.mono HB4.out.size)
            have HO5 : Hid (OwnFeed w5 w.heap.size X1 e1 X2 e2 (bs.set k t) (hs.set k true)) := ⟨HO4.out.strs.below hb5, HO4.out.bits.below hb5, HO4.out.fit⟩
            clear hb5
            have CN : Hid (Calls Tryd.prog 13 #[feedV p (nb : Int) d s X1 nb e1 X2 nb e2] w5 fun e w' => e = .returned (.bool false) ∧ Below w5.heap.size w5 w') := by
              have h := feedValid_any p (nb : Int) d s X1 e1 X2 e2 (bs.set k t) (hs.set k true) w5 HO5.out.at_
              rw [List.length_set, List.length_set, HNB.out, HNH.out] at h
              rw [show okB ⟨p, (nb : Int), d, s, bs.set k t, hs.set k true⟩ = false from hN] at h
              exact h
            go_upto_region 6 with fail
            rw [HW5.out]
            obtain ⟨n0, n1, n2, n3, n4, n5⟩ := feed_cells KN5.out
            go_wp2_with fail
            refine CN.out.mono ?_
            rintro e w6 ⟨rfl, hb6⟩
            have KN6 := Lib.hid (KN5.out.below hb6 KN5.out.lt)
            have HO6 : Hid (OwnFeed w6 w.heap.size X1 e1 X2 e2 (bs.set k t) (hs.set k true)) := ⟨HO5.out.strs.below hb6, HO5.out.bits.below hb6, HO5.out.fit⟩
            have KF6 := Lib.hid (KF5.out.below hb6 KF5.out.lt)
            have KZ6 := Lib.hid (KZ5.out.below hb6 KZ5.out.lt)
            have HB6 : Hid (Below w.heap.size w w6) := HB5.out.trans (hb6.mono HB5.out.size)
            clear hb6 n0 n1 n2 n3 n4 n5
            obtain ⟨k0, k1, k2, k3, k4, k5⟩ := feed_cells KF6.out
            go_wp2_with fail
            refine (CW.out _ HB6.out).mono ?_
            rintro e w7 ⟨X1, e1, X2, e2, rfl, ho7, hb7⟩
            rw [HNB.out, HNH.out]
            have KZ7 := Lib.hid (KZ6.out.below hb7 KZ6.out.lt)
            have HB7 : Hid (Below w.heap.size w w7) := HB6.out.trans (hb7.mono HB6.out.size)
            have HO7 := Lib.hid (ho7.base_le HB6.out.size)
            clear ho7 hb7 k0 k1 k2 k3 k4 k5
            obtain ⟨r0, r1, r2, r3, r4, r5⟩ := feed_cells KZ7.out
            have rf := blk_frozen KZ7.out
            go_wp2
            obtain ⟨Y, HY⟩ : ∃ Y, Hid (((((((w7.setCell ⟨w.heap.size + 1, 0, none⟩ (.int .i64 p)).setCell ⟨w.heap.size + 1, 1, none⟩ (.int .i64 (nb : Int))).setCell ⟨w.heap.size + 1, 2, none⟩ (.int .i64 d)).setCell ⟨w.heap.size + 1, 3, none⟩ (.int .i64 s)).setCell ⟨w.heap.size + 1, 4, none⟩ (.slice X1 nb e1)).setCell ⟨w.heap.size + 1, 5, none⟩ (.slice X2 nb e2)) = Y) := ⟨_, rfl⟩
            have HBY : Hid (Below w.heap.size w Y) := by rw [← HY.out]; exact below_six HB7.out (by omega) _ _ _ _ _ _
            have KRY : Hid (Blk Y (w.heap.size + 1) 28 (feedC p (nb : Int) d s X1 nb e1 X2 nb e2)) := by rw [← HY.out]; exact blk_six KZ7.out _ _ _ _ _ _
            have hoF : OwnFeed Y w.heap.size X1 e1 X2 e2 bs hs := by rw [← HY.out]; exact own_six HO7.out KZ7.out _ _ _ _ _ _
            rw [HY.out]
            obtain ⟨y0, y1, y2, y3, y4, y5⟩ := feed_cells KRY.out
            exact bodyPost_ret (v := .tuple #[feedV p (nb : Int) d s X1 nb e1 X2 nb e2, .bool false]) (by simp [results, Tryd.results10, go_sem, y0, y1, y2, y3, y4, y5]) rfl ⟨X1, e1, X2, e2, by rw [HPR.out, HPK.out]; show _ = Ending.returned (.tuple #[feedV p (nb : Int) d s X1 bs.length e1 X2 hs.length e2, .bool false]); rw [HNB.out, HNH.out], by rw [HPR.out]; exact hoF, HBY.out⟩
          | true =>
            have hpk : putOk ⟨p, (nb : Int), d, s, bs, hs⟩ (k : Int) t zs = true := (putOk_iff _ _ _ _).2 ⟨hO, h8, hL, hTk, by rw [Int.toNat_natCast]; exact hN⟩
            have HPK : Hid (putOk ⟨p, (nb : Int), d, s, bs, hs⟩ (k : Int) t zs = true) := hpk
            have HPR : Hid (putR ⟨p, (nb : Int), d, s, bs, hs⟩ (k : Int) t zs = ⟨p, (nb : Int), d, s, bs.set k t, hs.set k true⟩) := by show _ = _; rw [putR_yes hpk, Int.toNat_natCast]; rfl
            clear hO hL hTk h8 hn16 hi0 hi1 hi2 hpk
            go_enter Tryd.func10, Tryd.ntmps10
            go_upto_region 1 with fail
            rw [HW.out]
            go_wp2_with fail
            refine (CV.out _ HB.out).mono ?_
            rintro e w1 ⟨rfl, hb1⟩
            have KF1 := Lib.hid (KF.out.below hb1 KF.out.lt)
            have KZ1 := Lib.hid (KZ.out.below hb1 KZ.out.lt)
            have HB1 : Hid (Below w.heap.size w w1) := HB.out.trans (hb1.mono HB.out.size)
            clear hb1
            obtain ⟨k0, k1, k2, k3, k4, k5⟩ := feed_cells KF1.out
            go_upto_region 3 with fail
            (try go_wp2_with fail)
            refine wp_region_held_drew (S := (fun w' => w'.cell? ⟨w.heap.size, 0, none⟩ = some (.int .i64 p) ∧ w'.cell? ⟨w.heap.size, 1, none⟩ = some (.int .i64 (nb : Int)) ∧ w'.cell? ⟨w.heap.size, 2, none⟩ = some (.int .i64 d) ∧ w'.cell? ⟨w.heap.size, 3, none⟩ = some (.int .i64 s) ∧ w'.cell? ⟨w.heap.size, 4, none⟩ = some (.slice A1 nb c1) ∧ w'.cell? ⟨w.heap.size, 5, none⟩ = some (.slice A2 nb c2))) (by kernel_rfl) (feed_cells KF1.out) (fun hHeld => ?_)
            refine wpAnyH_take (i := 0) (v := ?zv70036) rfl (by kernel_rfl) (by kernel_rfl) (by kernel_rfl) (fun _ _ _ h => h) (Or.inl ⟨by kernel_rfl, ?zy70036⟩) (by assumption) ?zr70036
            case zy70036 => (intro w hSw; (try dsimp only at hSw); go_simp; try with_reducible rfl)
            change wpAnyH _ _ _ _ _ _ _ (Act.put _ (some 20) _) _
            simp only [Act.put, List.setIfInBounds_toArray, List.set_cons_zero, List.set_cons_succ]
            refine wpAnyH_take (i := 1) (v := ?zv70037) rfl (by kernel_rfl) (by kernel_rfl) (by kernel_rfl) (fun _ _ _ h => h) (Or.inl ⟨by kernel_rfl, ?zy70037⟩) (by assumption) ?zr70037
            case zy70037 => (intro w hSw; (try dsimp only at hSw); go_simp; try with_reducible rfl)
            change wpAnyH _ _ _ _ _ _ _ (Act.put _ (some 21) _) _
            simp only [Act.put, List.setIfInBounds_toArray, List.set_cons_zero, List.set_cons_succ]
            refine wpAnyH_ready (rs := [2]) (by kernel_rfl) (by simp) (AllReadyH.cons rfl (fun K hK => ?_) AllReadyH.nil)
            go_simp
            go_at_call 36
            refine (CL.out _ (below_drew HB1.out)).mono ?_
            rintro e w2 ⟨rfl, hb2d⟩
            have hb2 : Below w1.heap.size w1 w2 := below_drew_l hb2d
            have KF2 := Lib.hid (KF1.out.below hb2 KF1.out.lt)
            have KZ2 := Lib.hid (KZ1.out.below hb2 KZ1.out.lt)
            have HB2 : Hid (Below w.heap.size w w2) := HB1.out.trans (hb2.mono HB1.out.size)
            clear hb2d hb2 k0 k1 k2 k3 k4 k5
            obtain ⟨k0, k1, k2, k3, k4, k5⟩ := feed_cells KF2.out
            refine hK.out _ _ (feed_cells KF2.out) (fun hHeld => ?_)
            clear hK K
            (try simp only [Act.put, List.setIfInBounds_toArray, List.set_cons_zero, List.set_cons_succ])
            refine wpAnyH_take (i := 3) (v := ?zv70038) rfl (by kernel_rfl) (by kernel_rfl) (by kernel_rfl) (fun _ _ _ h => h) (Or.inl ⟨by kernel_rfl, ?zy70038⟩) (by assumption) ?zr70038
            case zy70038 => (intro w hSw; (try dsimp only at hSw); go_simp; try with_reducible rfl)
            change wpAnyH _ _ _ _ _ _ _ (Act.put _ (some 23) _) _
            simp only [Act.put, List.setIfInBounds_toArray, List.set_cons_zero, List.set_cons_succ]
            refine wpAnyH_take (i := 4) (v := ?zv70039) rfl (by kernel_rfl) (by kernel_rfl) (by kernel_rfl) (fun _ _ _ h => h) (Or.inl ⟨by kernel_rfl, ?zy70039⟩) (by assumption) ?zr70039
            case zy70039 => (intro w hSw; (try dsimp only at hSw); go_simp; try with_reducible rfl)
            change wpAnyH _ _ _ _ _ _ _ (Act.put _ (some 24) _) _
            simp only [Act.put, List.setIfInBounds_toArray, List.set_cons_zero, List.set_cons_succ]
            refine wpAnyH_take (i := 5) (v := ?zv70040) rfl (by kernel_rfl) (by kernel_rfl) (by kernel_rfl) (fun _ _ _ h => h) (Or.inl ⟨by kernel_rfl, ?zy70040⟩) (by assumption) ?zr70040
            case zy70040 => (intro w hSw; (try dsimp only at hSw); go_simp; try with_reducible rfl)
            change wpAnyH _ _ _ _ _ _ _ (Act.put _ (some 25) _) _
            simp only [Act.put, List.setIfInBounds_toArray, List.set_cons_zero, List.set_cons_succ]
            refine wpAnyH_take (i := 6) (v := ?zv70041) rfl (by kernel_rfl) (by kernel_rfl) (by kernel_rfl) (fun _ _ _ h => h) (Or.inl ⟨by kernel_rfl, ?zy70041⟩) (by assumption) ?zr70041
            case zy70041 => (intro w hSw; (try dsimp only at hSw); go_simp; try with_reducible rfl)
            change wpAnyH _ _ _ _ _ _ _ (Act.put _ (some 26) _) _
            simp only [Act.put, List.setIfInBounds_toArray, List.set_cons_zero, List.set_cons_succ]
            refine wpAnyH_take (i := 7) (v := ?zv70042) rfl (by kernel_rfl) (by kernel_rfl) (by kernel_rfl) (fun _ _ _ h => h) (Or.inl ⟨by kernel_rfl, ?zy70042⟩) (by assumption) ?zr70042
            case zy70042 => (intro w hSw; (try dsimp only at hSw); go_simp; try with_reducible rfl)
            change wpAnyH _ _ _ _ _ _ _ (Act.put _ (some 27) _) _
            simp only [Act.put, List.setIfInBounds_toArray, List.set_cons_zero, List.set_cons_succ]
            refine wpAnyH_take (i := 8) (v := ?zv70043) rfl (by kernel_rfl) (by kernel_rfl) (by kernel_rfl) (fun _ _ _ h => h) (Or.inl ⟨by kernel_rfl, ?zy70043⟩) (by assumption) ?zr70043
            case zy70043 => (intro w hSw; (try dsimp only at hSw); go_simp; try with_reducible rfl)
            change wpAnyH _ _ _ _ _ _ _ (Act.put _ (some 28) _) _
            simp only [Act.put, List.setIfInBounds_toArray, List.set_cons_zero, List.set_cons_succ]
            refine wpAnyH_take (i := 9) (v := ?zv70044) rfl (by kernel_rfl) (by kernel_rfl) (by kernel_rfl) (fun _ _ _ h => h) (Or.inl ⟨by kernel_rfl, ?zy70044⟩) (by assumption) ?zr70044
            case zy70044 => (intro w hSw; (try dsimp only at hSw); go_simp; try with_reducible rfl)
            change wpAnyH _ _ _ _ _ _ _ (Act.put _ (some 29) _) _
            simp only [Act.put, List.setIfInBounds_toArray, List.set_cons_zero, List.set_cons_succ]
            refine wpAnyH_take (i := 10) (v := ?zv70045) rfl (by kernel_rfl) (by kernel_rfl) (by kernel_rfl) (fun _ _ _ h => h) (Or.inl ⟨by kernel_rfl, ?zy70045⟩) (by assumption) ?zr70045
            case zy70045 => (intro w hSw; (try dsimp only at hSw); go_simp; try with_reducible rfl)
            change wpAnyH _ _ _ _ _ _ _ (Act.put _ (some 30) _) _
            simp only [Act.put, List.setIfInBounds_toArray, List.set_cons_zero, List.set_cons_succ]
            refine wpAnyH_take (i := 11) (v := ?zv70046) rfl (by kernel_rfl) (by kernel_rfl) (by kernel_rfl) (fun _ _ _ h => h) (Or.inl ⟨by kernel_rfl, ?zy70046⟩) (by assumption) ?zr70046
            case zy70046 => (intro w hSw; (try dsimp only at hSw); go_simp; try with_reducible rfl)
            change wpAnyH _ _ _ _ _ _ _ (Act.put _ (some 31) _) _
            simp only [Act.put, List.setIfInBounds_toArray, List.set_cons_zero, List.set_cons_succ]
            refine wpAnyH_take (i := 12) (v := ?zv70047) rfl (by kernel_rfl) (by kernel_rfl) (by kernel_rfl) (fun _ _ _ h => h) (Or.inl ⟨by kernel_rfl, ?zy70047⟩) (by assumption) ?zr70047
            case zy70047 => (intro w hSw; (try dsimp only at hSw); go_simp; try with_reducible rfl)
            change wpAnyH _ _ _ _ _ _ _ (Act.put _ (some 32) _) _
            simp only [Act.put, List.setIfInBounds_toArray, List.set_cons_zero, List.set_cons_succ]
            refine wpAnyH_take (i := 14) (v := ?zv70048) rfl (by kernel_rfl) (by kernel_rfl) (by kernel_rfl) (fun _ _ _ h => h) (Or.inl ⟨by kernel_rfl, ?zy70048⟩) (by assumption) ?zr70048
            case zy70048 => (intro w hSw; (try dsimp only at hSw); go_simp; try with_reducible rfl)
            change wpAnyH _ _ _ _ _ _ _ (Act.put _ (some 34) _) _
            simp only [Act.put, List.setIfInBounds_toArray, List.set_cons_zero, List.set_cons_succ]
            refine wpAnyH_ready (rs := [13]) (by kernel_rfl) (by simp) (AllReadyH.cons rfl (fun K hK => ?_) AllReadyH.nil)
            go_simp
            go_at_call 15
            refine (text_any _ _ HT8.out).mono ?_
            rintro e ws ⟨rfl, rfl⟩
            refine hK.out _ _ (feed_cells KF2.out) (fun hHeld => ?_)
            clear hK K
            (try simp only [Act.put, List.setIfInBounds_toArray, List.set_cons_zero, List.set_cons_succ])
            refine wpAnyH_ready (rs := [15]) (by kernel_rfl) (by simp) (AllReadyH.cons rfl (fun K hK => ?_) AllReadyH.nil)
            go_simp
            go_at_call 14
            refine (CT.out _ HB2.out).mono ?_
            rintro e w3 ⟨rfl, hb3⟩
            have KF3 := Lib.hid (KF2.out.below hb3 KF2.out.lt)
            have KZ3 := Lib.hid (KZ2.out.below hb3 KZ2.out.lt)
            have HB3 : Hid (Below w.heap.size w w3) := HB2.out.trans (hb3.mono HB2.out.size)
            clear hb3 k0 k1 k2 k3 k4 k5
            obtain ⟨k0, k1, k2, k3, k4, k5⟩ := feed_cells KF3.out
            refine hK.out _ _ (feed_cells KF3.out) (fun hHeld => ?_)
            clear hK K
            (try simp only [Act.put, List.setIfInBounds_toArray, List.set_cons_zero, List.set_cons_succ])
            refine wpAnyH_take (i := 16) (v := ?zv70049) rfl (by kernel_rfl) (by kernel_rfl) (by kernel_rfl) (fun _ _ _ h => h) (Or.inl ⟨by kernel_rfl, ?zy70049⟩) (by assumption) ?zr70049
            case zy70049 => (intro w hSw; (try dsimp only at hSw); go_simp; try with_reducible rfl)
            change wpAnyH _ _ _ _ _ _ _ (Act.put _ (some 36) _) _
            simp only [Act.put, List.setIfInBounds_toArray, List.set_cons_zero, List.set_cons_succ]
            refine wpAnyH_take (i := 17) (v := ?zv70050) rfl (by kernel_rfl) (by kernel_rfl) (by kernel_rfl) (fun _ _ _ h => h) (Or.inl ⟨by kernel_rfl, ?zy70050⟩) (by assumption) ?zr70050
            case zy70050 => (intro w hSw; (try dsimp only at hSw); go_simp; try with_reducible rfl)
            change wpAnyH _ _ _ _ _ _ _ (Act.put _ (some 37) _) _
            simp only [Act.put, List.setIfInBounds_toArray, List.set_cons_zero, List.set_cons_succ]
            refine wpAnyH_done (by kernel_rfl) ?_ _
            go_wp2_with fail
            refine (CB.out _ HB3.out).mono ?_
            rintro e w4 ⟨X1, e1, X2, e2, rfl, ho4, hb4⟩
            rw [List.length_set, List.length_set, HNB.out, HNH.out]
            have KF4 := Lib.hid (KF3.out.below hb4 KF3.out.lt)
            have KZ4 := Lib.hid (KZ3.out.below hb4 KZ3.out.lt)
            have HB4 : Hid (Below w.heap.size w w4) := HB3.out.trans (hb4.mono HB3.out.size)
            have HO4 := Lib.hid (ho4.base_le HB3.out.size)
            clear ho4 hb4 k0 k1 k2 k3 k4 k5
            obtain ⟨w5, HW5⟩ : ∃ Q0, Hid (w4.alloc (.cells (feedC p (nb : Int) d s X1 nb e1 X2 nb e2) 28) = Q0) := ⟨_, rfl⟩
            have hb5 : Below w4.heap.size w4 w5 := by rw [← HW5.out]; exact (Below.refl _ _).alloc (Nat.le_refl _) _
            have KN5 : Hid (Blk w5 w4.heap.size 28 (feedC p (nb : Int) d s X1 nb e1 X2 nb e2)) := by rw [← HW5.out]; exact Blk.new w4 _ _
            have KF5 := Lib.hid (KF4.out.below hb5 KF4.out.lt)
            have KZ5 := Lib.hid (KZ4.out.below hb5 KZ4.out.lt)
            have HB5 : Hid (Below w.heap.size w w5) := HB4.out.trans (hb5.mono HB4.out.size)
            have HO5 : Hid (OwnFeed w5 w.heap.size X1 e1 X2 e2 (bs.set k t) (hs.set k true)) := ⟨HO4.out.strs.below hb5, HO4.out.bits.below hb5, HO4.out.fit⟩
            clear hb5
            have CN : Hid (Calls Tryd.prog 13 #[feedV p (nb : Int) d s X1 nb e1 X2 nb e2] w5 fun e w' => e = .returned (.bool true) ∧ Below w5.heap.size w5 w') := by
              have h := feedValid_any p (nb : Int) d s X1 e1 X2 e2 (bs.set k t) (hs.set k true) w5 HO5.out.at_
              rw [List.length_set, List.length_set, HNB.out, HNH.out] at h
              rw [show okB ⟨p, (nb : Int), d, s, bs.set k t, hs.set k true⟩ = true from hN] at h
              exact h
            go_upto_region 6 with fail
            rw [HW5.out]
            obtain ⟨n0, n1, n2, n3, n4, n5⟩ := feed_cells KN5.out
            go_wp2_with fail
            refine CN.out.mono ?_
            rintro e w6 ⟨rfl, hb6⟩
            have KN6 := Lib.hid (KN5.out.below hb6 KN5.out.lt)
            have HO6 : Hid (OwnFeed w6 w.heap.size X1 e1 X2 e2 (bs.set k t) (hs.set k true)) := ⟨HO5.out.strs.below hb6, HO5.out.bits.below hb6, HO5.out.fit⟩
            have KF6 := Lib.hid (KF5.out.below hb6 KF5.out.lt)
            have KZ6 := Lib.hid (KZ5.out.below hb6 KZ5.out.lt)
            have HB6 : Hid (Below w.heap.size w w6) := HB5.out.trans (hb6.mono HB5.out.size)
            clear hb6 n0 n1 n2 n3 n4 n5
            obtain ⟨n0, n1, n2, n3, n4, n5⟩ := feed_cells KN6.out
            obtain ⟨r0, r1, r2, r3, r4, r5⟩ := feed_cells KZ6.out
            have rf := blk_frozen KZ6.out
            go_wp2
            obtain ⟨Y, HY⟩ : ∃ Y, Hid (((((((w6.setCell ⟨w.heap.size + 1, 0, none⟩ (.int .i64 p)).setCell ⟨w.heap.size + 1, 1, none⟩ (.int .i64 (nb : Int))).setCell ⟨w.heap.size + 1, 2, none⟩ (.int .i64 d)).setCell ⟨w.heap.size + 1, 3, none⟩ (.int .i64 s)).setCell ⟨w.heap.size + 1, 4, none⟩ (.slice X1 nb e1)).setCell ⟨w.heap.size + 1, 5, none⟩ (.slice X2 nb e2)) = Y) := ⟨_, rfl⟩
            have HBY : Hid (Below w.heap.size w Y) := by rw [← HY.out]; exact below_six HB6.out (by omega) _ _ _ _ _ _
            have KRY : Hid (Blk Y (w.heap.size + 1) 28 (feedC p (nb : Int) d s X1 nb e1 X2 nb e2)) := by rw [← HY.out]; exact blk_six KZ6.out _ _ _ _ _ _
            have hoF : OwnFeed Y w.heap.size X1 e1 X2 e2 (bs.set k t) (hs.set k true) := by rw [← HY.out]; exact own_six HO6.out KZ6.out _ _ _ _ _ _
            rw [HY.out]
            obtain ⟨y0, y1, y2, y3, y4, y5⟩ := feed_cells KRY.out
            exact bodyPost_ret (v := .tuple #[feedV p (nb : Int) d s X1 nb e1 X2 nb e2, .bool true]) (by simp [results, Tryd.results10, go_sem, y0, y1, y2, y3, y4, y5]) rfl ⟨X1, e1, X2, e2, by rw [HPR.out, HPK.out]; show _ = Ending.returned (.tuple #[feedV p (nb : Int) d s X1 (bs.set k t).length e1 X2 (hs.set k true).length e2, .bool true]); rw [List.length_set, List.length_set, HNB.out, HNH.out], by rw [HPR.out]; exact hoF, HBY.out⟩
    · have h8i : (8 : Int) < (t.size : Int) := by omega
      have HPK : Hid (putOk ⟨p, (nb : Int), d, s, bs, hs⟩ i t zs = false) := putOk_no fun h => h8 h.2.1
      have HPR : Hid (putR ⟨p, (nb : Int), d, s, bs, hs⟩ i t zs = zeroF) := putR_inv fun h => h8 h.2
      clear hO CL CT h8 hn16
      go_enter Tryd.func10, Tryd.ntmps10
      go_upto_region 1 with fail
      rw [HW.out]
      go_wp2_with fail
      refine (CV.out _ HB.out).mono ?_
      rintro e w1 ⟨rfl, hb1⟩
      have KF1 := Lib.hid (KF.out.below hb1 KF.out.lt)
      have KZ1 := Lib.hid (KZ.out.below hb1 KZ.out.lt)
      have HB1 : Hid (Below w.heap.size w w1) := HB.out.trans (hb1.mono HB.out.size)
      clear hb1
      obtain ⟨r0, r1, r2, r3, r4, r5⟩ := feed_cells KZ1.out
      have rf := blk_frozen KZ1.out
      go_wp2
      obtain ⟨Y, HY⟩ : ∃ Y, Hid (((((((w1.setCell ⟨w.heap.size + 1, 0, none⟩ (.int .i64 0)).setCell ⟨w.heap.size + 1, 1, none⟩ (.int .i64 0)).setCell ⟨w.heap.size + 1, 2, none⟩ (.int .i64 0)).setCell ⟨w.heap.size + 1, 3, none⟩ (.int .i64 0)).setCell ⟨w.heap.size + 1, 4, none⟩ (.slice none 0 0)).setCell ⟨w.heap.size + 1, 5, none⟩ (.slice none 0 0)) = Y) := ⟨_, rfl⟩
      have HBY : Hid (Below w.heap.size w Y) := by rw [← HY.out]; exact below_six HB1.out (by omega) _ _ _ _ _ _
      have KRY : Hid (Blk Y (w.heap.size + 1) 28 (feedC 0 0 0 0 none 0 0 none 0 0)) := by rw [← HY.out]; exact blk_six KZ1.out _ _ _ _ _ _
      have hoF : OwnFeed Y w.heap.size none 0 none 0 [] [] := ⟨⟨rfl, .inl ⟨rfl, rfl⟩⟩, ⟨rfl, .inl ⟨rfl, rfl⟩⟩, fun k => Nat.zero_le _⟩
      rw [HY.out]
      obtain ⟨y0, y1, y2, y3, y4, y5⟩ := feed_cells KRY.out
      exact bodyPost_ret (v := .tuple #[feedV 0 0 0 0 none 0 0 none 0 0, .bool false]) (by simp [results, Tryd.results10, go_sem, y0, y1, y2, y3, y4, y5]) rfl ⟨none, 0, none, 0, by rw [HPR.out, HPK.out]; rfl, by rw [HPR.out]; exact hoF, HBY.out⟩

end Go.Proofs.YtgklkceoafohmaaDoor
