/- Contracts of ForkMeet and of its model: the proof that the heads of two feeds give, or nothing. Condition: the feeds lie in memory. -/
import Derived.Test.YtpcjlilfcpfmcaaFork
import Derived.Test.YtpcjlilfcpfmcaaDrawFork
import Derived.Test.YtpcjlilfcpfmcaaSFeedValid
namespace Go.Proofs.Ytpcjlilfcpfmcaa
open Go.RowKit
set_option linter.unusedVariables false

/-- Do two feeds give a proof? -/
def meetB (f g : FD) : Bool := okB f && (okB g && (decide (f.p = g.p) && forkB f.p f.l f.d f.s g.l g.d g.s))
theorem meetB_iff (f g : FD) : meetB f g = true ↔ okB f = true ∧ okB g = true ∧ f.p = g.p ∧ forkB f.p f.l f.d f.s g.l g.d g.s = true := by
  unfold meetB; simp only [Bool.and_eq_true, decide_eq_true_eq]
theorem meetB_no {f g : FD} (h : ¬ (okB f = true ∧ okB g = true ∧ f.p = g.p ∧ forkB f.p f.l f.d f.s g.l g.d g.s = true)) : meetB f g = false := by
  rw [Bool.eq_false_iff]; exact fun e => h ((meetB_iff f g).1 e)
theorem meetB_swap {f g : FD} (h : meetB f g = true) : meetB g f = true := by
  obtain ⟨h1, h2, h3, h4⟩ := (meetB_iff _ _).1 h
  refine (meetB_iff _ _).2 ⟨h2, h1, h3.symm, ?_⟩
  rw [← h3, forkB_swap]; exact h4
/-- The proof that they give. -/
def meetV (R : Bool) (p l d s m i t : Int) : Value := match R with | true => forkV p l d s m i t | false => forkV 0 0 0 0 0 0 0
theorem meetV_yes (p l d s m i t : Int) : meetV true p l d s m i t = forkV p l d s m i t := rfl
theorem meetV_no (p l d s m i t : Int) : meetV false p l d s m i t = forkV 0 0 0 0 0 0 0 := rfl

set_option maxHeartbeats 8000000 in
set_option maxRecDepth 100000 in
theorem forkMeet_any (p l d s : Int) (A1 : Option Addr) (c1 : Nat) (A2 : Option Addr) (c2 : Nat) (bs : List ByteArray) (hs : List Bool) (q m i t : Int) (A3 : Option Addr) (c3 : Nat) (A4 : Option Addr) (c4 : Nat) (cs : List ByteArray) (ks : List Bool) (w : World) (hF : FeedAt w w.heap.size A1 A2 bs hs) (hG : FeedAt w w.heap.size A3 A4 cs ks) :
    Calls Try.prog 14 #[feedV p l d s A1 bs.length c1 A2 hs.length c2, feedV q m i t A3 cs.length c3 A4 ks.length c4] w fun e w' => e = .returned (.tuple #[meetV (meetB ⟨p, l, d, s, bs, hs⟩ ⟨q, m, i, t, cs, ks⟩) p l d s m i t, .bool (meetB ⟨p, l, d, s, bs, hs⟩ ⟨q, m, i, t, cs, ks⟩)]) ∧ Below w.heap.size w w' := by
  have HF := Lib.hid hF
  have HG := Lib.hid hG
  have CF : Hid (∀ U, Below w.heap.size w U → Calls Try.prog 34 #[feedV p l d s A1 bs.length c1 A2 hs.length c2] U fun e w' => e = .returned (.bool (okB ⟨p, l, d, s, bs, hs⟩)) ∧ Below U.heap.size U w') := fun U hU => feedValid_any p l d s A1 c1 A2 c2 bs hs U (HF.out.belowS hU)
  have CG : Hid (∀ U, Below w.heap.size w U → Calls Try.prog 34 #[feedV q m i t A3 cs.length c3 A4 ks.length c4] U fun e w' => e = .returned (.bool (okB ⟨q, m, i, t, cs, ks⟩)) ∧ Below U.heap.size U w') := fun U hU => feedValid_any q m i t A3 c3 A4 c4 cs ks U (HG.out.belowS hU)
  clear hF hG
  obtain ⟨nb, HNB⟩ : ∃ n, Hid (bs.length = n) := ⟨_, rfl⟩
  obtain ⟨nh, HNH⟩ : ∃ n, Hid (hs.length = n) := ⟨_, rfl⟩
  obtain ⟨nc, HNC⟩ : ∃ n, Hid (cs.length = n) := ⟨_, rfl⟩
  obtain ⟨nk, HNK⟩ : ∃ n, Hid (ks.length = n) := ⟨_, rfl⟩
  rw [HNB.out, HNH.out] at CF
  rw [HNC.out, HNK.out] at CG
  rw [HNB.out, HNH.out, HNC.out, HNK.out]
  obtain ⟨W, HW⟩ : ∃ W, Hid (((w.alloc (.cells (feedC p l d s A1 nb c1 A2 nh c2) 34)).alloc (.cells (feedC q m i t A3 nc c3 A4 nk c4) 34)).alloc (.cells (forkC 0 0 0 0 0 0 0) 26) = W) := ⟨_, rfl⟩
  have KF : Hid (Blk W w.heap.size 34 (feedC p l d s A1 nb c1 A2 nh c2)) := by rw [← HW.out]; exact ((Blk.new w _ _).alloc _).alloc _
  have KG : Hid (Blk W (w.heap.size + 1) 34 (feedC q m i t A3 nc c3 A4 nk c4)) := by
    rw [← HW.out]
    have h := (Blk.new (w.alloc (.cells (feedC p l d s A1 nb c1 A2 nh c2) 34)) 34 (feedC q m i t A3 nc c3 A4 nk c4)).alloc (.cells (forkC 0 0 0 0 0 0 0) 26)
    rw [World.size_alloc] at h
    exact h
  have KR : Hid (Blk W (w.heap.size + 1 + 1) 26 (forkC 0 0 0 0 0 0 0)) := by
    rw [← HW.out]
    have h := Blk.new ((w.alloc (.cells (feedC p l d s A1 nb c1 A2 nh c2) 34)).alloc (.cells (feedC q m i t A3 nc c3 A4 nk c4) 34)) 26 (forkC 0 0 0 0 0 0 0)
    rw [World.size_alloc, World.size_alloc] at h
    exact h
  have HB : Hid (Below w.heap.size w W) := by rw [← HW.out]; exact (((Below.refl _ w).alloc (Nat.le_refl _) _).alloc (by simp) _).alloc (by simp; omega) _
  cases h1 : okB ⟨p, l, d, s, bs, hs⟩ with
  | false =>
    rw [h1] at CF
    have HM : Hid (meetB ⟨p, l, d, s, bs, hs⟩ ⟨q, m, i, t, cs, ks⟩ = false) := meetB_no fun k => by rw [h1] at k; cases k.1
    clear h1
    obtain ⟨k0, k1, k2, k3, k4, k5⟩ := feed_cells KF.out
    obtain ⟨j0, j1, j2, j3, j4, j5⟩ := feed_cells KG.out
    go_enter Try.func14, Try.ntmps14
    go_wp2_with fail
    rw [HW.out]
    refine (CF.out _ HB.out).mono ?_
    rintro e w1 ⟨rfl, hb1⟩
    have KR1 := Lib.hid (KR.out.below hb1 KR.out.lt)
    have HB1 : Hid (Below w.heap.size w w1) := HB.out.trans (hb1.mono HB.out.size)
    clear hb1 k0 k1 k2 k3 k4 k5 j0 j1 j2 j3 j4 j5
    obtain ⟨z0, z1, z2, z3, z4, z5, z6⟩ := fork_cells KR1.out
    have zf := blk_frozen KR1.out
    go_wp2
    obtain ⟨Y9, HY9⟩ : ∃ Y9, Hid ((((((((w1.setCell ⟨w.heap.size + 1 + 1, 0, none⟩ (.int .i64 0)).setCell ⟨w.heap.size + 1 + 1, 1, none⟩ (.int .i64 0)).setCell ⟨w.heap.size + 1 + 1, 2, none⟩ (.int .i64 0)).setCell ⟨w.heap.size + 1 + 1, 3, none⟩ (.int .i64 0)).setCell ⟨w.heap.size + 1 + 1, 4, none⟩ (.int .i64 0)).setCell ⟨w.heap.size + 1 + 1, 5, none⟩ (.int .i64 0)).setCell ⟨w.heap.size + 1 + 1, 6, none⟩ (.int .i64 0)) = Y9) := ⟨_, rfl⟩
    have HBY : Hid (Below w.heap.size w Y9) := by rw [← HY9.out]; exact below_seven HB1.out (by omega) _ _ _ _ _ _ _
    have KRY : Hid (Blk Y9 (w.heap.size + 1 + 1) 26 (forkC 0 0 0 0 0 0 0)) := by rw [← HY9.out]; exact blk_seven KR1.out _ _ _ _ _ _ _
    rw [HY9.out]
    obtain ⟨y0, y1, y2, y3, y4, y5, y6⟩ := fork_cells KRY.out
    exact bodyPost_ret (v := .tuple #[forkV 0 0 0 0 0 0 0, .bool false]) (by simp [results, Try.results14, go_sem, y0, y1, y2, y3, y4, y5, y6]) rfl ⟨by rw [HM.out]; rfl, HBY.out⟩
  | true =>
    rw [h1] at CF
    cases h2 : okB ⟨q, m, i, t, cs, ks⟩ with
    | false =>
      rw [h2] at CG
      have HM : Hid (meetB ⟨p, l, d, s, bs, hs⟩ ⟨q, m, i, t, cs, ks⟩ = false) := meetB_no fun k => by rw [h2] at k; cases k.2.1
      clear h1 h2
      obtain ⟨k0, k1, k2, k3, k4, k5⟩ := feed_cells KF.out
      obtain ⟨j0, j1, j2, j3, j4, j5⟩ := feed_cells KG.out
      go_enter Try.func14, Try.ntmps14
      go_wp2_with fail
      rw [HW.out]
      refine (CF.out _ HB.out).mono ?_
      rintro e w1 ⟨rfl, hb1⟩
      have KR1 := Lib.hid (KR.out.below hb1 KR.out.lt)
      have KF1 := Lib.hid (KF.out.below hb1 KF.out.lt)
      have KG1 := Lib.hid (KG.out.below hb1 KG.out.lt)
      have HB1 : Hid (Below w.heap.size w w1) := HB.out.trans (hb1.mono HB.out.size)
      clear hb1 k0 k1 k2 k3 k4 k5 j0 j1 j2 j3 j4 j5
      obtain ⟨k0, k1, k2, k3, k4, k5⟩ := feed_cells KF1.out
      obtain ⟨j0, j1, j2, j3, j4, j5⟩ := feed_cells KG1.out
      go_wp2_with fail
      refine (CG.out _ HB1.out).mono ?_
      rintro e w2 ⟨rfl, hb2⟩
      have KR2 := Lib.hid (KR1.out.below hb2 KR1.out.lt)
      have KF2 := Lib.hid (KF1.out.below hb2 KF1.out.lt)
      have KG2 := Lib.hid (KG1.out.below hb2 KG1.out.lt)
      have HB2 : Hid (Below w.heap.size w w2) := HB1.out.trans (hb2.mono HB1.out.size)
      clear hb2 k0 k1 k2 k3 k4 k5 j0 j1 j2 j3 j4 j5
      obtain ⟨k0, k1, k2, k3, k4, k5⟩ := feed_cells KF2.out
      obtain ⟨j0, j1, j2, j3, j4, j5⟩ := feed_cells KG2.out
      obtain ⟨z0, z1, z2, z3, z4, z5, z6⟩ := fork_cells KR2.out
      have zf := blk_frozen KR2.out
      go_wp2
      obtain ⟨Y9, HY9⟩ : ∃ Y9, Hid ((((((((w2.setCell ⟨w.heap.size + 1 + 1, 0, none⟩ (.int .i64 0)).setCell ⟨w.heap.size + 1 + 1, 1, none⟩ (.int .i64 0)).setCell ⟨w.heap.size + 1 + 1, 2, none⟩ (.int .i64 0)).setCell ⟨w.heap.size + 1 + 1, 3, none⟩ (.int .i64 0)).setCell ⟨w.heap.size + 1 + 1, 4, none⟩ (.int .i64 0)).setCell ⟨w.heap.size + 1 + 1, 5, none⟩ (.int .i64 0)).setCell ⟨w.heap.size + 1 + 1, 6, none⟩ (.int .i64 0)) = Y9) := ⟨_, rfl⟩
      have HBY : Hid (Below w.heap.size w Y9) := by rw [← HY9.out]; exact below_seven HB2.out (by omega) _ _ _ _ _ _ _
      have KRY : Hid (Blk Y9 (w.heap.size + 1 + 1) 26 (forkC 0 0 0 0 0 0 0)) := by rw [← HY9.out]; exact blk_seven KR2.out _ _ _ _ _ _ _
      rw [HY9.out]
      obtain ⟨y0, y1, y2, y3, y4, y5, y6⟩ := fork_cells KRY.out
      exact bodyPost_ret (v := .tuple #[forkV 0 0 0 0 0 0 0, .bool false]) (by simp [results, Try.results14, go_sem, y0, y1, y2, y3, y4, y5, y6]) rfl ⟨by rw [HM.out]; rfl, HBY.out⟩
    | true =>
      rw [h2] at CG
      by_cases hp : p = q
      · subst hp
        cases h3 : forkB p l d s m i t with
        | false =>
          have HM : Hid (meetB ⟨p, l, d, s, bs, hs⟩ ⟨p, m, i, t, cs, ks⟩ = false) := meetB_no fun k => by have h4 : forkB p l d s m i t = true := k.2.2.2; rw [h3] at h4; cases h4
          have H3 := Lib.hid h3
          clear h1 h2 h3
          obtain ⟨k0, k1, k2, k3, k4, k5⟩ := feed_cells KF.out
          obtain ⟨j0, j1, j2, j3, j4, j5⟩ := feed_cells KG.out
          go_enter Try.func14, Try.ntmps14
          go_wp2_with fail
          rw [HW.out]
          refine (CF.out _ HB.out).mono ?_
          rintro e w1 ⟨rfl, hb1⟩
          have KR1 := Lib.hid (KR.out.below hb1 KR.out.lt)
          have KF1 := Lib.hid (KF.out.below hb1 KF.out.lt)
          have KG1 := Lib.hid (KG.out.below hb1 KG.out.lt)
          have HB1 : Hid (Below w.heap.size w w1) := HB.out.trans (hb1.mono HB.out.size)
          clear hb1 k0 k1 k2 k3 k4 k5 j0 j1 j2 j3 j4 j5
          obtain ⟨k0, k1, k2, k3, k4, k5⟩ := feed_cells KF1.out
          obtain ⟨j0, j1, j2, j3, j4, j5⟩ := feed_cells KG1.out
          go_wp2_with fail
          refine (CG.out _ HB1.out).mono ?_
          rintro e w2 ⟨rfl, hb2⟩
          have KR2 := Lib.hid (KR1.out.below hb2 KR1.out.lt)
          have KF2 := Lib.hid (KF1.out.below hb2 KF1.out.lt)
          have KG2 := Lib.hid (KG1.out.below hb2 KG1.out.lt)
          have HB2 : Hid (Below w.heap.size w w2) := HB1.out.trans (hb2.mono HB1.out.size)
          clear hb2 k0 k1 k2 k3 k4 k5 j0 j1 j2 j3 j4 j5
          obtain ⟨k0, k1, k2, k3, k4, k5⟩ := feed_cells KF2.out
          obtain ⟨j0, j1, j2, j3, j4, j5⟩ := feed_cells KG2.out
          obtain ⟨U, HU⟩ : ∃ U, Hid (w2.alloc (.cells (forkC p l d s m i t) 26) = U) := ⟨_, rfl⟩
          have KRU : Hid (Blk U (w.heap.size + 1 + 1) 26 (forkC 0 0 0 0 0 0 0)) := by rw [← HU.out]; exact KR2.out.alloc _
          have KXU : Hid (Blk U w2.heap.size 26 (forkC p l d s m i t)) := by rw [← HU.out]; exact Blk.new w2 _ _
          have HBU : Hid (Below w.heap.size w U) := by rw [← HU.out]; exact HB2.out.alloc HB2.out.size _
          go_wp2_with fail
          rw [HU.out]
          refine (forkCheck_any p l d s m i t _).mono ?_
          rintro e w3 ⟨rfl, hb3⟩
          rw [H3.out]
          have KR3 := Lib.hid (KRU.out.below hb3 KRU.out.lt)
          have KX3 := Lib.hid (KXU.out.below hb3 KXU.out.lt)
          have HB3 : Hid (Below w.heap.size w w3) := HBU.out.trans (hb3.mono HBU.out.size)
          clear hb3 k0 k1 k2 k3 k4 k5 j0 j1 j2 j3 j4 j5
          obtain ⟨x0, x1, x2, x3, x4, x5, x6⟩ := fork_cells KX3.out
          obtain ⟨z0, z1, z2, z3, z4, z5, z6⟩ := fork_cells KR3.out
          have zf := blk_frozen KR3.out
          go_wp2
          obtain ⟨Y9, HY9⟩ : ∃ Y9, Hid ((((((((w3.setCell ⟨w.heap.size + 1 + 1, 0, none⟩ (.int .i64 0)).setCell ⟨w.heap.size + 1 + 1, 1, none⟩ (.int .i64 0)).setCell ⟨w.heap.size + 1 + 1, 2, none⟩ (.int .i64 0)).setCell ⟨w.heap.size + 1 + 1, 3, none⟩ (.int .i64 0)).setCell ⟨w.heap.size + 1 + 1, 4, none⟩ (.int .i64 0)).setCell ⟨w.heap.size + 1 + 1, 5, none⟩ (.int .i64 0)).setCell ⟨w.heap.size + 1 + 1, 6, none⟩ (.int .i64 0)) = Y9) := ⟨_, rfl⟩
          have HBY : Hid (Below w.heap.size w Y9) := by rw [← HY9.out]; exact below_seven HB3.out (by omega) _ _ _ _ _ _ _
          have KRY : Hid (Blk Y9 (w.heap.size + 1 + 1) 26 (forkC 0 0 0 0 0 0 0)) := by rw [← HY9.out]; exact blk_seven KR3.out _ _ _ _ _ _ _
          rw [HY9.out]
          obtain ⟨y0, y1, y2, y3, y4, y5, y6⟩ := fork_cells KRY.out
          exact bodyPost_ret (v := .tuple #[forkV 0 0 0 0 0 0 0, .bool false]) (by simp [results, Try.results14, go_sem, y0, y1, y2, y3, y4, y5, y6]) rfl ⟨by rw [HM.out]; rfl, HBY.out⟩
        | true =>
          have HM : Hid (meetB ⟨p, l, d, s, bs, hs⟩ ⟨p, m, i, t, cs, ks⟩ = true) := (meetB_iff _ _).2 ⟨h1, h2, rfl, h3⟩
          have H3 := Lib.hid h3
          clear h1 h2 h3
          obtain ⟨k0, k1, k2, k3, k4, k5⟩ := feed_cells KF.out
          obtain ⟨j0, j1, j2, j3, j4, j5⟩ := feed_cells KG.out
          go_enter Try.func14, Try.ntmps14
          go_wp2_with fail
          rw [HW.out]
          refine (CF.out _ HB.out).mono ?_
          rintro e w1 ⟨rfl, hb1⟩
          have KR1 := Lib.hid (KR.out.below hb1 KR.out.lt)
          have KF1 := Lib.hid (KF.out.below hb1 KF.out.lt)
          have KG1 := Lib.hid (KG.out.below hb1 KG.out.lt)
          have HB1 : Hid (Below w.heap.size w w1) := HB.out.trans (hb1.mono HB.out.size)
          clear hb1 k0 k1 k2 k3 k4 k5 j0 j1 j2 j3 j4 j5
          obtain ⟨k0, k1, k2, k3, k4, k5⟩ := feed_cells KF1.out
          obtain ⟨j0, j1, j2, j3, j4, j5⟩ := feed_cells KG1.out
          go_wp2_with fail
          refine (CG.out _ HB1.out).mono ?_
          rintro e w2 ⟨rfl, hb2⟩
          have KR2 := Lib.hid (KR1.out.below hb2 KR1.out.lt)
          have KF2 := Lib.hid (KF1.out.below hb2 KF1.out.lt)
          have KG2 := Lib.hid (KG1.out.below hb2 KG1.out.lt)
          have HB2 : Hid (Below w.heap.size w w2) := HB1.out.trans (hb2.mono HB1.out.size)
          clear hb2 k0 k1 k2 k3 k4 k5 j0 j1 j2 j3 j4 j5
          obtain ⟨k0, k1, k2, k3, k4, k5⟩ := feed_cells KF2.out
          obtain ⟨j0, j1, j2, j3, j4, j5⟩ := feed_cells KG2.out
          obtain ⟨U, HU⟩ : ∃ U, Hid (w2.alloc (.cells (forkC p l d s m i t) 26) = U) := ⟨_, rfl⟩
          have KRU : Hid (Blk U (w.heap.size + 1 + 1) 26 (forkC 0 0 0 0 0 0 0)) := by rw [← HU.out]; exact KR2.out.alloc _
          have KXU : Hid (Blk U w2.heap.size 26 (forkC p l d s m i t)) := by rw [← HU.out]; exact Blk.new w2 _ _
          have HBU : Hid (Below w.heap.size w U) := by rw [← HU.out]; exact HB2.out.alloc HB2.out.size _
          go_wp2_with fail
          rw [HU.out]
          refine (forkCheck_any p l d s m i t _).mono ?_
          rintro e w3 ⟨rfl, hb3⟩
          rw [H3.out]
          have KR3 := Lib.hid (KRU.out.below hb3 KRU.out.lt)
          have KX3 := Lib.hid (KXU.out.below hb3 KXU.out.lt)
          have HB3 : Hid (Below w.heap.size w w3) := HBU.out.trans (hb3.mono HBU.out.size)
          clear hb3 k0 k1 k2 k3 k4 k5 j0 j1 j2 j3 j4 j5
          obtain ⟨x0, x1, x2, x3, x4, x5, x6⟩ := fork_cells KX3.out
          obtain ⟨z0, z1, z2, z3, z4, z5, z6⟩ := fork_cells KR3.out
          have zf := blk_frozen KR3.out
          go_wp2
          obtain ⟨Y9, HY9⟩ : ∃ Y9, Hid ((((((((w3.setCell ⟨w.heap.size + 1 + 1, 0, none⟩ (.int .i64 p)).setCell ⟨w.heap.size + 1 + 1, 1, none⟩ (.int .i64 l)).setCell ⟨w.heap.size + 1 + 1, 2, none⟩ (.int .i64 d)).setCell ⟨w.heap.size + 1 + 1, 3, none⟩ (.int .i64 s)).setCell ⟨w.heap.size + 1 + 1, 4, none⟩ (.int .i64 m)).setCell ⟨w.heap.size + 1 + 1, 5, none⟩ (.int .i64 i)).setCell ⟨w.heap.size + 1 + 1, 6, none⟩ (.int .i64 t)) = Y9) := ⟨_, rfl⟩
          have HBY : Hid (Below w.heap.size w Y9) := by rw [← HY9.out]; exact below_seven HB3.out (by omega) _ _ _ _ _ _ _
          have KRY : Hid (Blk Y9 (w.heap.size + 1 + 1) 26 (forkC p l d s m i t)) := by rw [← HY9.out]; exact blk_seven KR3.out _ _ _ _ _ _ _
          rw [HY9.out]
          obtain ⟨y0, y1, y2, y3, y4, y5, y6⟩ := fork_cells KRY.out
          exact bodyPost_ret (v := .tuple #[forkV p l d s m i t, .bool true]) (by simp [results, Try.results14, go_sem, y0, y1, y2, y3, y4, y5, y6]) rfl ⟨by rw [HM.out]; rfl, HBY.out⟩
      · have HM : Hid (meetB ⟨p, l, d, s, bs, hs⟩ ⟨q, m, i, t, cs, ks⟩ = false) := meetB_no fun k => hp k.2.2.1
        have hpn : (p != q) = true := bne_iff_ne.2 hp
        have hpn2 : (p == q) = false := beq_eq_false_iff_ne.2 hp
        clear h1 h2
        obtain ⟨k0, k1, k2, k3, k4, k5⟩ := feed_cells KF.out
        obtain ⟨j0, j1, j2, j3, j4, j5⟩ := feed_cells KG.out
        go_enter Try.func14, Try.ntmps14
        go_wp2_with fail
        rw [HW.out]
        refine (CF.out _ HB.out).mono ?_
        rintro e w1 ⟨rfl, hb1⟩
        have KR1 := Lib.hid (KR.out.below hb1 KR.out.lt)
        have KF1 := Lib.hid (KF.out.below hb1 KF.out.lt)
        have KG1 := Lib.hid (KG.out.below hb1 KG.out.lt)
        have HB1 : Hid (Below w.heap.size w w1) := HB.out.trans (hb1.mono HB.out.size)
        clear hb1 k0 k1 k2 k3 k4 k5 j0 j1 j2 j3 j4 j5
        obtain ⟨k0, k1, k2, k3, k4, k5⟩ := feed_cells KF1.out
        obtain ⟨j0, j1, j2, j3, j4, j5⟩ := feed_cells KG1.out
        go_wp2_with fail
        refine (CG.out _ HB1.out).mono ?_
        rintro e w2 ⟨rfl, hb2⟩
        have KR2 := Lib.hid (KR1.out.below hb2 KR1.out.lt)
        have KF2 := Lib.hid (KF1.out.below hb2 KF1.out.lt)
        have KG2 := Lib.hid (KG1.out.below hb2 KG1.out.lt)
        have HB2 : Hid (Below w.heap.size w w2) := HB1.out.trans (hb2.mono HB1.out.size)
        clear hb2 k0 k1 k2 k3 k4 k5 j0 j1 j2 j3 j4 j5
        obtain ⟨k0, k1, k2, k3, k4, k5⟩ := feed_cells KF2.out
        obtain ⟨j0, j1, j2, j3, j4, j5⟩ := feed_cells KG2.out
        obtain ⟨z0, z1, z2, z3, z4, z5, z6⟩ := fork_cells KR2.out
        have zf := blk_frozen KR2.out
        go_wp2
        obtain ⟨Y9, HY9⟩ : ∃ Y9, Hid ((((((((w2.setCell ⟨w.heap.size + 1 + 1, 0, none⟩ (.int .i64 0)).setCell ⟨w.heap.size + 1 + 1, 1, none⟩ (.int .i64 0)).setCell ⟨w.heap.size + 1 + 1, 2, none⟩ (.int .i64 0)).setCell ⟨w.heap.size + 1 + 1, 3, none⟩ (.int .i64 0)).setCell ⟨w.heap.size + 1 + 1, 4, none⟩ (.int .i64 0)).setCell ⟨w.heap.size + 1 + 1, 5, none⟩ (.int .i64 0)).setCell ⟨w.heap.size + 1 + 1, 6, none⟩ (.int .i64 0)) = Y9) := ⟨_, rfl⟩
        have HBY : Hid (Below w.heap.size w Y9) := by rw [← HY9.out]; exact below_seven HB2.out (by omega) _ _ _ _ _ _ _
        have KRY : Hid (Blk Y9 (w.heap.size + 1 + 1) 26 (forkC 0 0 0 0 0 0 0)) := by rw [← HY9.out]; exact blk_seven KR2.out _ _ _ _ _ _ _
        rw [HY9.out]
        obtain ⟨y0, y1, y2, y3, y4, y5, y6⟩ := fork_cells KRY.out
        exact bodyPost_ret (v := .tuple #[forkV 0 0 0 0 0 0 0, .bool false]) (by simp [results, Try.results14, go_sem, y0, y1, y2, y3, y4, y5, y6]) rfl ⟨by rw [HM.out]; rfl, HBY.out⟩

set_option maxHeartbeats 8000000 in
set_option maxRecDepth 100000 in
theorem sforkMeet_any (p l d s : Int) (A1 : Option Addr) (c1 : Nat) (A2 : Option Addr) (c2 : Nat) (bs : List ByteArray) (hs : List Bool) (q m i t : Int) (A3 : Option Addr) (c3 : Nat) (A4 : Option Addr) (c4 : Nat) (cs : List ByteArray) (ks : List Bool) (w : World) (hF : FeedAt w w.heap.size A1 A2 bs hs) (hG : FeedAt w w.heap.size A3 A4 cs ks) :
    Calls Try.prog 15 #[feedV p l d s A1 bs.length c1 A2 hs.length c2, feedV q m i t A3 cs.length c3 A4 ks.length c4] w fun e w' => e = .returned (.tuple #[meetV (meetB ⟨p, l, d, s, bs, hs⟩ ⟨q, m, i, t, cs, ks⟩) p l d s m i t, .bool (meetB ⟨p, l, d, s, bs, hs⟩ ⟨q, m, i, t, cs, ks⟩)]) ∧ Below w.heap.size w w' := by
  have HF := Lib.hid hF
  have HG := Lib.hid hG
  have CF : Hid (∀ U, Below w.heap.size w U → Calls Try.prog 16 #[feedV p l d s A1 bs.length c1 A2 hs.length c2] U fun e w' => e = .returned (.bool (okB ⟨p, l, d, s, bs, hs⟩)) ∧ Below U.heap.size U w') := fun U hU => sfeedValid_any p l d s A1 c1 A2 c2 bs hs U (HF.out.belowS hU)
  have CG : Hid (∀ U, Below w.heap.size w U → Calls Try.prog 16 #[feedV q m i t A3 cs.length c3 A4 ks.length c4] U fun e w' => e = .returned (.bool (okB ⟨q, m, i, t, cs, ks⟩)) ∧ Below U.heap.size U w') := fun U hU => sfeedValid_any q m i t A3 c3 A4 c4 cs ks U (HG.out.belowS hU)
  clear hF hG
  obtain ⟨nb, HNB⟩ : ∃ n, Hid (bs.length = n) := ⟨_, rfl⟩
  obtain ⟨nh, HNH⟩ : ∃ n, Hid (hs.length = n) := ⟨_, rfl⟩
  obtain ⟨nc, HNC⟩ : ∃ n, Hid (cs.length = n) := ⟨_, rfl⟩
  obtain ⟨nk, HNK⟩ : ∃ n, Hid (ks.length = n) := ⟨_, rfl⟩
  rw [HNB.out, HNH.out] at CF
  rw [HNC.out, HNK.out] at CG
  rw [HNB.out, HNH.out, HNC.out, HNK.out]
  obtain ⟨W, HW⟩ : ∃ W, Hid ((((w.alloc (.cells (feedC p l d s A1 nb c1 A2 nh c2) 34)).alloc (.cells (feedC q m i t A3 nc c3 A4 nk c4) 34)).alloc (.cells (forkC 0 0 0 0 0 0 0) 26)).alloc (.cells (forkC p l d s m i t) 26) = W) := ⟨_, rfl⟩
  have KF : Hid (Blk W w.heap.size 34 (feedC p l d s A1 nb c1 A2 nh c2)) := by rw [← HW.out]; exact (((Blk.new w _ _).alloc _).alloc _).alloc _
  have KG : Hid (Blk W (w.heap.size + 1) 34 (feedC q m i t A3 nc c3 A4 nk c4)) := by
    rw [← HW.out]
    have h := ((Blk.new (w.alloc (.cells (feedC p l d s A1 nb c1 A2 nh c2) 34)) 34 (feedC q m i t A3 nc c3 A4 nk c4)).alloc (.cells (forkC 0 0 0 0 0 0 0) 26)).alloc (.cells (forkC p l d s m i t) 26)
    rw [World.size_alloc] at h
    exact h
  have KR : Hid (Blk W (w.heap.size + 1 + 1) 26 (forkC 0 0 0 0 0 0 0)) := by
    rw [← HW.out]
    have h := (Blk.new ((w.alloc (.cells (feedC p l d s A1 nb c1 A2 nh c2) 34)).alloc (.cells (feedC q m i t A3 nc c3 A4 nk c4) 34)) 26 (forkC 0 0 0 0 0 0 0)).alloc (.cells (forkC p l d s m i t) 26)
    rw [World.size_alloc, World.size_alloc] at h
    exact h
  have KX : Hid (Blk W (w.heap.size + 1 + 1 + 1) 26 (forkC p l d s m i t)) := by
    rw [← HW.out]
    have h := Blk.new (((w.alloc (.cells (feedC p l d s A1 nb c1 A2 nh c2) 34)).alloc (.cells (feedC q m i t A3 nc c3 A4 nk c4) 34)).alloc (.cells (forkC 0 0 0 0 0 0 0) 26)) 26 (forkC p l d s m i t)
    rw [World.size_alloc, World.size_alloc, World.size_alloc] at h
    exact h
  have HB : Hid (Below w.heap.size w W) := by rw [← HW.out]; exact ((((Below.refl _ w).alloc (Nat.le_refl _) _).alloc (by simp) _).alloc (by simp; omega) _).alloc (by simp; omega) _
  cases h1 : okB ⟨p, l, d, s, bs, hs⟩ with
  | false =>
    rw [h1] at CF
    have HM : Hid (meetB ⟨p, l, d, s, bs, hs⟩ ⟨q, m, i, t, cs, ks⟩ = false) := meetB_no fun k => by rw [h1] at k; cases k.1
    clear h1
    obtain ⟨k0, k1, k2, k3, k4, k5⟩ := feed_cells KF.out
    obtain ⟨j0, j1, j2, j3, j4, j5⟩ := feed_cells KG.out
    go_enter Try.func15, Try.ntmps15
    go_wp2_with fail
    rw [HW.out]
    refine (CF.out _ HB.out).mono ?_
    rintro e w1 ⟨rfl, hb1⟩
    have KR1 := Lib.hid (KR.out.below hb1 KR.out.lt)
    have HB1 : Hid (Below w.heap.size w w1) := HB.out.trans (hb1.mono HB.out.size)
    clear hb1 k0 k1 k2 k3 k4 k5 j0 j1 j2 j3 j4 j5
    obtain ⟨z0, z1, z2, z3, z4, z5, z6⟩ := fork_cells KR1.out
    have zf := blk_frozen KR1.out
    go_wp2
    obtain ⟨Y9, HY9⟩ : ∃ Y9, Hid ((((((((w1.setCell ⟨w.heap.size + 1 + 1, 0, none⟩ (.int .i64 0)).setCell ⟨w.heap.size + 1 + 1, 1, none⟩ (.int .i64 0)).setCell ⟨w.heap.size + 1 + 1, 2, none⟩ (.int .i64 0)).setCell ⟨w.heap.size + 1 + 1, 3, none⟩ (.int .i64 0)).setCell ⟨w.heap.size + 1 + 1, 4, none⟩ (.int .i64 0)).setCell ⟨w.heap.size + 1 + 1, 5, none⟩ (.int .i64 0)).setCell ⟨w.heap.size + 1 + 1, 6, none⟩ (.int .i64 0)) = Y9) := ⟨_, rfl⟩
    have HBY : Hid (Below w.heap.size w Y9) := by rw [← HY9.out]; exact below_seven HB1.out (by omega) _ _ _ _ _ _ _
    have KRY : Hid (Blk Y9 (w.heap.size + 1 + 1) 26 (forkC 0 0 0 0 0 0 0)) := by rw [← HY9.out]; exact blk_seven KR1.out _ _ _ _ _ _ _
    rw [HY9.out]
    obtain ⟨y0, y1, y2, y3, y4, y5, y6⟩ := fork_cells KRY.out
    exact bodyPost_ret (v := .tuple #[forkV 0 0 0 0 0 0 0, .bool false]) (by simp [results, Try.results15, go_sem, y0, y1, y2, y3, y4, y5, y6]) rfl ⟨by rw [HM.out]; rfl, HBY.out⟩
  | true =>
    rw [h1] at CF
    cases h2 : okB ⟨q, m, i, t, cs, ks⟩ with
    | false =>
      rw [h2] at CG
      have HM : Hid (meetB ⟨p, l, d, s, bs, hs⟩ ⟨q, m, i, t, cs, ks⟩ = false) := meetB_no fun k => by rw [h2] at k; cases k.2.1
      clear h1 h2
      obtain ⟨k0, k1, k2, k3, k4, k5⟩ := feed_cells KF.out
      obtain ⟨j0, j1, j2, j3, j4, j5⟩ := feed_cells KG.out
      go_enter Try.func15, Try.ntmps15
      go_wp2_with fail
      rw [HW.out]
      refine (CF.out _ HB.out).mono ?_
      rintro e w1 ⟨rfl, hb1⟩
      have KR1 := Lib.hid (KR.out.below hb1 KR.out.lt)
      have KF1 := Lib.hid (KF.out.below hb1 KF.out.lt)
      have KG1 := Lib.hid (KG.out.below hb1 KG.out.lt)
      have KX1 := Lib.hid (KX.out.below hb1 KX.out.lt)
      have HB1 : Hid (Below w.heap.size w w1) := HB.out.trans (hb1.mono HB.out.size)
      clear hb1 k0 k1 k2 k3 k4 k5 j0 j1 j2 j3 j4 j5
      obtain ⟨k0, k1, k2, k3, k4, k5⟩ := feed_cells KF1.out
      obtain ⟨j0, j1, j2, j3, j4, j5⟩ := feed_cells KG1.out
      go_wp2_with fail
      refine (CG.out _ HB1.out).mono ?_
      rintro e w2 ⟨rfl, hb2⟩
      have KR2 := Lib.hid (KR1.out.below hb2 KR1.out.lt)
      have KF2 := Lib.hid (KF1.out.below hb2 KF1.out.lt)
      have KG2 := Lib.hid (KG1.out.below hb2 KG1.out.lt)
      have KX2 := Lib.hid (KX1.out.below hb2 KX1.out.lt)
      have HB2 : Hid (Below w.heap.size w w2) := HB1.out.trans (hb2.mono HB1.out.size)
      clear hb2 k0 k1 k2 k3 k4 k5 j0 j1 j2 j3 j4 j5
      obtain ⟨k0, k1, k2, k3, k4, k5⟩ := feed_cells KF2.out
      obtain ⟨j0, j1, j2, j3, j4, j5⟩ := feed_cells KG2.out
      obtain ⟨z0, z1, z2, z3, z4, z5, z6⟩ := fork_cells KR2.out
      have zf := blk_frozen KR2.out
      go_wp2
      obtain ⟨Y9, HY9⟩ : ∃ Y9, Hid ((((((((w2.setCell ⟨w.heap.size + 1 + 1, 0, none⟩ (.int .i64 0)).setCell ⟨w.heap.size + 1 + 1, 1, none⟩ (.int .i64 0)).setCell ⟨w.heap.size + 1 + 1, 2, none⟩ (.int .i64 0)).setCell ⟨w.heap.size + 1 + 1, 3, none⟩ (.int .i64 0)).setCell ⟨w.heap.size + 1 + 1, 4, none⟩ (.int .i64 0)).setCell ⟨w.heap.size + 1 + 1, 5, none⟩ (.int .i64 0)).setCell ⟨w.heap.size + 1 + 1, 6, none⟩ (.int .i64 0)) = Y9) := ⟨_, rfl⟩
      have HBY : Hid (Below w.heap.size w Y9) := by rw [← HY9.out]; exact below_seven HB2.out (by omega) _ _ _ _ _ _ _
      have KRY : Hid (Blk Y9 (w.heap.size + 1 + 1) 26 (forkC 0 0 0 0 0 0 0)) := by rw [← HY9.out]; exact blk_seven KR2.out _ _ _ _ _ _ _
      rw [HY9.out]
      obtain ⟨y0, y1, y2, y3, y4, y5, y6⟩ := fork_cells KRY.out
      exact bodyPost_ret (v := .tuple #[forkV 0 0 0 0 0 0 0, .bool false]) (by simp [results, Try.results15, go_sem, y0, y1, y2, y3, y4, y5, y6]) rfl ⟨by rw [HM.out]; rfl, HBY.out⟩
    | true =>
      rw [h2] at CG
      by_cases hp : p = q
      · subst hp
        cases h3 : forkB p l d s m i t with
        | false =>
          have HM : Hid (meetB ⟨p, l, d, s, bs, hs⟩ ⟨p, m, i, t, cs, ks⟩ = false) := meetB_no fun k => by have h4 : forkB p l d s m i t = true := k.2.2.2; rw [h3] at h4; cases h4
          have H3 := Lib.hid h3
          clear h1 h2 h3
          obtain ⟨k0, k1, k2, k3, k4, k5⟩ := feed_cells KF.out
          obtain ⟨j0, j1, j2, j3, j4, j5⟩ := feed_cells KG.out
          go_enter Try.func15, Try.ntmps15
          go_wp2_with fail
          rw [HW.out]
          refine (CF.out _ HB.out).mono ?_
          rintro e w1 ⟨rfl, hb1⟩
          have KR1 := Lib.hid (KR.out.below hb1 KR.out.lt)
          have KF1 := Lib.hid (KF.out.below hb1 KF.out.lt)
          have KG1 := Lib.hid (KG.out.below hb1 KG.out.lt)
          have KX1 := Lib.hid (KX.out.below hb1 KX.out.lt)
          have HB1 : Hid (Below w.heap.size w w1) := HB.out.trans (hb1.mono HB.out.size)
          clear hb1 k0 k1 k2 k3 k4 k5 j0 j1 j2 j3 j4 j5
          obtain ⟨k0, k1, k2, k3, k4, k5⟩ := feed_cells KF1.out
          obtain ⟨j0, j1, j2, j3, j4, j5⟩ := feed_cells KG1.out
          go_wp2_with fail
          refine (CG.out _ HB1.out).mono ?_
          rintro e w2 ⟨rfl, hb2⟩
          have KR2 := Lib.hid (KR1.out.below hb2 KR1.out.lt)
          have KF2 := Lib.hid (KF1.out.below hb2 KF1.out.lt)
          have KG2 := Lib.hid (KG1.out.below hb2 KG1.out.lt)
          have KX2 := Lib.hid (KX1.out.below hb2 KX1.out.lt)
          have HB2 : Hid (Below w.heap.size w w2) := HB1.out.trans (hb2.mono HB1.out.size)
          clear hb2 k0 k1 k2 k3 k4 k5 j0 j1 j2 j3 j4 j5
          obtain ⟨k0, k1, k2, k3, k4, k5⟩ := feed_cells KF2.out
          obtain ⟨j0, j1, j2, j3, j4, j5⟩ := feed_cells KG2.out
          obtain ⟨x0, x1, x2, x3, x4, x5, x6⟩ := fork_cells KX2.out
          go_wp2_with fail
          refine (sforkCheck_any p l d s m i t _).mono ?_
          rintro e w3 ⟨rfl, hb3⟩
          rw [H3.out]
          have KR3 := Lib.hid (KR2.out.below hb3 KR2.out.lt)
          have KX3 := Lib.hid (KX2.out.below hb3 KX2.out.lt)
          have HB3 : Hid (Below w.heap.size w w3) := HB2.out.trans (hb3.mono HB2.out.size)
          clear hb3 k0 k1 k2 k3 k4 k5 j0 j1 j2 j3 j4 j5 x0 x1 x2 x3 x4 x5 x6
          obtain ⟨x0, x1, x2, x3, x4, x5, x6⟩ := fork_cells KX3.out
          obtain ⟨z0, z1, z2, z3, z4, z5, z6⟩ := fork_cells KR3.out
          have zf := blk_frozen KR3.out
          go_wp2
          obtain ⟨Y9, HY9⟩ : ∃ Y9, Hid ((((((((w3.setCell ⟨w.heap.size + 1 + 1, 0, none⟩ (.int .i64 0)).setCell ⟨w.heap.size + 1 + 1, 1, none⟩ (.int .i64 0)).setCell ⟨w.heap.size + 1 + 1, 2, none⟩ (.int .i64 0)).setCell ⟨w.heap.size + 1 + 1, 3, none⟩ (.int .i64 0)).setCell ⟨w.heap.size + 1 + 1, 4, none⟩ (.int .i64 0)).setCell ⟨w.heap.size + 1 + 1, 5, none⟩ (.int .i64 0)).setCell ⟨w.heap.size + 1 + 1, 6, none⟩ (.int .i64 0)) = Y9) := ⟨_, rfl⟩
          have HBY : Hid (Below w.heap.size w Y9) := by rw [← HY9.out]; exact below_seven HB3.out (by omega) _ _ _ _ _ _ _
          have KRY : Hid (Blk Y9 (w.heap.size + 1 + 1) 26 (forkC 0 0 0 0 0 0 0)) := by rw [← HY9.out]; exact blk_seven KR3.out _ _ _ _ _ _ _
          rw [HY9.out]
          obtain ⟨y0, y1, y2, y3, y4, y5, y6⟩ := fork_cells KRY.out
          exact bodyPost_ret (v := .tuple #[forkV 0 0 0 0 0 0 0, .bool false]) (by simp [results, Try.results15, go_sem, y0, y1, y2, y3, y4, y5, y6]) rfl ⟨by rw [HM.out]; rfl, HBY.out⟩
        | true =>
          have HM : Hid (meetB ⟨p, l, d, s, bs, hs⟩ ⟨p, m, i, t, cs, ks⟩ = true) := (meetB_iff _ _).2 ⟨h1, h2, rfl, h3⟩
          have H3 := Lib.hid h3
          clear h1 h2 h3
          obtain ⟨k0, k1, k2, k3, k4, k5⟩ := feed_cells KF.out
          obtain ⟨j0, j1, j2, j3, j4, j5⟩ := feed_cells KG.out
          go_enter Try.func15, Try.ntmps15
          go_wp2_with fail
          rw [HW.out]
          refine (CF.out _ HB.out).mono ?_
          rintro e w1 ⟨rfl, hb1⟩
          have KR1 := Lib.hid (KR.out.below hb1 KR.out.lt)
          have KF1 := Lib.hid (KF.out.below hb1 KF.out.lt)
          have KG1 := Lib.hid (KG.out.below hb1 KG.out.lt)
          have KX1 := Lib.hid (KX.out.below hb1 KX.out.lt)
          have HB1 : Hid (Below w.heap.size w w1) := HB.out.trans (hb1.mono HB.out.size)
          clear hb1 k0 k1 k2 k3 k4 k5 j0 j1 j2 j3 j4 j5
          obtain ⟨k0, k1, k2, k3, k4, k5⟩ := feed_cells KF1.out
          obtain ⟨j0, j1, j2, j3, j4, j5⟩ := feed_cells KG1.out
          go_wp2_with fail
          refine (CG.out _ HB1.out).mono ?_
          rintro e w2 ⟨rfl, hb2⟩
          have KR2 := Lib.hid (KR1.out.below hb2 KR1.out.lt)
          have KF2 := Lib.hid (KF1.out.below hb2 KF1.out.lt)
          have KG2 := Lib.hid (KG1.out.below hb2 KG1.out.lt)
          have KX2 := Lib.hid (KX1.out.below hb2 KX1.out.lt)
          have HB2 : Hid (Below w.heap.size w w2) := HB1.out.trans (hb2.mono HB1.out.size)
          clear hb2 k0 k1 k2 k3 k4 k5 j0 j1 j2 j3 j4 j5
          obtain ⟨k0, k1, k2, k3, k4, k5⟩ := feed_cells KF2.out
          obtain ⟨j0, j1, j2, j3, j4, j5⟩ := feed_cells KG2.out
          obtain ⟨x0, x1, x2, x3, x4, x5, x6⟩ := fork_cells KX2.out
          go_wp2_with fail
          refine (sforkCheck_any p l d s m i t _).mono ?_
          rintro e w3 ⟨rfl, hb3⟩
          rw [H3.out]
          have KR3 := Lib.hid (KR2.out.below hb3 KR2.out.lt)
          have KX3 := Lib.hid (KX2.out.below hb3 KX2.out.lt)
          have HB3 : Hid (Below w.heap.size w w3) := HB2.out.trans (hb3.mono HB2.out.size)
          clear hb3 k0 k1 k2 k3 k4 k5 j0 j1 j2 j3 j4 j5 x0 x1 x2 x3 x4 x5 x6
          obtain ⟨x0, x1, x2, x3, x4, x5, x6⟩ := fork_cells KX3.out
          obtain ⟨z0, z1, z2, z3, z4, z5, z6⟩ := fork_cells KR3.out
          have zf := blk_frozen KR3.out
          go_wp2
          obtain ⟨Y9, HY9⟩ : ∃ Y9, Hid ((((((((w3.setCell ⟨w.heap.size + 1 + 1, 0, none⟩ (.int .i64 p)).setCell ⟨w.heap.size + 1 + 1, 1, none⟩ (.int .i64 l)).setCell ⟨w.heap.size + 1 + 1, 2, none⟩ (.int .i64 d)).setCell ⟨w.heap.size + 1 + 1, 3, none⟩ (.int .i64 s)).setCell ⟨w.heap.size + 1 + 1, 4, none⟩ (.int .i64 m)).setCell ⟨w.heap.size + 1 + 1, 5, none⟩ (.int .i64 i)).setCell ⟨w.heap.size + 1 + 1, 6, none⟩ (.int .i64 t)) = Y9) := ⟨_, rfl⟩
          have HBY : Hid (Below w.heap.size w Y9) := by rw [← HY9.out]; exact below_seven HB3.out (by omega) _ _ _ _ _ _ _
          have KRY : Hid (Blk Y9 (w.heap.size + 1 + 1) 26 (forkC p l d s m i t)) := by rw [← HY9.out]; exact blk_seven KR3.out _ _ _ _ _ _ _
          rw [HY9.out]
          obtain ⟨y0, y1, y2, y3, y4, y5, y6⟩ := fork_cells KRY.out
          exact bodyPost_ret (v := .tuple #[forkV p l d s m i t, .bool true]) (by simp [results, Try.results15, go_sem, y0, y1, y2, y3, y4, y5, y6]) rfl ⟨by rw [HM.out]; rfl, HBY.out⟩
      · have HM : Hid (meetB ⟨p, l, d, s, bs, hs⟩ ⟨q, m, i, t, cs, ks⟩ = false) := meetB_no fun k => hp k.2.2.1
        have hpn : (p != q) = true := bne_iff_ne.2 hp
        have hpn2 : (p == q) = false := beq_eq_false_iff_ne.2 hp
        clear h1 h2
        obtain ⟨k0, k1, k2, k3, k4, k5⟩ := feed_cells KF.out
        obtain ⟨j0, j1, j2, j3, j4, j5⟩ := feed_cells KG.out
        go_enter Try.func15, Try.ntmps15
        go_wp2_with fail
        rw [HW.out]
        refine (CF.out _ HB.out).mono ?_
        rintro e w1 ⟨rfl, hb1⟩
        have KR1 := Lib.hid (KR.out.below hb1 KR.out.lt)
        have KF1 := Lib.hid (KF.out.below hb1 KF.out.lt)
        have KG1 := Lib.hid (KG.out.below hb1 KG.out.lt)
        have KX1 := Lib.hid (KX.out.below hb1 KX.out.lt)
        have HB1 : Hid (Below w.heap.size w w1) := HB.out.trans (hb1.mono HB.out.size)
        clear hb1 k0 k1 k2 k3 k4 k5 j0 j1 j2 j3 j4 j5
        obtain ⟨k0, k1, k2, k3, k4, k5⟩ := feed_cells KF1.out
        obtain ⟨j0, j1, j2, j3, j4, j5⟩ := feed_cells KG1.out
        go_wp2_with fail
        refine (CG.out _ HB1.out).mono ?_
        rintro e w2 ⟨rfl, hb2⟩
        have KR2 := Lib.hid (KR1.out.below hb2 KR1.out.lt)
        have KF2 := Lib.hid (KF1.out.below hb2 KF1.out.lt)
        have KG2 := Lib.hid (KG1.out.below hb2 KG1.out.lt)
        have KX2 := Lib.hid (KX1.out.below hb2 KX1.out.lt)
        have HB2 : Hid (Below w.heap.size w w2) := HB1.out.trans (hb2.mono HB1.out.size)
        clear hb2 k0 k1 k2 k3 k4 k5 j0 j1 j2 j3 j4 j5
        obtain ⟨k0, k1, k2, k3, k4, k5⟩ := feed_cells KF2.out
        obtain ⟨j0, j1, j2, j3, j4, j5⟩ := feed_cells KG2.out
        obtain ⟨z0, z1, z2, z3, z4, z5, z6⟩ := fork_cells KR2.out
        have zf := blk_frozen KR2.out
        go_wp2
        obtain ⟨Y9, HY9⟩ : ∃ Y9, Hid ((((((((w2.setCell ⟨w.heap.size + 1 + 1, 0, none⟩ (.int .i64 0)).setCell ⟨w.heap.size + 1 + 1, 1, none⟩ (.int .i64 0)).setCell ⟨w.heap.size + 1 + 1, 2, none⟩ (.int .i64 0)).setCell ⟨w.heap.size + 1 + 1, 3, none⟩ (.int .i64 0)).setCell ⟨w.heap.size + 1 + 1, 4, none⟩ (.int .i64 0)).setCell ⟨w.heap.size + 1 + 1, 5, none⟩ (.int .i64 0)).setCell ⟨w.heap.size + 1 + 1, 6, none⟩ (.int .i64 0)) = Y9) := ⟨_, rfl⟩
        have HBY : Hid (Below w.heap.size w Y9) := by rw [← HY9.out]; exact below_seven HB2.out (by omega) _ _ _ _ _ _ _
        have KRY : Hid (Blk Y9 (w.heap.size + 1 + 1) 26 (forkC 0 0 0 0 0 0 0)) := by rw [← HY9.out]; exact blk_seven KR2.out _ _ _ _ _ _ _
        rw [HY9.out]
        obtain ⟨y0, y1, y2, y3, y4, y5, y6⟩ := fork_cells KRY.out
        exact bodyPost_ret (v := .tuple #[forkV 0 0 0 0 0 0 0, .bool false]) (by simp [results, Try.results15, go_sem, y0, y1, y2, y3, y4, y5, y6]) rfl ⟨by rw [HM.out]; rfl, HBY.out⟩

end Go.Proofs.Ytpcjlilfcpfmcaa
