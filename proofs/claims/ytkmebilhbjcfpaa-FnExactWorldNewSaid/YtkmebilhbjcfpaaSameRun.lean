/- Contract of the laws' function sameWorld at two runs that read alike: true. Condition: both lie in memory. -/
import Derived.Test.YtkmebilhbjcfpaaWorldWords
import Derived.Test.YtkmebilhbjcfpaaWorldMath
import Derived.Test.YtkmebilhbjcfpaaSRunA
import Derived.Test.YtkmebilhbjcfpaaBaseL
import Derived.Test.YtkmebilhbjcfpaaSame
import Derived.Test.YtkmebilhbjcfpaaSameAsks
import Derived.Deep.RegionHeld3
namespace Go.Proofs.Ytkmebilhbjcfpaa
open Go.RowKit
set_option linter.unusedVariables false

/-- Two representations of one run. -/
structure Alike (r r' : WR) : Prop where
  f : hfs r.fh = hfs r'.fh
  a : has r.ah = has r'.ah
  q : hps r.qh = hps r'.qh
theorem Alike.of_data {s b : Int} {r r' : WR} {ls : List LinkD} (h : dataW s b r ls = dataW s b r' ls) : Alike r r' := by
  unfold dataW at h
  injection h with h1 h2 h3 h4 h5 h6
  exact ⟨h3, h5, h6⟩
theorem Alike.refl (r : WR) : Alike r r := ⟨rfl, rfl, rfl⟩
theorem Alike.symm {r r' : WR} (h : Alike r r') : Alike r' r := ⟨h.f.symm, h.a.symm, h.q.symm⟩
theorem Alike.fl {r r' : WR} (h : Alike r r') : r'.fh.length = r.fh.length := by have := congrArg List.length h.f; rw [hfs_length, hfs_length] at this; exact this.symm
theorem Alike.al {r r' : WR} (h : Alike r r') : r'.ah.length = r.ah.length := by have := congrArg List.length h.a; rw [has_length, has_length] at this; exact this.symm
theorem Alike.ql {r r' : WR} (h : Alike r r') : r'.qh.length = r.qh.length := by have := congrArg List.length h.q; rw [hps_length, hps_length] at this; exact this.symm
theorem Alike.fk {r r' : WR} (h : Alike r r') (k : Nat) : (fhth r'.fh k).f = (fhth r.fh k).f := by rw [← fth_hfs, ← fth_hfs, h.f]
theorem Alike.ak {r r' : WR} (h : Alike r r') (k : Nat) : (ahth r'.ah k).xs = (ahth r.ah k).xs := by rw [← wth_has, ← wth_has, h.a]
theorem Alike.qk {r r' : WR} (h : Alike r r') (k : Nat) : (qhth r'.qh k).p = (qhth r.qh k).p := by rw [← pcth_hps, ← pcth_hps, h.q]

set_option maxHeartbeats 8000000 in
set_option maxRecDepth 100000 in
theorem sameRun_yes (sec bad : Int) (r r' : WR) (ls : List LinkD) (w : World) (h : RunAt w w.heap.size r ls) (h' : RunAt w w.heap.size r' ls) (hs : Alike r r') {n1 n2 n3 n4 : Nat} (hn1 : r.fh.length = n1) (hn2 : ls.length = n2) (hn3 : r.ah.length = n3) (hn4 : r.qh.length = n4) :
    Calls Try.prog 8 #[.agg #[.int .i64 sec, .int .i64 bad, .slice r.A1 n1 r.c1, .slice r.A2 n2 r.c2, .slice r.A3 n3 r.c3, .slice r.A4 n4 r.c4], .agg #[.int .i64 sec, .int .i64 bad, .slice r'.A1 n1 r'.c1, .slice r'.A2 n2 r'.c2, .slice r'.A3 n3 r'.c3, .slice r'.A4 n4 r'.c4]] w fun e w' => e = .returned (.bool true) ∧ Below w.heap.size w w' := by
  have m1 := h.m1
  have m2 := h.m2
  have m3 := h.m3
  have m4 := h.m4
  unfold maxLen at m1 m2 m3 m4
  rw [hn1] at m1
  rw [hn2] at m2
  rw [hn3] at m3
  rw [hn4] at m4
  have HH := Lib.hid h
  have HH' := Lib.hid h'
  have HS := Lib.hid hs
  have HN1 := Lib.hid hn1
  have HN2 := Lib.hid hn2
  have HN3 := Lib.hid hn3
  have HN4 := Lib.hid hn4
  have HN1' : Hid (r'.fh.length = n1) := hs.fl.trans hn1
  have HN3' : Hid (r'.ah.length = n3) := hs.al.trans hn3
  have HN4' : Hid (r'.qh.length = n4) := hs.ql.trans hn4
  clear h h' hs hn1 hn2 hn3 hn4
  obtain ⟨p1, HAa1⟩ : ∃ x, Hid (r.A1 = x) := ⟨_, rfl⟩
  obtain ⟨pc1, HCa1⟩ : ∃ x, Hid (r.c1 = x) := ⟨_, rfl⟩
  obtain ⟨p2, HAa2⟩ : ∃ x, Hid (r.A2 = x) := ⟨_, rfl⟩
  obtain ⟨pc2, HCa2⟩ : ∃ x, Hid (r.c2 = x) := ⟨_, rfl⟩
  obtain ⟨p3, HAa3⟩ : ∃ x, Hid (r.A3 = x) := ⟨_, rfl⟩
  obtain ⟨pc3, HCa3⟩ : ∃ x, Hid (r.c3 = x) := ⟨_, rfl⟩
  obtain ⟨p4, HAa4⟩ : ∃ x, Hid (r.A4 = x) := ⟨_, rfl⟩
  obtain ⟨pc4, HCa4⟩ : ∃ x, Hid (r.c4 = x) := ⟨_, rfl⟩
  obtain ⟨q1, HAb1⟩ : ∃ x, Hid (r'.A1 = x) := ⟨_, rfl⟩
  obtain ⟨qc1, HCb1⟩ : ∃ x, Hid (r'.c1 = x) := ⟨_, rfl⟩
  obtain ⟨q2, HAb2⟩ : ∃ x, Hid (r'.A2 = x) := ⟨_, rfl⟩
  obtain ⟨qc2, HCb2⟩ : ∃ x, Hid (r'.c2 = x) := ⟨_, rfl⟩
  obtain ⟨q3, HAb3⟩ : ∃ x, Hid (r'.A3 = x) := ⟨_, rfl⟩
  obtain ⟨qc3, HCb3⟩ : ∃ x, Hid (r'.c3 = x) := ⟨_, rfl⟩
  obtain ⟨q4, HAb4⟩ : ∃ x, Hid (r'.A4 = x) := ⟨_, rfl⟩
  obtain ⟨qc4, HCb4⟩ : ∃ x, Hid (r'.c4 = x) := ⟨_, rfl⟩
  rw [HAa1.out, HCa1.out, HAa2.out, HCa2.out, HAa3.out, HCa3.out, HAa4.out, HCa4.out, HAb1.out, HCb1.out, HAb2.out, HCb2.out, HAb3.out, HCb3.out, HAb4.out, HCb4.out]
  obtain ⟨V0, HV0⟩ : ∃ W, Hid ((w.alloc (.cells #[.int .i64 sec, .int .i64 bad, .slice p1 n1 pc1, .slice p2 n2 pc2, .slice p3 n3 pc3, .slice p4 n4 pc4] 30)).alloc (.cells #[.int .i64 sec, .int .i64 bad, .slice q1 n1 qc1, .slice q2 n2 qc2, .slice q3 n3 qc3, .slice q4 n4 qc4] 30) = W) := ⟨_, rfl⟩
  have KA : Hid (Blk V0 w.heap.size 30 #[.int .i64 sec, .int .i64 bad, .slice p1 n1 pc1, .slice p2 n2 pc2, .slice p3 n3 pc3, .slice p4 n4 pc4]) := by rw [← HV0.out]; exact (Blk.new w _ _).alloc _
  have KB : Hid (Blk V0 (w.heap.size + 1) 30 #[.int .i64 sec, .int .i64 bad, .slice q1 n1 qc1, .slice q2 n2 qc2, .slice q3 n3 qc3, .slice q4 n4 qc4]) := by
    rw [← HV0.out]
    have := Blk.new (w.alloc (.cells #[.int .i64 sec, .int .i64 bad, .slice p1 n1 pc1, .slice p2 n2 pc2, .slice p3 n3 pc3, .slice p4 n4 pc4] 30)) 30 #[.int .i64 sec, .int .i64 bad, .slice q1 n1 qc1, .slice q2 n2 qc2, .slice q3 n3 qc3, .slice q4 n4 qc4]
    rwa [World.size_alloc] at this
  have HB : Hid (Below w.heap.size w V0) := by rw [← HV0.out]; exact ((Below.refl _ w).alloc (Nat.le_refl _) _).alloc (by rw [World.size_alloc]; omega) _
  have hz0 : w.heap.size < V0.heap.size := KA.out.lt
  have hz1 : w.heap.size + 1 < V0.heap.size := KB.out.lt
  obtain ⟨a0, a1, a2, a3, a4, a5⟩ := run_cells KA.out
  obtain ⟨b0, b1, b2, b3, b4, b5⟩ := run_cells KB.out
  go_enter Try.func8, Try.ntmps8
  go_upto_region 1 with fail
  rw [HV0.out]
  go_wp2
  go_loopw [5] (fun i wr => ∃ k : Nat, k ≤ n1 ∧ i = .int .i64 (k : Int) ∧ Hid (Below V0.heap.size V0 wr)) (fun i _ => n1 - (intOf i).toNat)
  case atStart => exact ⟨0, Nat.zero_le _, rfl, Below.refl _ _⟩
  case round =>
    obtain ⟨k, hk, rfl, HBr⟩ := hrel
    have HBr0 : Hid (Below w.heap.size w wr) := HB.out.trans (HBr.out.mono HB.out.size)
    have KAr := Lib.hid (KA.out.below HBr.out hz0)
    have KBr := Lib.hid (KB.out.below HBr.out hz1)
    have hzr0 : w.heap.size < wr.heap.size := KAr.out.lt
    have hzr1 : w.heap.size + 1 < wr.heap.size := KBr.out.lt
    clear a0 a1 a2 a3 a4 a5 b0 b1 b2 b3 b4 b5
    obtain ⟨a0, a1, a2, a3, a4, a5⟩ := run_cells KAr.out
    obtain ⟨b0, b1, b2, b3, b4, b5⟩ := run_cells KBr.out
    have hk0 : (0 : Int) ≤ (k : Int) := by omega
    by_cases hkn : k < n1
    · have hki : (k : Int) < (n1 : Int) := by omega
      have HRa := Lib.hid (HH.out.r1.belowS HBr0.out)
      have HRb := Lib.hid (HH'.out.r1.belowS HBr0.out)
      obtain ⟨ca, oa, ea⟩ := HRa.out.some_ (by rw [HN1.out]; omega)
      obtain ⟨cb, ob, eb⟩ := HRb.out.some_ (by rw [HN1'.out]; omega)
      obtain ⟨c0, c1, c2, c3, c4, c5⟩ := feed_cells6 (ea ▸ HRa.out) k (by rw [HN1.out]; exact hkn)
      obtain ⟨d0, d1, d2, d3, d4, d5⟩ := feed_cells6 (eb ▸ HRb.out) k (by rw [HN1'.out]; exact hkn)
      have hla := ((ea ▸ HRa.out : RowAt FK wr wr.heap.size (some ⟨ca, oa, none⟩) r.fh).lt (by rw [HN1.out]; omega)).1
      have hlb := ((eb ▸ HRb.out : RowAt FK wr wr.heap.size (some ⟨cb, ob, none⟩) r'.fh).lt (by rw [HN1'.out]; omega)).1
      have HFa := Lib.hid (HH.out.feed k (by rw [HN1.out]; exact hkn))
      have HFb := Lib.hid (HH'.out.feed k (by rw [HN1'.out]; exact hkn))
      have HE := Lib.hid (HS.out.fk k)
      obtain ⟨X, HX⟩ : ∃ x, Hid (fhth r.fh k = x) := ⟨_, rfl⟩
      obtain ⟨Y, HY⟩ : ∃ x, Hid (fhth r'.fh k = x) := ⟨_, rfl⟩
      rw [HX.out] at c0 c1 c2 c3 c4 c5 HFa HE
      rw [HY.out] at d0 d1 d2 d3 d4 d5 HFb HE
      obtain ⟨⟨xp, xl, xd, xs, xbs, xhs⟩, xa1, xc1, xa2, xc2⟩ := X
      obtain ⟨yf, ya1, yc1, ya2, yc2⟩ := Y
      have he := HE.out
      dsimp only at he
      subst he
      dsimp only at c0 c1 c2 c3 c4 c5 d0 d1 d2 d3 d4 d5
      have CS : Hid (∀ U, Below wr.heap.size wr U → Calls Try.prog 23 #[feedV xp xl xd xs xa1 xbs.length xc1 xa2 xhs.length xc2, feedV xp xl xd xs ya1 xbs.length yc1 ya2 xhs.length yc2] U fun e w' => e = .returned (.bool true) ∧ Below U.heap.size U w') := fun U hU =>
        sameFeed_same xp xl xd xs xa1 xc1 xa2 xc2 ya1 yc1 ya2 yc2 xbs xhs U (HFa.out.feed.belowS (HBr0.out.trans (hU.mono HBr0.out.size))) (HFb.out.feed.belowS (HBr0.out.trans (hU.mono HBr0.out.size)))
      obtain ⟨y1, HY1⟩ : ∃ x, Hid (xbs.length = x) := ⟨_, rfl⟩
      obtain ⟨y2, HY2⟩ : ∃ x, Hid (xhs.length = x) := ⟨_, rfl⟩
      rw [HY1.out] at c4 d4 CS
      rw [HY2.out] at c5 d5 CS
      have EA := Lib.hid (HAa1.out.symm.trans ea)
      have EB := Lib.hid (HAb1.out.symm.trans eb)
      have a2' := a2
      rw [EA.out] at a2'
      have b2' := b2
      rw [EB.out] at b2'
      clear ea eb a2 b2
      go_wp2_with fail
      go_region_held3 (fun w' => w'.cell? ⟨w.heap.size, 2, none⟩ = some (.slice (some ⟨ca, oa, none⟩) n1 pc1) ∧ w'.cell? ⟨w.heap.size + 1, 2, none⟩ = some (.slice (some ⟨cb, ob, none⟩) n1 qc1) ∧ w'.cell? ⟨ca, oa + k * 6, none⟩ = some (.int .i64 xp) ∧ w'.cell? ⟨ca, oa + k * 6 + 1, none⟩ = some (.int .i64 xl) ∧ w'.cell? ⟨ca, oa + k * 6 + 2, none⟩ = some (.int .i64 xd) ∧ w'.cell? ⟨ca, oa + k * 6 + 3, none⟩ = some (.int .i64 xs) ∧ w'.cell? ⟨ca, oa + k * 6 + 4, none⟩ = some (.slice xa1 y1 xc1) ∧ w'.cell? ⟨ca, oa + k * 6 + 5, none⟩ = some (.slice xa2 y2 xc2) ∧ w'.cell? ⟨cb, ob + k * 6, none⟩ = some (.int .i64 xp) ∧ w'.cell? ⟨cb, ob + k * 6 + 1, none⟩ = some (.int .i64 xl) ∧ w'.cell? ⟨cb, ob + k * 6 + 2, none⟩ = some (.int .i64 xd) ∧ w'.cell? ⟨cb, ob + k * 6 + 3, none⟩ = some (.int .i64 xs) ∧ w'.cell? ⟨cb, ob + k * 6 + 4, none⟩ = some (.slice ya1 y1 yc1) ∧ w'.cell? ⟨cb, ob + k * 6 + 5, none⟩ = some (.slice ya2 y2 yc2)) (go_keep)
        (first
          | (go_at_call 23; (with_reducible refine (CS.out _ ?_).mono ?_); exact below_drew (Below.refl _ _); rintro e w2 ⟨rfl, hb2⟩; have HB2 : Hid (Below wr.heap.size wr w2) := below_drew_l hb2; have HB2V : Hid (Below V0.heap.size V0 w2) := HBr.out.trans (HB2.out.mono HBr.out.size); have u2 := (HB2.out.cell (p := ⟨w.heap.size, 2, none⟩) hzr0).trans a2'; have v2 := (HB2.out.cell (p := ⟨w.heap.size + 1, 2, none⟩) hzr1).trans b2'; have e0 := (HB2.out.cell (p := ⟨ca, oa + k * 6, none⟩) hla).trans c0; have e1 := (HB2.out.cell (p := ⟨ca, oa + k * 6 + 1, none⟩) hla).trans c1; have e2 := (HB2.out.cell (p := ⟨ca, oa + k * 6 + 2, none⟩) hla).trans c2; have e3 := (HB2.out.cell (p := ⟨ca, oa + k * 6 + 3, none⟩) hla).trans c3; have e4 := (HB2.out.cell (p := ⟨ca, oa + k * 6 + 4, none⟩) hla).trans c4; have e5 := (HB2.out.cell (p := ⟨ca, oa + k * 6 + 5, none⟩) hla).trans c5; have f0 := (HB2.out.cell (p := ⟨cb, ob + k * 6, none⟩) hlb).trans d0; have f1 := (HB2.out.cell (p := ⟨cb, ob + k * 6 + 1, none⟩) hlb).trans d1; have f2 := (HB2.out.cell (p := ⟨cb, ob + k * 6 + 2, none⟩) hlb).trans d2; have f3 := (HB2.out.cell (p := ⟨cb, ob + k * 6 + 3, none⟩) hlb).trans d3; have f4 := (HB2.out.cell (p := ⟨cb, ob + k * 6 + 4, none⟩) hlb).trans d4; have f5 := (HB2.out.cell (p := ⟨cb, ob + k * 6 + 5, none⟩) hlb).trans d5; clear hb2))
      go_wp2
      go_roundw
      case rel => exact ⟨k + 1, by omega, by go_num, HB2V.out⟩
      case measure => simp [intOf]; omega
    · have hke : k = n1 := by omega
      subst hke
      go_wp2
      go_loopw [6] (fun i wr => ∃ k : Nat, k ≤ n3 ∧ i = .int .i64 (k : Int) ∧ Hid (Below V0.heap.size V0 wr)) (fun i _ => n3 - (intOf i).toNat)
      case atStart => exact ⟨0, Nat.zero_le _, rfl, HBr.out⟩
      case round =>
        obtain ⟨k, hk, rfl, HBr⟩ := hrel
        have HBr0 : Hid (Below w.heap.size w wr) := HB.out.trans (HBr.out.mono HB.out.size)
        have KAr := Lib.hid (KA.out.below HBr.out hz0)
        have KBr := Lib.hid (KB.out.below HBr.out hz1)
        have hzr0 : w.heap.size < wr.heap.size := KAr.out.lt
        have hzr1 : w.heap.size + 1 < wr.heap.size := KBr.out.lt
        clear a0 a1 a2 a3 a4 a5 b0 b1 b2 b3 b4 b5
        obtain ⟨a0, a1, a2, a3, a4, a5⟩ := run_cells KAr.out
        obtain ⟨b0, b1, b2, b3, b4, b5⟩ := run_cells KBr.out
        have hk0 : (0 : Int) ≤ (k : Int) := by omega
        by_cases hkn : k < n3
        · have hki : (k : Int) < (n3 : Int) := by omega
          have HRa := Lib.hid (HH.out.r3.belowS HBr0.out)
          have HRb := Lib.hid (HH'.out.r3.belowS HBr0.out)
          obtain ⟨ca, oa, ea⟩ := HRa.out.some_ (by rw [HN3.out]; omega)
          obtain ⟨cb, ob, eb⟩ := HRb.out.some_ (by rw [HN3'.out]; omega)
          have c0 := asks_cell1 (ea ▸ HRa.out) k (by rw [HN3.out]; exact hkn)
          have d0 := asks_cell1 (eb ▸ HRb.out) k (by rw [HN3'.out]; exact hkn)
          have hla := ((ea ▸ HRa.out : RowAt HK2 wr wr.heap.size (some ⟨ca, oa, none⟩) r.ah).lt (by rw [HN3.out]; omega)).1
          have hlb := ((eb ▸ HRb.out : RowAt HK2 wr wr.heap.size (some ⟨cb, ob, none⟩) r'.ah).lt (by rw [HN3'.out]; omega)).1
          have HFa := Lib.hid (HH.out.asks k (by rw [HN3.out]; exact hkn))
          have HFb := Lib.hid (HH'.out.asks k (by rw [HN3'.out]; exact hkn))
          have HE := Lib.hid (HS.out.ak k)
          obtain ⟨X, HX⟩ : ∃ x, Hid (ahth r.ah k = x) := ⟨_, rfl⟩
          obtain ⟨Y, HY⟩ : ∃ x, Hid (ahth r'.ah k = x) := ⟨_, rfl⟩
          rw [HX.out] at c0 HFa HE
          rw [HY.out] at d0 HFb HE
          obtain ⟨xa1, xc1, xxs⟩ := X
          obtain ⟨ya1, yc1, yxs⟩ := Y
          have he := HE.out
          dsimp only at he
          subst he
          dsimp only at c0 d0
          obtain ⟨y1, HY1⟩ : ∃ x, Hid (yxs.length = x) := ⟨_, rfl⟩
          have CS : Hid (∀ U, Below wr.heap.size wr U → Calls Try.prog 24 #[.slice xa1 y1 xc1, .slice ya1 y1 yc1] U fun e w' => e = .returned (.bool true) ∧ Below U.heap.size U w') := fun U hU =>
            runAsks_any xa1 xc1 ya1 yc1 yxs U (HFa.out.belowS (HBr0.out.trans (hU.mono HBr0.out.size))) (HFb.out.belowS (HBr0.out.trans (hU.mono HBr0.out.size))) HY1.out
          rw [HY1.out] at c0 d0
          have EA := Lib.hid (HAa3.out.symm.trans ea)
          have EB := Lib.hid (HAb3.out.symm.trans eb)
          have a4' := a4
          rw [EA.out] at a4'
          have b4' := b4
          rw [EB.out] at b4'
          clear ea eb a4 b4
          go_wp2_with fail
          go_region_held3 (fun w' => w'.cell? ⟨w.heap.size, 4, none⟩ = some (.slice (some ⟨ca, oa, none⟩) n3 pc3) ∧ w'.cell? ⟨w.heap.size + 1, 4, none⟩ = some (.slice (some ⟨cb, ob, none⟩) n3 qc3) ∧ w'.cell? ⟨ca, oa + k, none⟩ = some (.slice xa1 y1 xc1) ∧ w'.cell? ⟨cb, ob + k, none⟩ = some (.slice ya1 y1 yc1)) (go_keep)
            (first
              | (go_at_call 24; (with_reducible refine (CS.out _ ?_).mono ?_); exact below_drew (Below.refl _ _); rintro e w2 ⟨rfl, hb2⟩; have HB2 : Hid (Below wr.heap.size wr w2) := below_drew_l hb2; have HB2V : Hid (Below V0.heap.size V0 w2) := HBr.out.trans (HB2.out.mono HBr.out.size); have u2 := (HB2.out.cell (p := ⟨w.heap.size, 4, none⟩) hzr0).trans a4'; have v2 := (HB2.out.cell (p := ⟨w.heap.size + 1, 4, none⟩) hzr1).trans b4'; have e0 := (HB2.out.cell (p := ⟨ca, oa + k, none⟩) hla).trans c0; have f0 := (HB2.out.cell (p := ⟨cb, ob + k, none⟩) hlb).trans d0; clear hb2))
          go_wp2
          go_roundw
          case rel => exact ⟨k + 1, by omega, by go_num, HB2V.out⟩
          case measure => simp [intOf]; omega
        · have hke : k = n3 := by omega
          subst hke
          go_wp2
          go_loopw [7] (fun i wr => ∃ k : Nat, k ≤ n2 ∧ i = .int .i64 (k : Int) ∧ Hid (Below V0.heap.size V0 wr)) (fun i _ => n2 - (intOf i).toNat)
          case atStart => exact ⟨0, Nat.zero_le _, rfl, HBr.out⟩
          case round =>
            obtain ⟨k, hk, rfl, HBr⟩ := hrel
            have HBr0 : Hid (Below w.heap.size w wr) := HB.out.trans (HBr.out.mono HB.out.size)
            have KAr := Lib.hid (KA.out.below HBr.out hz0)
            have KBr := Lib.hid (KB.out.below HBr.out hz1)
            have hzr0 : w.heap.size < wr.heap.size := KAr.out.lt
            have hzr1 : w.heap.size + 1 < wr.heap.size := KBr.out.lt
            clear a0 a1 a2 a3 a4 a5 b0 b1 b2 b3 b4 b5
            obtain ⟨a0, a1, a2, a3, a4, a5⟩ := run_cells KAr.out
            obtain ⟨b0, b1, b2, b3, b4, b5⟩ := run_cells KBr.out
            have hk0 : (0 : Int) ≤ (k : Int) := by omega
            by_cases hkn : k < n2
            · have hki : (k : Int) < (n2 : Int) := by omega
              have HRa := Lib.hid (HH.out.r2.belowS HBr0.out)
              have HRb := Lib.hid (HH'.out.r2.belowS HBr0.out)
              obtain ⟨ca, oa, ea⟩ := HRa.out.some_ (by rw [HN2.out]; omega)
              obtain ⟨cb, ob, eb⟩ := HRb.out.some_ (by rw [HN2.out]; omega)
              obtain ⟨c0, c1⟩ := link_cells2 (ea ▸ HRa.out) k (by rw [HN2.out]; exact hkn)
              obtain ⟨d0, d1⟩ := link_cells2 (eb ▸ HRb.out) k (by rw [HN2.out]; exact hkn)
              obtain ⟨x1, HX1⟩ : ∃ x, (kth2 ls k).a = x := ⟨_, rfl⟩
              obtain ⟨x2, HX2⟩ : ∃ x, (kth2 ls k).b = x := ⟨_, rfl⟩
              rw [HX1] at c0 d0
              rw [HX2] at c1 d1
              clear HX1 HX2
              have EA := Lib.hid (HAa2.out.symm.trans ea)
              have EB := Lib.hid (HAb2.out.symm.trans eb)
              rw [EA.out] at a3
              rw [EB.out] at b3
              clear ea eb
              go_wp2_with fail
              go_quiet (fail)
              go_wp2
              go_roundw
              case rel => exact ⟨k + 1, by omega, by go_num, below_drewN HBr.out _⟩
              case measure => simp [intOf]; omega
            · have hke : k = n2 := by omega
              subst hke
              go_wp2
              go_loopw [8] (fun i wr => ∃ k : Nat, k ≤ n4 ∧ i = .int .i64 (k : Int) ∧ Hid (Below V0.heap.size V0 wr)) (fun i _ => n4 - (intOf i).toNat)
              case atStart => exact ⟨0, Nat.zero_le _, rfl, HBr.out⟩
              case round =>
                obtain ⟨k, hk, rfl, HBr⟩ := hrel
                have HBr0 : Hid (Below w.heap.size w wr) := HB.out.trans (HBr.out.mono HB.out.size)
                have KAr := Lib.hid (KA.out.below HBr.out hz0)
                have KBr := Lib.hid (KB.out.below HBr.out hz1)
                have hzr0 : w.heap.size < wr.heap.size := KAr.out.lt
                have hzr1 : w.heap.size + 1 < wr.heap.size := KBr.out.lt
                clear a0 a1 a2 a3 a4 a5 b0 b1 b2 b3 b4 b5
                obtain ⟨a0, a1, a2, a3, a4, a5⟩ := run_cells KAr.out
                obtain ⟨b0, b1, b2, b3, b4, b5⟩ := run_cells KBr.out
                have hk0 : (0 : Int) ≤ (k : Int) := by omega
                by_cases hkn : k < n4
                · have hki : (k : Int) < (n4 : Int) := by omega
                  have HRa := Lib.hid (HH.out.r4.belowS HBr0.out)
                  have HRb := Lib.hid (HH'.out.r4.belowS HBr0.out)
                  obtain ⟨ca, oa, ea⟩ := HRa.out.some_ (by rw [HN4.out]; omega)
                  obtain ⟨cb, ob, eb⟩ := HRb.out.some_ (by rw [HN4'.out]; omega)
                  obtain ⟨c0, c1, c2, c3, c4, c5⟩ := piece_cells6 (ea ▸ HRa.out) k (by rw [HN4.out]; exact hkn)
                  obtain ⟨d0, d1, d2, d3, d4, d5⟩ := piece_cells6 (eb ▸ HRb.out) k (by rw [HN4'.out]; exact hkn)
                  have hla := ((ea ▸ HRa.out : RowAt QK wr wr.heap.size (some ⟨ca, oa, none⟩) r.qh).lt (by rw [HN4.out]; omega)).1
                  have hlb := ((eb ▸ HRb.out : RowAt QK wr wr.heap.size (some ⟨cb, ob, none⟩) r'.qh).lt (by rw [HN4'.out]; omega)).1
                  have HFa := Lib.hid (HH.out.piece k (by rw [HN4.out]; exact hkn))
                  have HFb := Lib.hid (HH'.out.piece k (by rw [HN4'.out]; exact hkn))
                  have HE := Lib.hid (HS.out.qk k)
                  obtain ⟨X, HX⟩ : ∃ x, Hid (qhth r.qh k = x) := ⟨_, rfl⟩
                  obtain ⟨Y, HY⟩ : ∃ x, Hid (qhth r'.qh k = x) := ⟨_, rfl⟩
                  rw [HX.out] at c0 c1 c2 c3 c4 c5 HFa HE
                  rw [HY.out] at d0 d1 d2 d3 d4 d5 HFb HE
                  obtain ⟨⟨xf, xt, xl, xi, xtx, xpf⟩, xa1, xc1⟩ := X
                  obtain ⟨yf, ya1, yc1⟩ := Y
                  have he := HE.out
                  dsimp only at he
                  subst he
                  dsimp only at c0 c1 c2 c3 c4 c5 d0 d1 d2 d3 d4 d5
                  obtain ⟨y1, HY1⟩ : ∃ x, Hid (xpf.length = x) := ⟨_, rfl⟩
                  have CS : Hid (∀ U, Below wr.heap.size wr U → Calls Try.prog 25 #[.slice xa1 y1 xc1, .slice ya1 y1 yc1] U fun e w' => e = .returned (.bool true) ∧ ∃ q, w' = U.drewN q) := fun U hU => by
                    have hB := HBr0.out.trans (hU.mono HBr0.out.size)
                    have hm := Nat.le_trans HFa.out.le HFa.out.most
                    have := same_any xa1 xc1 xpf ya1 yc1 xpf U (HFa.out.ints.belowS hB) (HFb.out.ints.belowS hB) hm hm
                    rw [HY1.out, decide_eq_true rfl] at this
                    exact this
                  rw [HY1.out] at c5 d5
                  have EA := Lib.hid (HAa4.out.symm.trans ea)
                  have EB := Lib.hid (HAb4.out.symm.trans eb)
                  have a5' := a5
                  rw [EA.out] at a5'
                  have b5' := b5
                  rw [EB.out] at b5'
                  clear ea eb a5 b5
                  obtain ⟨V1, HV1⟩ : ∃ U, Hid (wr.alloc (.cells #[.int .i64 xf, .int .i64 xt, .int .i64 xl, .int .i64 xi, .string xtx, .slice xa1 y1 xc1] 58) = U) := ⟨_, rfl⟩
                  have K1 : Hid (Blk V1 wr.heap.size 58 #[.int .i64 xf, .int .i64 xt, .int .i64 xl, .int .i64 xi, .string xtx, .slice xa1 y1 xc1]) := by rw [← HV1.out]; exact Blk.new _ _ _
                  have HB1 : Hid (Below wr.heap.size wr V1) := by rw [← HV1.out]; exact (Below.refl _ wr).alloc (Nat.le_refl _) _
                  have u5 := (HB1.out.cell (p := ⟨w.heap.size + 1, 5, none⟩) hzr1).trans b5'
                  have f0 := (HB1.out.cell (p := ⟨cb, ob + k * 6, none⟩) hlb).trans d0
                  have f1 := (HB1.out.cell (p := ⟨cb, ob + k * 6 + 1, none⟩) hlb).trans d1
                  have f2 := (HB1.out.cell (p := ⟨cb, ob + k * 6 + 2, none⟩) hlb).trans d2
                  have f3 := (HB1.out.cell (p := ⟨cb, ob + k * 6 + 3, none⟩) hlb).trans d3
                  have f4 := (HB1.out.cell (p := ⟨cb, ob + k * 6 + 4, none⟩) hlb).trans d4
                  have f5 := (HB1.out.cell (p := ⟨cb, ob + k * 6 + 5, none⟩) hlb).trans d5
                  clear d0 d1 d2 d3 d4 d5
                  go_upto_region 22 with fail
                  rw [HV1.out]
                  obtain ⟨V2, HV2⟩ : ∃ U, Hid (V1.alloc (.cells #[.int .i64 xf, .int .i64 xt, .int .i64 xl, .int .i64 xi, .string xtx, .slice ya1 y1 yc1] 58) = U) := ⟨_, rfl⟩
                  have K2 : Hid (Blk V2 V1.heap.size 58 #[.int .i64 xf, .int .i64 xt, .int .i64 xl, .int .i64 xi, .string xtx, .slice ya1 y1 yc1]) := by rw [← HV2.out]; exact Blk.new _ _ _
                  have K1b : Hid (Blk V2 wr.heap.size 58 #[.int .i64 xf, .int .i64 xt, .int .i64 xl, .int .i64 xi, .string xtx, .slice xa1 y1 xc1]) := by rw [← HV2.out]; exact K1.out.alloc _
                  have HB2 : Hid (Below wr.heap.size wr V2) := by rw [← HV2.out]; exact HB1.out.alloc HB1.out.size _
                  have HB2V : Hid (Below V0.heap.size V0 V2) := HBr.out.trans (HB2.out.mono HBr.out.size)
                  obtain ⟨g0, g1, g2, g3, g4, g5⟩ := run_cells K1b.out
                  obtain ⟨h0, h1, h2, h3, h4, h5⟩ := run_cells K2.out
                  have CS2 := Lib.hid (CS.out V2 HB2.out)
                  go_upto_region 23 with fail
                  rw [HV2.out]
                  go_wp2_with fail
                  refine CS2.out.mono ?_
                  rintro e w2 ⟨rfl, qn, rfl⟩
                  go_wp2
                  go_roundw
                  case rel => exact ⟨k + 1, by omega, by go_num, below_drewN HB2V.out qn⟩
                  case measure => simp [intOf]; omega
                · have hke : k = n4 := by omega
                  subst hke
                  go_wp2
                  go_ret
                  exact ⟨rfl, HBr0.out⟩
end Go.Proofs.Ytkmebilhbjcfpaa
