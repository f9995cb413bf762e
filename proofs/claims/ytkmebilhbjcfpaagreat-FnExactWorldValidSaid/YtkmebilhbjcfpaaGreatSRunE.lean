/- Contract of the model's l51Feed: it answers as the data say. Conditions: the run and the feed lie in memory, the blocks of the writer are short and as many as its head says. -/
import Derived.Test.YtkmebilhbjcfpaaGreatBaseA
import Derived.Test.YtkmebilhbjcfpaaGreatBaseS
import Derived.Test.YtkmebilhbjcfpaaGreatSFeedValid
import Derived.Deep.RegionWith
namespace Go.Proofs.YtkmebilhbjcfpaaGreat
open Go.RowKit
set_option linter.unusedVariables false

set_option maxHeartbeats 8000000 in
set_option maxRecDepth 100000 in
theorem sfeedW_any (sec bad : Int) (r : WR) (ls : List LinkD) (n2 : Nat) (H : FH) (w : World) (h : RunAt w w.heap.size r ls) (hH : FhAt w w.heap.size H) {m : Nat} (hm : r.fh.length = m) (hp : 0 < m)
    (hs : Short (fhth r.fh 0).f.bs) (h16 : (fhth r.fh 0).f.bs.length ≤ 16) (hl : ((fhth r.fh 0).f.bs.length : Int) = (fhth r.fh 0).f.l) :
    Calls Tryz.prog 24 #[.agg #[.int .i64 sec, .int .i64 bad, .slice r.A1 m r.c1, .slice r.A2 n2 r.c2, .slice r.A3 r.ah.length r.c3, .slice r.A4 r.qh.length r.c4], fhV H] w fun e w' => e = .returned (.bool (feedB sec (fhth r.fh 0).f.l (fhth r.fh 0).f.bs H.f)) ∧ Below w.heap.size w w' := by
  obtain ⟨⟨p, l, d, s, bs, hs1⟩, A1, c1, A2, c2⟩ := H
  have CF : Hid (∀ U, Below w.heap.size w U → Calls Tryz.prog 21 #[feedV p l d s A1 bs.length c1 A2 hs1.length c2] U fun e w' => e = .returned (.bool (okB ⟨p, l, d, s, bs, hs1⟩)) ∧ Below U.heap.size U w') := fun U hU => sfeedValid_any p l d s A1 c1 A2 c2 bs hs1 U (hH.feed.belowS hU)
  obtain ⟨n1, HN1⟩ : ∃ x, Hid (bs.length = x) := ⟨_, rfl⟩
  obtain ⟨nh, HNH⟩ : ∃ x, Hid (hs1.length = x) := ⟨_, rfl⟩
  rw [HN1.out, HNH.out] at CF
  have HFE := Lib.hid hH.feed
  obtain ⟨b, o, hA1⟩ := h.r1.some_ (by rw [hm]; exact hp)
  have hc := feed_cells6 (hA1 ▸ h.r1) 0 (by rw [hm]; exact hp)
  have x1 := hc.2.1
  have x4 := hc.2.2.2.2.1
  rw [show o + 0 * 6 + 1 = o + 1 by omega] at x1
  rw [show o + 0 * 6 + 4 = o + 4 by omega] at x4
  have hbl : b < w.heap.size := ((hA1 ▸ h.r1 : RowAt FK w w.heap.size (some ⟨b, o, none⟩) r.fh).lt (by rw [hm]; exact hp)).1
  have HRUN := Lib.hid h
  have HF1 := Lib.hid (h.feed 0 (by rw [hm]; exact hp))
  obtain ⟨F, HF0⟩ : ∃ x, Hid (fhth r.fh 0 = x) := ⟨_, rfl⟩
  rw [HF0.out] at hs h16 hl x1 x4 HF1 ⊢
  have HM := Lib.hid hm
  have HSH := Lib.hid hs
  obtain ⟨b0, HBS⟩ : ∃ x, Hid (F.f.bs = x) := ⟨_, rfl⟩
  obtain ⟨l0, HL0⟩ : ∃ x, F.f.l = x := ⟨_, rfl⟩
  rw [HBS.out] at HSH h16 hl x4 ⊢
  rw [HL0] at hl x1 ⊢
  have CL : Hid (∀ U, Below w.heap.size w U → ∀ k : Nat, k ≤ b0.length → Calls Tryz.prog 61 #[.agg #[.int .i64 sec, .int .i64 bad, .slice r.A1 m r.c1, .slice r.A2 n2 r.c2, .slice r.A3 r.ah.length r.c3, .slice r.A4 r.qh.length r.c4], .int .i64 (k : Int)] U (RetSome U (leafL (b0.take k)))) := fun U hU k hk => by
    have := sleavesW_some sec bad r ls n2 U (HRUN.out.belowS hU) (by rw [HM.out]; exact hp) k (by rw [HF0.out, HBS.out]; exact hk) (by rw [HF0.out, HBS.out]; exact HSH.out) (by rw [HF0.out, HBS.out]; omega)
    rw [HF0.out, HBS.out] at this
    rw [← HM.out]
    exact this
  rw [hA1] at CL ⊢
  clear hs hA1 hm h hH HL0 hc
  obtain ⟨V0, HV0⟩ : ∃ W, Hid ((w.alloc (.cells #[.int .i64 sec, .int .i64 bad, .slice (some ⟨b, o, none⟩) m r.c1, .slice r.A2 n2 r.c2, .slice r.A3 r.ah.length r.c3, .slice r.A4 r.qh.length r.c4] 35)).alloc (.cells #[.int .i64 p, .int .i64 l, .int .i64 d, .int .i64 s, .slice A1 n1 c1, .slice A2 nh c2] 56) = W) := ⟨_, rfl⟩
  have KA : Hid (Blk V0 w.heap.size 35 #[.int .i64 sec, .int .i64 bad, .slice (some ⟨b, o, none⟩) m r.c1, .slice r.A2 n2 r.c2, .slice r.A3 r.ah.length r.c3, .slice r.A4 r.qh.length r.c4]) := by rw [← HV0.out]; exact (Blk.new w _ _).alloc _
  have KP : Hid (Blk V0 (w.heap.size + 1) 56 #[.int .i64 p, .int .i64 l, .int .i64 d, .int .i64 s, .slice A1 n1 c1, .slice A2 nh c2]) := by
    rw [← HV0.out]
    have := Blk.new (w.alloc (.cells #[.int .i64 sec, .int .i64 bad, .slice (some ⟨b, o, none⟩) m r.c1, .slice r.A2 n2 r.c2, .slice r.A3 r.ah.length r.c3, .slice r.A4 r.qh.length r.c4] 35)) 56 #[.int .i64 p, .int .i64 l, .int .i64 d, .int .i64 s, .slice A1 n1 c1, .slice A2 nh c2]
    rwa [World.size_alloc] at this
  have HB : Hid (Below w.heap.size w V0) := by rw [← HV0.out]; exact ((Below.refl _ w).alloc (Nat.le_refl _) _).alloc (by rw [World.size_alloc]; omega) _
  obtain ⟨a0, a1, a2, a3, a4, a5⟩ := run_cells KA.out
  obtain ⟨p0, p1, p2, p3, p4, p5⟩ := run_cells KP.out
  have d1 := (HB.out.cell (p := ⟨b, o + 1, none⟩) hbl).trans x1
  have d4 := (HB.out.cell (p := ⟨b, o + 4, none⟩) hbl).trans x4
  have hz0 : w.heap.size < V0.heap.size := KA.out.lt
  have hz1 : w.heap.size + 1 < V0.heap.size := KP.out.lt
  obtain ⟨res, HR2⟩ : ∃ x, Hid (feedB sec l0 b0 ⟨p, l, d, s, bs, hs1⟩ = x) := ⟨_, rfl⟩
  obtain ⟨sm, HSM⟩ : ∃ x, Hid (sameB ⟨p, l, d, s, bs, hs1⟩ b0 = x) := ⟨_, rfl⟩
  obtain ⟨hd, HHD⟩ : ∃ x, Hid (headB sec b0 ⟨p, l, d, s, bs, hs1⟩ = x) := ⟨_, rfl⟩
  have HRES : Hid (res = (okB ⟨p, l, d, s, bs, hs1⟩ && (decide (p = publicOr sec) && (decide (l ≤ l0) && (sm && hd))))) := by rw [← HR2.out, ← HSM.out, ← HHD.out]; rfl
  unfold fhV
  dsimp only
  rw [HN1.out, HNH.out, HR2.out]
  go_enter Tryz.func24, Tryz.ntmps24
  go_upto_region 1 with fail
  rw [HV0.out]
  obtain ⟨pu, HPU⟩ : ∃ x, Hid (publicOr sec = x) := ⟨_, rfl⟩
  have CP := Lib.hid (fun U => spublic_any sec U)
  rw [HPU.out] at CP HRES
  cases hok : okB ⟨p, l, d, s, bs, hs1⟩ with
  | false =>
    rw [hok] at CF HRES
    have HF : Hid (res = false) := by show _ = _; rw [HRES.out]; rfl
    clear hok
    refine wp_region_held_drew (S := (fun w' => w'.cell? ⟨w.heap.size, 0, none⟩ = some (.int .i64 sec) ∧ w'.cell? ⟨w.heap.size, 2, none⟩ = some (.slice (some ⟨b, o, none⟩) m r.c1) ∧ w'.cell? ⟨w.heap.size + 1, 0, none⟩ = some (.int .i64 p) ∧ w'.cell? ⟨w.heap.size + 1, 1, none⟩ = some (.int .i64 l) ∧ w'.cell? ⟨w.heap.size + 1, 2, none⟩ = some (.int .i64 d) ∧ w'.cell? ⟨w.heap.size + 1, 3, none⟩ = some (.int .i64 s) ∧ w'.cell? ⟨w.heap.size + 1, 4, none⟩ = some (.slice A1 n1 c1) ∧ w'.cell? ⟨w.heap.size + 1, 5, none⟩ = some (.slice A2 nh c2) ∧ w'.cell? ⟨b, o + 1, none⟩ = some (.int .i64 l0))) (by kernel_rfl) (⟨a0, a2, p0, p1, p2, p3, p4, p5, d1⟩) (fun hHeld => ?_)
    refine wtk 0 ?zv1 8 rfl rfl (by kernel_rfl) (fun _ _ _ h => h) (by kernel_rfl) ?zy1 (by assumption) ?zr1
    case zy1 => (intro w hSw; (try dsimp only at hSw); go_simp; try with_reducible rfl)
    simp only [Act.put, aput]
    refine wpAnyH_ready (rs := [1]) (by kernel_rfl) (by simp) (AllReadyH.cons rfl (fun K hK => ?_) AllReadyH.nil)
    go_simp
    go_at_call 21
    refine (CF.out _ (below_drew HB.out)).mono ?_
    rintro e w2 ⟨rfl, hb2⟩
    have HB2 : Hid (Below V0.heap.size V0 w2) := below_drew_l hb2
    have HB2w : Hid (Below w.heap.size w w2) := HB.out.trans (HB2.out.mono HB.out.size)
    obtain ⟨m0, m1, m2, m3, m4, m5⟩ := run_cells (KA.out.below HB2.out hz0)
    obtain ⟨k0, k1, k2, k3, k4, k5⟩ := run_cells (KP.out.below HB2.out hz1)
    have y1 := (HB2w.out.cell (p := ⟨b, o + 1, none⟩) hbl).trans x1
    clear hb2
    refine hK.out _ _ (⟨m0, m2, k0, k1, k2, k3, k4, k5, y1⟩) (fun hHeld => ?_)
    clear hK K
    (try simp only [Act.put, aput])
    refine wtk 2 ?zv2 10 rfl rfl (by kernel_rfl) (fun _ _ _ h => h) (by kernel_rfl) ?zy2 (by assumption) ?zr2
    case zy2 => (intro w hSw; (try dsimp only at hSw); go_simp; try with_reducible rfl)
    simp only [Act.put, aput]
    refine wtk 3 ?zv3 11 rfl rfl (by kernel_rfl) (fun _ _ _ h => h) (by kernel_rfl) ?zy3 (by assumption) ?zr3
    case zy3 => (intro w hSw; (try dsimp only at hSw); go_simp; try with_reducible rfl)
    simp only [Act.put, aput]
    refine wtu 4 12 rfl rfl (by kernel_rfl) (fun _ _ _ h => h) (by kernel_rfl) (by assumption) ?_
    simp only [Act.put, aput]
    refine wtu 5 13 rfl rfl (by kernel_rfl) (fun _ _ _ h => h) (by kernel_rfl) (by assumption) ?_
    simp only [Act.put, aput]
    refine wtu 6 14 rfl rfl (by kernel_rfl) (fun _ _ _ h => h) (by kernel_rfl) (by assumption) ?_
    simp only [Act.put, aput]
    refine wtu 7 15 rfl rfl (by kernel_rfl) (fun _ _ _ h => h) (by kernel_rfl) (by assumption) ?_
    simp only [Act.put, aput]
    refine wtu 8 16 rfl rfl (by kernel_rfl) (fun _ _ _ h => h) (by kernel_rfl) (by assumption) ?_
    simp only [Act.put, aput]
    refine wtu 9 17 rfl rfl (by kernel_rfl) (fun _ _ _ h => h) (by kernel_rfl) (by assumption) ?_
    simp only [Act.put, aput]
    refine wtk 10 ?zv4 18 rfl rfl (by kernel_rfl) (fun _ _ _ h => h) (by kernel_rfl) ?zy4 (by assumption) ?zr4
    case zy4 => (intro w hSw; (try dsimp only at hSw); go_simp; try with_reducible rfl)
    simp only [Act.put, aput]
    refine wtk 11 ?zv5 19 rfl rfl (by kernel_rfl) (fun _ _ _ h => h) (by kernel_rfl) ?zy5 (by assumption) ?zr5
    case zy5 => (intro w hSw; (try dsimp only at hSw); go_simp; try with_reducible rfl)
    simp only [Act.put, aput]
    refine wtu 12 20 rfl rfl (by kernel_rfl) (fun _ _ _ h => h) (by kernel_rfl) (by assumption) ?_
    simp only [Act.put, aput]
    refine wtu 13 21 rfl rfl (by kernel_rfl) (fun _ _ _ h => h) (by kernel_rfl) (by assumption) ?_
    simp only [Act.put, aput]
    refine wtu 14 22 rfl rfl (by kernel_rfl) (fun _ _ _ h => h) (by kernel_rfl) (by assumption) ?_
    simp only [Act.put, aput]
    refine wtu 15 23 rfl rfl (by kernel_rfl) (fun _ _ _ h => h) (by kernel_rfl) (by assumption) ?_
    simp only [Act.put, aput]
    refine wtu 16 24 rfl rfl (by kernel_rfl) (fun _ _ _ h => h) (by kernel_rfl) (by assumption) ?_
    simp only [Act.put, aput]
    refine wtu 17 25 rfl rfl (by kernel_rfl) (fun _ _ _ h => h) (by kernel_rfl) (by assumption) ?_
    simp only [Act.put, aput]
    refine wtu 18 26 rfl rfl (by kernel_rfl) (fun _ _ _ h => h) (by kernel_rfl) (by assumption) ?_
    simp only [Act.put, aput]
    refine wtu 19 27 rfl rfl (by kernel_rfl) (fun _ _ _ h => h) (by kernel_rfl) (by assumption) ?_
    simp only [Act.put, aput]
    refine wtu 20 28 rfl rfl (by kernel_rfl) (fun _ _ _ h => h) (by kernel_rfl) (by assumption) ?_
    simp only [Act.put, aput]
    refine wtu 21 29 rfl rfl (by kernel_rfl) (fun _ _ _ h => h) (by kernel_rfl) (by assumption) ?_
    simp only [Act.put, aput]
    refine wtk 22 ?zv6 30 rfl rfl (by kernel_rfl) (fun _ _ _ h => h) (by kernel_rfl) ?zy6 (by assumption) ?zr6
    case zy6 => (intro w hSw; (try dsimp only at hSw); go_simp; try with_reducible rfl)
    simp only [Act.put, aput]
    refine wpAnyH_done (by kernel_rfl) ?_ _
    go_wp2
    go_ret
    exact ⟨ret_bool HF.out.symm, HB2w.out⟩
  | true =>
    have HOK := Lib.hid ((okB_iff _).1 hok)
    rw [hok] at CF HRES
    clear hok
    by_cases hpu : p = pu
    · have hpd : decide (p = pu) = true := decide_eq_true hpu
      have hpb : (p != pu) = false := by rw [hpu]; simp
      rw [hpd] at HRES
      clear hpu hpd
      by_cases hll : l ≤ l0
      · have hld : decide (l ≤ l0) = true := decide_eq_true hll
        have hlg : decide (l0 < l) = false := decide_eq_false (by omega)
        have hlg2 : ¬ l0 < l := by omega
        rw [hld] at HRES
        refine wp_region_held_drew (S := (fun w' => w'.cell? ⟨w.heap.size, 0, none⟩ = some (.int .i64 sec) ∧ w'.cell? ⟨w.heap.size, 2, none⟩ = some (.slice (some ⟨b, o, none⟩) m r.c1) ∧ w'.cell? ⟨w.heap.size + 1, 0, none⟩ = some (.int .i64 p) ∧ w'.cell? ⟨w.heap.size + 1, 1, none⟩ = some (.int .i64 l) ∧ w'.cell? ⟨w.heap.size + 1, 2, none⟩ = some (.int .i64 d) ∧ w'.cell? ⟨w.heap.size + 1, 3, none⟩ = some (.int .i64 s) ∧ w'.cell? ⟨w.heap.size + 1, 4, none⟩ = some (.slice A1 n1 c1) ∧ w'.cell? ⟨w.heap.size + 1, 5, none⟩ = some (.slice A2 nh c2) ∧ w'.cell? ⟨b, o + 1, none⟩ = some (.int .i64 l0))) (by kernel_rfl) (⟨a0, a2, p0, p1, p2, p3, p4, p5, d1⟩) (fun hHeld => ?_)
        refine wtk 0 ?zv7 8 rfl rfl (by kernel_rfl) (fun _ _ _ h => h) (by kernel_rfl) ?zy7 (by assumption) ?zr7
        case zy7 => (intro w hSw; (try dsimp only at hSw); go_simp; try with_reducible rfl)
        simp only [Act.put, aput]
        refine wpAnyH_ready (rs := [1]) (by kernel_rfl) (by simp) (AllReadyH.cons rfl (fun K hK => ?_) AllReadyH.nil)
        go_simp
        go_at_call 21
        refine (CF.out _ (below_drew HB.out)).mono ?_
        rintro e w2 ⟨rfl, hb2⟩
        have HB2 : Hid (Below V0.heap.size V0 w2) := below_drew_l hb2
        have HB2w : Hid (Below w.heap.size w w2) := HB.out.trans (HB2.out.mono HB.out.size)
        obtain ⟨m0, m1, m2, m3, m4, m5⟩ := run_cells (KA.out.below HB2.out hz0)
        obtain ⟨k0, k1, k2, k3, k4, k5⟩ := run_cells (KP.out.below HB2.out hz1)
        have y1 := (HB2w.out.cell (p := ⟨b, o + 1, none⟩) hbl).trans x1
        clear hb2
        refine hK.out _ _ (⟨m0, m2, k0, k1, k2, k3, k4, k5, y1⟩) (fun hHeld => ?_)
        clear hK K
        (try simp only [Act.put, aput])
        refine wtk 2 ?zv8 10 rfl rfl (by kernel_rfl) (fun _ _ _ h => h) (by kernel_rfl) ?zy8 (by assumption) ?zr8
        case zy8 => (intro w hSw; (try dsimp only at hSw); go_simp; try with_reducible rfl)
        simp only [Act.put, aput]
        refine wtk 3 ?zv9 11 rfl rfl (by kernel_rfl) (fun _ _ _ h => h) (by kernel_rfl) ?zy9 (by assumption) ?zr9
        case zy9 => (intro w hSw; (try dsimp only at hSw); go_simp; try with_reducible rfl)
        simp only [Act.put, aput]
        refine wtk 4 ?zv10 12 rfl rfl (by kernel_rfl) (fun _ _ _ h => h) (by kernel_rfl) ?zy10 (by assumption) ?zr10
        case zy10 => (intro w hSw; (try dsimp only at hSw); go_simp; try with_reducible rfl)
        simp only [Act.put, aput]
        refine wtk 5 ?zv11 13 rfl rfl (by kernel_rfl) (fun _ _ _ h => h) (by kernel_rfl) ?zy11 (by assumption) ?zr11
        case zy11 => (intro w hSw; (try dsimp only at hSw); go_simp; try with_reducible rfl)
        simp only [Act.put, aput]
        refine wtk 6 ?zv12 14 rfl rfl (by kernel_rfl) (fun _ _ _ h => h) (by kernel_rfl) ?zy12 (by assumption) ?zr12
        case zy12 => (intro w hSw; (try dsimp only at hSw); go_simp; try with_reducible rfl)
        simp only [Act.put, aput]
        refine wtk 7 ?zv13 15 rfl rfl (by kernel_rfl) (fun _ _ _ h => h) (by kernel_rfl) ?zy13 (by assumption) ?zr13
        case zy13 => (intro w hSw; (try dsimp only at hSw); go_simp; try with_reducible rfl)
        simp only [Act.put, aput]
        refine wpAnyH_ready (rs := [8]) (by kernel_rfl) (by simp) (AllReadyH.cons rfl (fun K hK => ?_) AllReadyH.nil)
        go_simp
        go_at_call 53
        refine (CP.out _).mono ?_
        rintro e w3 ⟨rfl, hw3⟩
        rw [← hw3]
        clear hw3
        refine hK.out _ _ (⟨m0, m2, k0, k1, k2, k3, k4, k5, y1⟩) (fun hHeld => ?_)
        clear hK K
        (try simp only [Act.put, aput])
        refine wtk 9 ?zv14 17 rfl rfl (by kernel_rfl) (fun _ _ _ h => h) (by kernel_rfl) ?zy14 (by assumption) ?zr14
        case zy14 => (intro w hSw; (try dsimp only at hSw); go_simp; try with_reducible rfl)
        simp only [Act.put, aput]
        refine wtk 10 ?zv15 18 rfl rfl (by kernel_rfl) (fun _ _ _ h => h) (by kernel_rfl) ?zy15 (by assumption) ?zr15
        case zy15 => (intro w hSw; (try dsimp only at hSw); go_simp; try with_reducible rfl)
        simp only [Act.put, aput]
        refine wtk 11 ?zv16 19 rfl rfl (by kernel_rfl) (fun _ _ _ h => h) (by kernel_rfl) ?zy16 (by assumption) ?zr16
        case zy16 => (intro w hSw; (try dsimp only at hSw); go_simp; try with_reducible rfl)
        simp only [Act.put, aput]
        refine wtk 12 ?zv17 20 rfl rfl (by kernel_rfl) (fun _ _ _ h => h) (by kernel_rfl) ?zy17 (by assumption) ?zr17
        case zy17 => (intro w hSw; (try dsimp only at hSw); go_simp; try with_reducible rfl)
        simp only [Act.put, aput]
        refine wtk 13 ?zv18 21 rfl rfl (by kernel_rfl) (fun _ _ _ h => h) (by kernel_rfl) ?zy18 (by assumption) ?zr18
        case zy18 => (intro w hSw; (try dsimp only at hSw); go_simp; try with_reducible rfl)
        simp only [Act.put, aput]
        refine wtk 14 ?zv19 22 rfl rfl (by kernel_rfl) (fun _ _ _ h => h) (by kernel_rfl) ?zy19 (by assumption) ?zr19
        case zy19 => (intro w hSw; (try dsimp only at hSw); go_simp; try with_reducible rfl)
        simp only [Act.put, aput]
        refine wtk 15 ?zv20 23 rfl rfl (by kernel_rfl) (fun _ _ _ h => h) (by kernel_rfl) ?zy20 (by assumption) ?zr20
        case zy20 => (intro w hSw; (try dsimp only at hSw); go_simp; try with_reducible rfl)
        simp only [Act.put, aput]
        refine wtk 16 ?zv21 24 rfl rfl (by kernel_rfl) (fun _ _ _ h => h) (by kernel_rfl) ?zy21 (by assumption) ?zr21
        case zy21 => (intro w hSw; (try dsimp only at hSw); go_simp; try with_reducible rfl)
        simp only [Act.put, aput]
        refine wtk 17 ?zv22 25 rfl rfl (by kernel_rfl) (fun _ _ _ h => h) (by kernel_rfl) ?zy22 (by assumption) ?zr22
        case zy22 => (intro w hSw; (try dsimp only at hSw); go_simp; try with_reducible rfl)
        simp only [Act.put, aput]
        refine wtk 18 ?zv23 26 rfl rfl (by kernel_rfl) (fun _ _ _ h => h) (by kernel_rfl) ?zy23 (by assumption) ?zr23
        case zy23 => (intro w hSw; (try dsimp only at hSw); go_simp; try with_reducible rfl)
        simp only [Act.put, aput]
        refine wtk 19 ?zv24 27 rfl rfl (by kernel_rfl) (fun _ _ _ h => h) (by kernel_rfl) ?zy24 (by assumption) ?zr24
        case zy24 => (intro w hSw; (try dsimp only at hSw); go_simp; try with_reducible rfl)
        simp only [Act.put, aput]
        refine wtk 20 ?zv25 28 rfl rfl (by kernel_rfl) (fun _ _ _ h => h) (by kernel_rfl) ?zy25 (by assumption) ?zr25
        case zy25 => (intro w hSw; (try dsimp only at hSw); go_simp; try with_reducible rfl)
        simp only [Act.put, aput]
        refine wtk 21 ?zv26 29 rfl rfl (by kernel_rfl) (fun _ _ _ h => h) (by kernel_rfl) ?zy26 (by assumption) ?zr26
        case zy26 => (intro w hSw; (try dsimp only at hSw); go_simp; try with_reducible rfl)
        simp only [Act.put, aput]
        refine wtk 22 ?zv27 30 rfl rfl (by kernel_rfl) (fun _ _ _ h => h) (by kernel_rfl) ?zy27 (by assumption) ?zr27
        case zy27 => (intro w hSw; (try dsimp only at hSw); go_simp; try with_reducible rfl)
        simp only [Act.put, aput]
        refine wpAnyH_done (by kernel_rfl) ?_ _
        have hl1 : l = (n1 : Int) := by have := HOK.out.2.2.1.1; rw [← HN1.out]; exact this.symm
        have hn16 : n1 ≤ 16 := by have := HOK.out.len.1; rw [← HN1.out]; exact this
        have hnh : nh = n1 := by have := HOK.out.len.2; rw [← HN1.out, ← HNH.out]; exact this
        have hnb : n1 ≤ b0.length := by omega
        subst hl1
        obtain rfl : n1 = nh := hnh.symm
        have HTX := Lib.hid HOK.out.2.2.2.1
        have HF2 := Lib.hid (HFE.out.belowS HB2w.out)
        have HW2 := Lib.hid (HF1.out.feed.strs.belowS HB2w.out)
        rw [HBS.out] at HW2
        have y4 := (HB2w.out.cell (p := ⟨b, o + 4, none⟩) hbl).trans x4
        have KA2 := Lib.hid (KA.out.below HB2.out hz0)
        have KP2 := Lib.hid (KP.out.below HB2.out hz1)
        clear hHeld a0 a1 a2 a3 a4 a5 p0 p1 p2 p3 p4 p5 d1 d4 hld hlg hlg2 CF CP
        go_wp2
        go_loopw [5] (fun i wr => ∃ k : Nat, k ≤ n1 ∧ i = .int .i64 (k : Int) ∧ Hid (∃ q, wr = w2.drewN q) ∧ Hid (∀ j, j < k → bth hs1 j = true → textOr (sth bs j) = textOr (sth b0 j))) (fun i _ => n1 - (intOf i).toNat)
        case atStart => exact ⟨0, Nat.zero_le _, rfl, ⟨0, rfl⟩, fun j hj => absurd hj (Nat.not_lt_zero _)⟩
        case round =>
          obtain ⟨k, hk, rfl, HQ, HC⟩ := hrel
          have HQN : Hid (∀ x, ∃ q, wr.drewN x = w2.drewN q) := fun x => by obtain ⟨q, e⟩ := HQ.out; subst e; exact ⟨q + x, World.drewN_drewN _ _ _⟩
          have HBr : Hid (Below w.heap.size w wr) := by obtain ⟨q, e⟩ := HQ.out; subst e; exact below_drewN HB2w.out q
          have CEL : Hid (∀ x : Addr, wr.cell? x = w2.cell? x) := fun x => by obtain ⟨q, e⟩ := HQ.out; subst e; rfl
          have g1 := (CEL.out ⟨w.heap.size + 1, 1, none⟩).trans k1
          have g4 := (CEL.out ⟨w.heap.size + 1, 4, none⟩).trans k4
          have g5 := (CEL.out ⟨w.heap.size + 1, 5, none⟩).trans k5
          have f2 := (CEL.out ⟨w.heap.size, 2, none⟩).trans m2
          have f4 := (CEL.out ⟨b, o + 4, none⟩).trans y4
          have hk0 : (0 : Int) ≤ (k : Int) := by omega
          by_cases hkn : k < n1
          · have hki : (k : Int) < (n1 : Int) := by omega
            have hkb : (k : Int) < (b0.length : Int) := by omega
            obtain ⟨b2, o2, e2, _, hc2⟩ := HF2.out.bits (by rw [HNH.out]; omega)
            have h2 := (CEL.out ⟨b2, o2 + k, none⟩).trans (hc2 k (by rw [HNH.out]; omega))
            obtain ⟨b1, o1, e1, _, hc1⟩ := HF2.out.strs (by rw [HN1.out]; omega)
            have h1 := (CEL.out ⟨b1, o1 + k, none⟩).trans (hc1 k (by rw [HN1.out]; omega))
            obtain ⟨b3, o3, e3, _, hc3⟩ := HW2.out (by omega)
            have h3 := (CEL.out ⟨b3, o3 + k, none⟩).trans (hc3 k (by omega))
            rw [e1] at g4
            rw [e2] at g5
            rw [e3] at f4
            have ht1 := (HTX.out k (by show k < bs.length; rw [HN1.out]; exact hkn)).1
            have ht3 := HSH.out k (by omega)
            obtain ⟨v, HV⟩ : ∃ x, Hid (bth hs1 k = x) := ⟨_, rfl⟩
            obtain ⟨s1, HS1⟩ : ∃ x, Hid (sth bs k = x) := ⟨_, rfl⟩
            obtain ⟨s3, HS3⟩ : ∃ x, Hid (sth b0 k = x) := ⟨_, rfl⟩
            rw [HV.out] at h2
            rw [HS1.out] at h1
            rw [HS3.out] at h3
            have ht1' : s1.size ≤ 8 := by rw [← HS1.out]; exact ht1
            have ht3' : s3.size ≤ 8 := by rw [← HS3.out]; exact ht3
            have T1 := Lib.hid (fun U => stext1_any s1 U ht1')
            have T3 := Lib.hid (fun U => stext1_any s3 U ht3')
            have E1 : Hid (textOr s1 = textZ s1.data.toList) := textOr_y ht1'
            have E3 : Hid (textOr s3 = textZ s3.data.toList) := textOr_y ht3'
            obtain ⟨z1, HZ1⟩ : ∃ x, Hid (textZ s1.data.toList = x) := ⟨_, rfl⟩
            obtain ⟨z3, HZ3⟩ : ∃ x, Hid (textZ s3.data.toList = x) := ⟨_, rfl⟩
            rw [HZ1.out] at T1 E1
            rw [HZ3.out] at T3 E3
            have HS : Hid ((v = true → z1 = z3) → ∀ j, j < k + 1 → bth hs1 j = true → textOr (sth bs j) = textOr (sth b0 j)) := fun x j hj hb => by
              rcases Nat.lt_or_ge j k with e | e
              · exact HC.out j e hb
              · have : j = k := by omega
                subst this
                rw [HS1.out, HS3.out, E1.out, E3.out]
                exact x (by rw [← HV.out]; exact hb)
            have HNO : Hid (v = true → z1 ≠ z3 → sm = false) := fun x1 x2 => by
              rw [← HSM.out, Bool.eq_false_iff]
              intro e
              refine x2 ?_
              have := (sameB_iff _ _).1 e k (by show k < bs.length; rw [HN1.out]; exact hkn) (HV.out.trans x1)
              rw [← E1.out, ← E3.out, ← HS1.out, ← HS3.out]
              exact this
            clear hc1 hc2 hc3 e1 e2 e3 ht1 ht3 ht1' ht3'
            cases v with
            | false =>
              have HS2 := Lib.hid (HS.out (fun x => by cases x))
              go_wp2_with fail
              go_quiet (fail)
              go_wp2
              go_roundw
              case rel => exact ⟨k + 1, by omega, by go_num, HQN.out _, HS2.out⟩
              case measure => simp [intOf]; omega
            | true =>
              by_cases hz : z1 = z3
              · have HS2 := Lib.hid (HS.out (fun _ => hz))
                have hzb : (z1 != z3) = false := by rw [hz]; simp
                clear hz
                go_wp2_with fail
                go_quiet ((go_at_call 59; first | with_reducible exact Calls.quiet_of_same ((T1.out _).mono fun e w' h => ⟨h.1, h.2.symm⟩) | with_reducible exact Calls.quiet_of_same ((T3.out _).mono fun e w' h => ⟨h.1, h.2.symm⟩)))
                go_wp2
                go_roundw
                case rel => exact ⟨k + 1, by omega, by go_num, HQN.out _, HS2.out⟩
                case measure => simp [intOf]; omega
              · have hzb : (z1 != z3) = true := bne_iff_ne.2 hz
                have HF : Hid (res = false) := by show _ = _; rw [HRES.out, HNO.out rfl hz]; rfl
                clear hz
                go_wp2_with fail
                go_quiet ((go_at_call 59; first | with_reducible exact Calls.quiet_of_same ((T1.out _).mono fun e w' h => ⟨h.1, h.2.symm⟩) | with_reducible exact Calls.quiet_of_same ((T3.out _).mono fun e w' h => ⟨h.1, h.2.symm⟩)))
                go_wp2
                go_ret
                exact ⟨ret_bool HF.out.symm, below_drewN HBr.out _⟩
          · have hke : k = n1 := by omega
            subst hke
            have HST : Hid (sm = true) := by rw [← HSM.out]; exact (sameB_iff _ _).2 fun j hj hb => HC.out j (by have : j < bs.length := hj; rwa [HN1.out] at this) hb
            rw [HST.out] at HRES
            have q0 := (CEL.out ⟨w.heap.size, 0, none⟩).trans m0
            have q1 := (CEL.out ⟨w.heap.size, 1, none⟩).trans m1
            have q3 := (CEL.out ⟨w.heap.size, 3, none⟩).trans m3
            have q4 := (CEL.out ⟨w.heap.size, 4, none⟩).trans m4
            have q5 := (CEL.out ⟨w.heap.size, 5, none⟩).trans m5
            have u2 := (CEL.out ⟨w.heap.size + 1, 2, none⟩).trans k2
            have u3 := (CEL.out ⟨w.heap.size + 1, 3, none⟩).trans k3
            have HLL : Hid ((leafL (b0.take k)).length = k) := by show _ = _; rw [leafL_length, List.length_take]; omega
            obtain ⟨ml, HML⟩ : ∃ x, Hid (madeL sec (leafL (b0.take k)) = x) := ⟨_, rfl⟩
            obtain ⟨md, HMD⟩ : ∃ x, Hid (madeD sec (leafL (b0.take k)) = x) := ⟨_, rfl⟩
            obtain ⟨ms, HMS⟩ : ∃ x, Hid (madeS sec (leafL (b0.take k)) = x) := ⟨_, rfl⟩
            obtain ⟨mo, HMO⟩ : ∃ x, Hid (madeOk sec (leafL (b0.take k)) = x) := ⟨_, rfl⟩
            have CM : Hid (∀ U X c, OwnInts U w.heap.size (some ⟨X, 0, none⟩) c (leafL (b0.take k)) → Calls Tryz.prog 60 #[.int .i64 sec, .slice (some ⟨X, 0, none⟩) k c] U fun e w' => e = .returned (.tuple #[headV ml md ms, .bool mo]) ∧ Below U.heap.size U w') := fun U X c hO => by
              have := smake_any sec (leafL (b0.take k)) X 0 c U hO.ints hO.le.1 hO.le.2
              rw [HLL.out, HML.out, HMD.out, HMS.out, HMO.out] at this
              exact this
            have hzr0 : w.heap.size < wr.heap.size := by have := KA2.out.lt; obtain ⟨q, e⟩ := HQ.out; subst e; exact this
            have hzr1 : w.heap.size + 1 < wr.heap.size := by have := KP2.out.lt; obtain ⟨q, e⟩ := HQ.out; subst e; exact this
            have KAr : Hid (Blk wr w.heap.size 35 #[.int .i64 sec, .int .i64 bad, .slice (some ⟨b, o, none⟩) m r.c1, .slice r.A2 n2 r.c2, .slice r.A3 r.ah.length r.c3, .slice r.A4 r.qh.length r.c4]) := by obtain ⟨q, e⟩ := HQ.out; subst e; exact KA2.out
            have KPr : Hid (Blk wr (w.heap.size + 1) 56 #[.int .i64 p, .int .i64 (k : Int), .int .i64 d, .int .i64 s, .slice A1 k c1, .slice A2 k c2]) := by obtain ⟨q, e⟩ := HQ.out; subst e; exact KP2.out
            have newr : ¬ w.heap.size = wr.heap.size := (by have := hzr1; omega)
            have nfwr : ¬ w.heap.size + 1 = wr.heap.size := (by have := hzr1; omega)
            have ngwr : ¬ wr.heap.size = w.heap.size := (by have := hzr1; omega)
            have nhwr : ¬ wr.heap.size = w.heap.size + 1 := (by have := hzr1; omega)
            clear k0 k1 k2 k3 k4 k5 m0 m1 m2 m3 m4 m5 y1 y4 f4 g4 g5 u2 u3
            go_wp2_with fail
            go_region_held3 (fun w' => w'.cell? ⟨w.heap.size, 0, none⟩ = some (.int .i64 sec) ∧ w'.cell? ⟨w.heap.size, 1, none⟩ = some (.int .i64 bad) ∧ w'.cell? ⟨w.heap.size, 2, none⟩ = some (.slice (some ⟨b, o, none⟩) m r.c1) ∧ w'.cell? ⟨w.heap.size, 3, none⟩ = some (.slice r.A2 n2 r.c2) ∧ w'.cell? ⟨w.heap.size, 4, none⟩ = some (.slice r.A3 r.ah.length r.c3) ∧ w'.cell? ⟨w.heap.size, 5, none⟩ = some (.slice r.A4 r.qh.length r.c4) ∧ w'.cell? ⟨w.heap.size + 1, 1, none⟩ = some (.int .i64 (k : Int))) (go_keep)
              (first
                | (go_at_call 61; (with_reducible refine (CL.out wr.drew ?_ k hnb).mono ?_); exact below_drew HBr.out; rintro e w3 ⟨X3, c3, rfl, ho3, hb3⟩; have HB3 : Hid (Below wr.heap.size wr w3) := below_drew_l hb3; have HB3w : Hid (Below w.heap.size w w3) := HBr.out.trans (HB3.out.mono HBr.out.size); have HO3 : Hid (OwnInts w3 w.heap.size (some ⟨X3, 0, none⟩) c3 (leafL (b0.take k))) := ho3.base_le (by have := HBr.out.size; simp; omega); have new3 : ¬ w.heap.size = w3.heap.size := (by have := HB3.out.size; omega); have nfw3 : ¬ w.heap.size + 1 = w3.heap.size := (by have := HB3.out.size; omega); have ngw3 : ¬ w3.heap.size = w.heap.size := (by have := HB3.out.size; omega); have nhw3 : ¬ w3.heap.size = w.heap.size + 1 := (by have := HB3.out.size; omega); obtain ⟨m0, m1, m2, m3, m4, m5⟩ := run_cells (KAr.out.below HB3.out hzr0); obtain ⟨n0, n1, n2', n3, n4, n5⟩ := run_cells (KPr.out.below HB3.out hzr1); clear hb3 ho3; rw [HLL.out])
                | (go_at_call 61; (with_reducible refine (CL.out (wr.alloc _).drew ?_ k hnb).mono ?_); exact below_drew (HBr.out.alloc HBr.out.size _); rintro e w3 ⟨X3, c3, rfl, ho3, hb3⟩; have HB3 : Hid (Below wr.heap.size wr w3) := ((Below.refl _ wr).alloc (Nat.le_refl _) _).trans ((below_drew_l hb3).mono (by simp)); have KZ3 : Hid (Blk w3 wr.heap.size 52 #[.int .i64 0, .int .i64 0, .int .i64 0]) := Blk.below (Blk.new wr _ _) (below_drew_l hb3) (by simp); have HB3w : Hid (Below w.heap.size w w3) := HBr.out.trans (HB3.out.mono HBr.out.size); have HO3 : Hid (OwnInts w3 w.heap.size (some ⟨X3, 0, none⟩) c3 (leafL (b0.take k))) := ho3.base_le (by have := HBr.out.size; simp; omega); have new3 : ¬ w.heap.size = w3.heap.size := (by have := HB3.out.size; omega); have nfw3 : ¬ w.heap.size + 1 = w3.heap.size := (by have := HB3.out.size; omega); have ngw3 : ¬ w3.heap.size = w.heap.size := (by have := HB3.out.size; omega); have nhw3 : ¬ w3.heap.size = w.heap.size + 1 := (by have := HB3.out.size; omega); obtain ⟨m0, m1, m2, m3, m4, m5⟩ := run_cells (KAr.out.below HB3.out hzr0); obtain ⟨n0, n1, n2', n3, n4, n5⟩ := run_cells (KPr.out.below HB3.out hzr1); clear hb3 ho3; rw [HLL.out])
                | (go_at_call 60; (with_reducible refine (CM.out w3 _ _ HO3.out).mono ?_); rintro e w4 ⟨rfl, hb4⟩; have HB4r : Hid (Below wr.heap.size wr w4) := HB3.out.trans (hb4.mono HB3.out.size); have HB4w : Hid (Below w.heap.size w w4) := HBr.out.trans (HB4r.out.mono HBr.out.size); have new4 : ¬ w.heap.size = w4.heap.size := (by have := HB4r.out.size; omega); have nfw4 : ¬ w.heap.size + 1 = w4.heap.size := (by have := HB4r.out.size; omega); have ngw4 : ¬ w4.heap.size = w.heap.size := (by have := HB4r.out.size; omega); have nhw4 : ¬ w4.heap.size = w.heap.size + 1 := (by have := HB4r.out.size; omega); obtain ⟨i0, i1, i2, i3, i4, i5⟩ := run_cells (KAr.out.below HB4r.out hzr0); obtain ⟨j0, j1, j2, j3, j4, j5⟩ := run_cells (KPr.out.below HB4r.out hzr1); (try (have KZ4 := Lib.hid (Blk.below KZ3.out hb4 KZ3.out.lt); have z0 : w4.cell? ⟨wr.heap.size, 0, none⟩ = some (.int .i64 0) := KZ4.out.cell 0; have z1 : w4.cell? ⟨wr.heap.size, 1, none⟩ = some (.int .i64 0) := KZ4.out.cell 1; have z2 : w4.cell? ⟨wr.heap.size, 2, none⟩ = some (.int .i64 0) := KZ4.out.cell 2; have zf0 : w4.frozen? ⟨wr.heap.size, 0, none⟩ = false := blk_frozen KZ4.out 0; have zf1 : w4.frozen? ⟨wr.heap.size, 1, none⟩ = false := blk_frozen KZ4.out 1; have zf2 : w4.frozen? ⟨wr.heap.size, 2, none⟩ = false := blk_frozen KZ4.out 2)); clear hb4)
                | (go_at_call 60; (with_reducible refine (CM.out (w3.alloc _) _ _ (HO3.out.alloc _)).mono ?_); rintro e w4 ⟨rfl, hb4⟩; have HB4r : Hid (Below wr.heap.size wr w4) := (HB3.out.alloc HB3.out.size _).trans (hb4.mono (by have := HB3.out.size; simp; omega)); have HB4w : Hid (Below w.heap.size w w4) := HBr.out.trans (HB4r.out.mono HBr.out.size); have new4 : ¬ w.heap.size = w4.heap.size := (by have := HB4r.out.size; omega); have nfw4 : ¬ w.heap.size + 1 = w4.heap.size := (by have := HB4r.out.size; omega); have ngw4 : ¬ w4.heap.size = w.heap.size := (by have := HB4r.out.size; omega); have nhw4 : ¬ w4.heap.size = w.heap.size + 1 := (by have := HB4r.out.size; omega); obtain ⟨i0, i1, i2, i3, i4, i5⟩ := run_cells (KAr.out.below HB4r.out hzr0); obtain ⟨j0, j1, j2, j3, j4, j5⟩ := run_cells (KPr.out.below HB4r.out hzr1); have KZ4 : Hid (Blk w4 w3.heap.size 52 #[.int .i64 0, .int .i64 0, .int .i64 0]) := Blk.below (Blk.new w3 _ _) hb4 (by simp); have z0 : w4.cell? ⟨w3.heap.size, 0, none⟩ = some (.int .i64 0) := KZ4.out.cell 0; have z1 : w4.cell? ⟨w3.heap.size, 1, none⟩ = some (.int .i64 0) := KZ4.out.cell 1; have z2 : w4.cell? ⟨w3.heap.size, 2, none⟩ = some (.int .i64 0) := KZ4.out.cell 2; have zf0 : w4.frozen? ⟨w3.heap.size, 0, none⟩ = false := blk_frozen KZ4.out 0; have zf1 : w4.frozen? ⟨w3.heap.size, 1, none⟩ = false := blk_frozen KZ4.out 1; have zf2 : w4.frozen? ⟨w3.heap.size, 2, none⟩ = false := blk_frozen KZ4.out 2; clear hb4))
            · obtain ⟨w5, HW5⟩ : ∃ U, Hid (w4.alloc (.cells #[.int .i64 ml, .int .i64 md, .int .i64 ms] 52) = U) := ⟨_, rfl⟩
              have KG : Hid (Blk w5 w4.heap.size 52 #[.int .i64 ml, .int .i64 md, .int .i64 ms]) := by rw [← HW5.out]; exact Blk.new _ _ _
              have HB5r : Hid (Below wr.heap.size wr w5) := by rw [← HW5.out]; exact HB4r.out.alloc HB4r.out.size _
              rw [HW5.out]
              have g0 := KG.out.cell 0
              have g1' := KG.out.cell 1
              have g2 := KG.out.cell 2
              obtain ⟨v0, v1, v2, v3, v4, v5⟩ := run_cells (KPr.out.below HB5r.out hzr1)
              have HB5 : Hid (Below w.heap.size w w5) := HBr.out.trans (HB5r.out.mono HBr.out.size)
              by_cases hkz : k = 0
              · have hkb : ((k : Int) == 0) = true := by rw [hkz]; rfl
                have HF : Hid (res = true) := by show _ = _; rw [HRES.out, ← HHD.out]; unfold headB; rw [decide_eq_true (show (k : Int) = 0 by omega)]; rfl
                clear hkz
                go_wp2
                go_ret
                exact ⟨ret_bool HF.out.symm, HB5.out⟩
              · have hkb : ((k : Int) == 0) = false := beq_eq_false_iff_ne.2 (by omega)
                have HF : Hid (res = (decide ((k : Int) = ml) && (decide (d = md) && decide (s = ms)))) := by
                  show _ = _
                  rw [HRES.out, ← HHD.out]
                  unfold headB
                  simp only [Int.toNat_natCast]
                  rw [decide_eq_false (show ¬ (k : Int) = 0 by omega), ← HML.out, ← HMD.out, ← HMS.out]
                  rfl
                go_wp2
                all_goals (go_ret; exact ⟨ret_bool (by rw [HF.out]; simp [*]), HB5.out⟩)
            · obtain ⟨w5, HW5⟩ : ∃ U, Hid (((w4.setCell ⟨w3.heap.size, 0, none⟩ (.int .i64 ml)).setCell ⟨w3.heap.size, 1, none⟩ (.int .i64 md)).setCell ⟨w3.heap.size, 2, none⟩ (.int .i64 ms) = U) := ⟨_, rfl⟩
              have KG : Hid (Blk w5 (w3.heap.size) 52 #[.int .i64 ml, .int .i64 md, .int .i64 ms]) := by rw [← HW5.out]; exact ((KZ4.out.setOwn 0 _).setOwn 1 _).setOwn 2 _
              have HB5r : Hid (Below wr.heap.size wr w5) := by rw [← HW5.out]; exact ((HB4r.out.setCell (p := ⟨w3.heap.size, 0, none⟩) HB3.out.size _).setCell (p := ⟨w3.heap.size, 1, none⟩) HB3.out.size _).setCell (p := ⟨w3.heap.size, 2, none⟩) HB3.out.size _
              rw [HW5.out]
              have g0 := KG.out.cell 0
              have g1' := KG.out.cell 1
              have g2 := KG.out.cell 2
              obtain ⟨v0, v1, v2, v3, v4, v5⟩ := run_cells (KPr.out.below HB5r.out hzr1)
              have HB5 : Hid (Below w.heap.size w w5) := HBr.out.trans (HB5r.out.mono HBr.out.size)
              by_cases hkz : k = 0
              · have hkb : ((k : Int) == 0) = true := by rw [hkz]; rfl
                have HF : Hid (res = true) := by show _ = _; rw [HRES.out, ← HHD.out]; unfold headB; rw [decide_eq_true (show (k : Int) = 0 by omega)]; rfl
                clear hkz
                go_wp2
                go_ret
                exact ⟨ret_bool HF.out.symm, HB5.out⟩
              · have hkb : ((k : Int) == 0) = false := beq_eq_false_iff_ne.2 (by omega)
                have HF : Hid (res = (decide ((k : Int) = ml) && (decide (d = md) && decide (s = ms)))) := by
                  show _ = _
                  rw [HRES.out, ← HHD.out]
                  unfold headB
                  simp only [Int.toNat_natCast]
                  rw [decide_eq_false (show ¬ (k : Int) = 0 by omega), ← HML.out, ← HMD.out, ← HMS.out]
                  rfl
                go_wp2
                all_goals (go_ret; exact ⟨ret_bool (by rw [HF.out]; simp [*]), HB5.out⟩)
            · obtain ⟨w5, HW5⟩ : ∃ U, Hid (((w4.setCell ⟨wr.heap.size, 0, none⟩ (.int .i64 ml)).setCell ⟨wr.heap.size, 1, none⟩ (.int .i64 md)).setCell ⟨wr.heap.size, 2, none⟩ (.int .i64 ms) = U) := ⟨_, rfl⟩
              have KG : Hid (Blk w5 (wr.heap.size) 52 #[.int .i64 ml, .int .i64 md, .int .i64 ms]) := by rw [← HW5.out]; exact ((KZ4.out.setOwn 0 _).setOwn 1 _).setOwn 2 _
              have HB5r : Hid (Below wr.heap.size wr w5) := by rw [← HW5.out]; exact ((HB4r.out.setCell (p := ⟨wr.heap.size, 0, none⟩) (Nat.le_refl _) _).setCell (p := ⟨wr.heap.size, 1, none⟩) (Nat.le_refl _) _).setCell (p := ⟨wr.heap.size, 2, none⟩) (Nat.le_refl _) _
              rw [HW5.out]
              have g0 := KG.out.cell 0
              have g1' := KG.out.cell 1
              have g2 := KG.out.cell 2
              obtain ⟨v0, v1, v2, v3, v4, v5⟩ := run_cells (KPr.out.below HB5r.out hzr1)
              have HB5 : Hid (Below w.heap.size w w5) := HBr.out.trans (HB5r.out.mono HBr.out.size)
              by_cases hkz : k = 0
              · have hkb : ((k : Int) == 0) = true := by rw [hkz]; rfl
                have HF : Hid (res = true) := by show _ = _; rw [HRES.out, ← HHD.out]; unfold headB; rw [decide_eq_true (show (k : Int) = 0 by omega)]; rfl
                clear hkz
                go_wp2
                go_ret
                exact ⟨ret_bool HF.out.symm, HB5.out⟩
              · have hkb : ((k : Int) == 0) = false := beq_eq_false_iff_ne.2 (by omega)
                have HF : Hid (res = (decide ((k : Int) = ml) && (decide (d = md) && decide (s = ms)))) := by
                  show _ = _
                  rw [HRES.out, ← HHD.out]
                  unfold headB
                  simp only [Int.toNat_natCast]
                  rw [decide_eq_false (show ¬ (k : Int) = 0 by omega), ← HML.out, ← HMD.out, ← HMS.out]
                  rfl
                go_wp2
                all_goals (go_ret; exact ⟨ret_bool (by rw [HF.out]; simp [*]), HB5.out⟩)
      · have hld : decide (l ≤ l0) = false := decide_eq_false hll
        have hlg : decide (l0 < l) = true := decide_eq_true (by omega)
        have hlg2 : l0 < l := by omega
        rw [hld] at HRES
        have HF : Hid (res = false) := by show _ = _; rw [HRES.out]; rfl
        refine wp_region_held_drew (S := (fun w' => w'.cell? ⟨w.heap.size, 0, none⟩ = some (.int .i64 sec) ∧ w'.cell? ⟨w.heap.size, 2, none⟩ = some (.slice (some ⟨b, o, none⟩) m r.c1) ∧ w'.cell? ⟨w.heap.size + 1, 0, none⟩ = some (.int .i64 p) ∧ w'.cell? ⟨w.heap.size + 1, 1, none⟩ = some (.int .i64 l) ∧ w'.cell? ⟨w.heap.size + 1, 2, none⟩ = some (.int .i64 d) ∧ w'.cell? ⟨w.heap.size + 1, 3, none⟩ = some (.int .i64 s) ∧ w'.cell? ⟨w.heap.size + 1, 4, none⟩ = some (.slice A1 n1 c1) ∧ w'.cell? ⟨w.heap.size + 1, 5, none⟩ = some (.slice A2 nh c2) ∧ w'.cell? ⟨b, o + 1, none⟩ = some (.int .i64 l0))) (by kernel_rfl) (⟨a0, a2, p0, p1, p2, p3, p4, p5, d1⟩) (fun hHeld => ?_)
        refine wtk 0 ?zv28 8 rfl rfl (by kernel_rfl) (fun _ _ _ h => h) (by kernel_rfl) ?zy28 (by assumption) ?zr28
        case zy28 => (intro w hSw; (try dsimp only at hSw); go_simp; try with_reducible rfl)
        simp only [Act.put, aput]
        refine wpAnyH_ready (rs := [1]) (by kernel_rfl) (by simp) (AllReadyH.cons rfl (fun K hK => ?_) AllReadyH.nil)
        go_simp
        go_at_call 21
        refine (CF.out _ (below_drew HB.out)).mono ?_
        rintro e w2 ⟨rfl, hb2⟩
        have HB2 : Hid (Below V0.heap.size V0 w2) := below_drew_l hb2
        have HB2w : Hid (Below w.heap.size w w2) := HB.out.trans (HB2.out.mono HB.out.size)
        obtain ⟨m0, m1, m2, m3, m4, m5⟩ := run_cells (KA.out.below HB2.out hz0)
        obtain ⟨k0, k1, k2, k3, k4, k5⟩ := run_cells (KP.out.below HB2.out hz1)
        have y1 := (HB2w.out.cell (p := ⟨b, o + 1, none⟩) hbl).trans x1
        clear hb2
        refine hK.out _ _ (⟨m0, m2, k0, k1, k2, k3, k4, k5, y1⟩) (fun hHeld => ?_)
        clear hK K
        (try simp only [Act.put, aput])
        refine wtk 2 ?zv29 10 rfl rfl (by kernel_rfl) (fun _ _ _ h => h) (by kernel_rfl) ?zy29 (by assumption) ?zr29
        case zy29 => (intro w hSw; (try dsimp only at hSw); go_simp; try with_reducible rfl)
        simp only [Act.put, aput]
        refine wtk 3 ?zv30 11 rfl rfl (by kernel_rfl) (fun _ _ _ h => h) (by kernel_rfl) ?zy30 (by assumption) ?zr30
        case zy30 => (intro w hSw; (try dsimp only at hSw); go_simp; try with_reducible rfl)
        simp only [Act.put, aput]
        refine wtk 4 ?zv31 12 rfl rfl (by kernel_rfl) (fun _ _ _ h => h) (by kernel_rfl) ?zy31 (by assumption) ?zr31
        case zy31 => (intro w hSw; (try dsimp only at hSw); go_simp; try with_reducible rfl)
        simp only [Act.put, aput]
        refine wtk 5 ?zv32 13 rfl rfl (by kernel_rfl) (fun _ _ _ h => h) (by kernel_rfl) ?zy32 (by assumption) ?zr32
        case zy32 => (intro w hSw; (try dsimp only at hSw); go_simp; try with_reducible rfl)
        simp only [Act.put, aput]
        refine wtk 6 ?zv33 14 rfl rfl (by kernel_rfl) (fun _ _ _ h => h) (by kernel_rfl) ?zy33 (by assumption) ?zr33
        case zy33 => (intro w hSw; (try dsimp only at hSw); go_simp; try with_reducible rfl)
        simp only [Act.put, aput]
        refine wtk 7 ?zv34 15 rfl rfl (by kernel_rfl) (fun _ _ _ h => h) (by kernel_rfl) ?zy34 (by assumption) ?zr34
        case zy34 => (intro w hSw; (try dsimp only at hSw); go_simp; try with_reducible rfl)
        simp only [Act.put, aput]
        refine wpAnyH_ready (rs := [8]) (by kernel_rfl) (by simp) (AllReadyH.cons rfl (fun K hK => ?_) AllReadyH.nil)
        go_simp
        go_at_call 53
        refine (CP.out _).mono ?_
        rintro e w3 ⟨rfl, hw3⟩
        rw [← hw3]
        clear hw3
        refine hK.out _ _ (⟨m0, m2, k0, k1, k2, k3, k4, k5, y1⟩) (fun hHeld => ?_)
        clear hK K
        (try simp only [Act.put, aput])
        refine wtk 9 ?zv35 17 rfl rfl (by kernel_rfl) (fun _ _ _ h => h) (by kernel_rfl) ?zy35 (by assumption) ?zr35
        case zy35 => (intro w hSw; (try dsimp only at hSw); go_simp; try with_reducible rfl)
        simp only [Act.put, aput]
        refine wtk 10 ?zv36 18 rfl rfl (by kernel_rfl) (fun _ _ _ h => h) (by kernel_rfl) ?zy36 (by assumption) ?zr36
        case zy36 => (intro w hSw; (try dsimp only at hSw); go_simp; try with_reducible rfl)
        simp only [Act.put, aput]
        refine wtk 11 ?zv37 19 rfl rfl (by kernel_rfl) (fun _ _ _ h => h) (by kernel_rfl) ?zy37 (by assumption) ?zr37
        case zy37 => (intro w hSw; (try dsimp only at hSw); go_simp; try with_reducible rfl)
        simp only [Act.put, aput]
        refine wtk 12 ?zv38 20 rfl rfl (by kernel_rfl) (fun _ _ _ h => h) (by kernel_rfl) ?zy38 (by assumption) ?zr38
        case zy38 => (intro w hSw; (try dsimp only at hSw); go_simp; try with_reducible rfl)
        simp only [Act.put, aput]
        refine wtk 13 ?zv39 21 rfl rfl (by kernel_rfl) (fun _ _ _ h => h) (by kernel_rfl) ?zy39 (by assumption) ?zr39
        case zy39 => (intro w hSw; (try dsimp only at hSw); go_simp; try with_reducible rfl)
        simp only [Act.put, aput]
        refine wtk 14 ?zv40 22 rfl rfl (by kernel_rfl) (fun _ _ _ h => h) (by kernel_rfl) ?zy40 (by assumption) ?zr40
        case zy40 => (intro w hSw; (try dsimp only at hSw); go_simp; try with_reducible rfl)
        simp only [Act.put, aput]
        refine wtk 15 ?zv41 23 rfl rfl (by kernel_rfl) (fun _ _ _ h => h) (by kernel_rfl) ?zy41 (by assumption) ?zr41
        case zy41 => (intro w hSw; (try dsimp only at hSw); go_simp; try with_reducible rfl)
        simp only [Act.put, aput]
        refine wtk 16 ?zv42 24 rfl rfl (by kernel_rfl) (fun _ _ _ h => h) (by kernel_rfl) ?zy42 (by assumption) ?zr42
        case zy42 => (intro w hSw; (try dsimp only at hSw); go_simp; try with_reducible rfl)
        simp only [Act.put, aput]
        refine wtk 17 ?zv43 25 rfl rfl (by kernel_rfl) (fun _ _ _ h => h) (by kernel_rfl) ?zy43 (by assumption) ?zr43
        case zy43 => (intro w hSw; (try dsimp only at hSw); go_simp; try with_reducible rfl)
        simp only [Act.put, aput]
        refine wtk 18 ?zv44 26 rfl rfl (by kernel_rfl) (fun _ _ _ h => h) (by kernel_rfl) ?zy44 (by assumption) ?zr44
        case zy44 => (intro w hSw; (try dsimp only at hSw); go_simp; try with_reducible rfl)
        simp only [Act.put, aput]
        refine wtk 19 ?zv45 27 rfl rfl (by kernel_rfl) (fun _ _ _ h => h) (by kernel_rfl) ?zy45 (by assumption) ?zr45
        case zy45 => (intro w hSw; (try dsimp only at hSw); go_simp; try with_reducible rfl)
        simp only [Act.put, aput]
        refine wtk 20 ?zv46 28 rfl rfl (by kernel_rfl) (fun _ _ _ h => h) (by kernel_rfl) ?zy46 (by assumption) ?zr46
        case zy46 => (intro w hSw; (try dsimp only at hSw); go_simp; try with_reducible rfl)
        simp only [Act.put, aput]
        refine wtk 21 ?zv47 29 rfl rfl (by kernel_rfl) (fun _ _ _ h => h) (by kernel_rfl) ?zy47 (by assumption) ?zr47
        case zy47 => (intro w hSw; (try dsimp only at hSw); go_simp; try with_reducible rfl)
        simp only [Act.put, aput]
        refine wtk 22 ?zv48 30 rfl rfl (by kernel_rfl) (fun _ _ _ h => h) (by kernel_rfl) ?zy48 (by assumption) ?zr48
        case zy48 => (intro w hSw; (try dsimp only at hSw); go_simp; try with_reducible rfl)
        simp only [Act.put, aput]
        refine wpAnyH_done (by kernel_rfl) ?_ _
        go_wp2
        go_ret
        exact ⟨ret_bool HF.out.symm, HB2w.out⟩
    · have hpd : decide (p = pu) = false := decide_eq_false hpu
      have hpb : (p != pu) = true := bne_iff_ne.2 hpu
      rw [hpd] at HRES
      have HF : Hid (res = false) := by show _ = _; rw [HRES.out]; rfl
      clear hpu hpd
      refine wp_region_held_drew (S := (fun w' => w'.cell? ⟨w.heap.size, 0, none⟩ = some (.int .i64 sec) ∧ w'.cell? ⟨w.heap.size, 2, none⟩ = some (.slice (some ⟨b, o, none⟩) m r.c1) ∧ w'.cell? ⟨w.heap.size + 1, 0, none⟩ = some (.int .i64 p) ∧ w'.cell? ⟨w.heap.size + 1, 1, none⟩ = some (.int .i64 l) ∧ w'.cell? ⟨w.heap.size + 1, 2, none⟩ = some (.int .i64 d) ∧ w'.cell? ⟨w.heap.size + 1, 3, none⟩ = some (.int .i64 s) ∧ w'.cell? ⟨w.heap.size + 1, 4, none⟩ = some (.slice A1 n1 c1) ∧ w'.cell? ⟨w.heap.size + 1, 5, none⟩ = some (.slice A2 nh c2) ∧ w'.cell? ⟨b, o + 1, none⟩ = some (.int .i64 l0))) (by kernel_rfl) (⟨a0, a2, p0, p1, p2, p3, p4, p5, d1⟩) (fun hHeld => ?_)
      refine wtk 0 ?zv49 8 rfl rfl (by kernel_rfl) (fun _ _ _ h => h) (by kernel_rfl) ?zy49 (by assumption) ?zr49
      case zy49 => (intro w hSw; (try dsimp only at hSw); go_simp; try with_reducible rfl)
      simp only [Act.put, aput]
      refine wpAnyH_ready (rs := [1]) (by kernel_rfl) (by simp) (AllReadyH.cons rfl (fun K hK => ?_) AllReadyH.nil)
      go_simp
      go_at_call 21
      refine (CF.out _ (below_drew HB.out)).mono ?_
      rintro e w2 ⟨rfl, hb2⟩
      have HB2 : Hid (Below V0.heap.size V0 w2) := below_drew_l hb2
      have HB2w : Hid (Below w.heap.size w w2) := HB.out.trans (HB2.out.mono HB.out.size)
      obtain ⟨m0, m1, m2, m3, m4, m5⟩ := run_cells (KA.out.below HB2.out hz0)
      obtain ⟨k0, k1, k2, k3, k4, k5⟩ := run_cells (KP.out.below HB2.out hz1)
      have y1 := (HB2w.out.cell (p := ⟨b, o + 1, none⟩) hbl).trans x1
      clear hb2
      refine hK.out _ _ (⟨m0, m2, k0, k1, k2, k3, k4, k5, y1⟩) (fun hHeld => ?_)
      clear hK K
      (try simp only [Act.put, aput])
      refine wtk 2 ?zv50 10 rfl rfl (by kernel_rfl) (fun _ _ _ h => h) (by kernel_rfl) ?zy50 (by assumption) ?zr50
      case zy50 => (intro w hSw; (try dsimp only at hSw); go_simp; try with_reducible rfl)
      simp only [Act.put, aput]
      refine wtk 3 ?zv51 11 rfl rfl (by kernel_rfl) (fun _ _ _ h => h) (by kernel_rfl) ?zy51 (by assumption) ?zr51
      case zy51 => (intro w hSw; (try dsimp only at hSw); go_simp; try with_reducible rfl)
      simp only [Act.put, aput]
      refine wtk 4 ?zv52 12 rfl rfl (by kernel_rfl) (fun _ _ _ h => h) (by kernel_rfl) ?zy52 (by assumption) ?zr52
      case zy52 => (intro w hSw; (try dsimp only at hSw); go_simp; try with_reducible rfl)
      simp only [Act.put, aput]
      refine wtk 5 ?zv53 13 rfl rfl (by kernel_rfl) (fun _ _ _ h => h) (by kernel_rfl) ?zy53 (by assumption) ?zr53
      case zy53 => (intro w hSw; (try dsimp only at hSw); go_simp; try with_reducible rfl)
      simp only [Act.put, aput]
      refine wtk 6 ?zv54 14 rfl rfl (by kernel_rfl) (fun _ _ _ h => h) (by kernel_rfl) ?zy54 (by assumption) ?zr54
      case zy54 => (intro w hSw; (try dsimp only at hSw); go_simp; try with_reducible rfl)
      simp only [Act.put, aput]
      refine wtk 7 ?zv55 15 rfl rfl (by kernel_rfl) (fun _ _ _ h => h) (by kernel_rfl) ?zy55 (by assumption) ?zr55
      case zy55 => (intro w hSw; (try dsimp only at hSw); go_simp; try with_reducible rfl)
      simp only [Act.put, aput]
      refine wpAnyH_ready (rs := [8]) (by kernel_rfl) (by simp) (AllReadyH.cons rfl (fun K hK => ?_) AllReadyH.nil)
      go_simp
      go_at_call 53
      refine (CP.out _).mono ?_
      rintro e w3 ⟨rfl, hw3⟩
      rw [← hw3]
      clear hw3
      refine hK.out _ _ (⟨m0, m2, k0, k1, k2, k3, k4, k5, y1⟩) (fun hHeld => ?_)
      clear hK K
      (try simp only [Act.put, aput])
      refine wtk 9 ?zv56 17 rfl rfl (by kernel_rfl) (fun _ _ _ h => h) (by kernel_rfl) ?zy56 (by assumption) ?zr56
      case zy56 => (intro w hSw; (try dsimp only at hSw); go_simp; try with_reducible rfl)
      simp only [Act.put, aput]
      refine wtk 10 ?zv57 18 rfl rfl (by kernel_rfl) (fun _ _ _ h => h) (by kernel_rfl) ?zy57 (by assumption) ?zr57
      case zy57 => (intro w hSw; (try dsimp only at hSw); go_simp; try with_reducible rfl)
      simp only [Act.put, aput]
      refine wtk 11 ?zv58 19 rfl rfl (by kernel_rfl) (fun _ _ _ h => h) (by kernel_rfl) ?zy58 (by assumption) ?zr58
      case zy58 => (intro w hSw; (try dsimp only at hSw); go_simp; try with_reducible rfl)
      simp only [Act.put, aput]
      refine wtu 12 20 rfl rfl (by kernel_rfl) (fun _ _ _ h => h) (by kernel_rfl) (by assumption) ?_
      simp only [Act.put, aput]
      refine wtu 13 21 rfl rfl (by kernel_rfl) (fun _ _ _ h => h) (by kernel_rfl) (by assumption) ?_
      simp only [Act.put, aput]
      refine wtu 14 22 rfl rfl (by kernel_rfl) (fun _ _ _ h => h) (by kernel_rfl) (by assumption) ?_
      simp only [Act.put, aput]
      refine wtu 15 23 rfl rfl (by kernel_rfl) (fun _ _ _ h => h) (by kernel_rfl) (by assumption) ?_
      simp only [Act.put, aput]
      refine wtu 16 24 rfl rfl (by kernel_rfl) (fun _ _ _ h => h) (by kernel_rfl) (by assumption) ?_
      simp only [Act.put, aput]
      refine wtu 17 25 rfl rfl (by kernel_rfl) (fun _ _ _ h => h) (by kernel_rfl) (by assumption) ?_
      simp only [Act.put, aput]
      refine wtu 18 26 rfl rfl (by kernel_rfl) (fun _ _ _ h => h) (by kernel_rfl) (by assumption) ?_
      simp only [Act.put, aput]
      refine wtu 19 27 rfl rfl (by kernel_rfl) (fun _ _ _ h => h) (by kernel_rfl) (by assumption) ?_
      simp only [Act.put, aput]
      refine wtu 20 28 rfl rfl (by kernel_rfl) (fun _ _ _ h => h) (by kernel_rfl) (by assumption) ?_
      simp only [Act.put, aput]
      refine wtu 21 29 rfl rfl (by kernel_rfl) (fun _ _ _ h => h) (by kernel_rfl) (by assumption) ?_
      simp only [Act.put, aput]
      refine wtk 22 ?zv59 30 rfl rfl (by kernel_rfl) (fun _ _ _ h => h) (by kernel_rfl) ?zy59 (by assumption) ?zr59
      case zy59 => (intro w hSw; (try dsimp only at hSw); go_simp; try with_reducible rfl)
      simp only [Act.put, aput]
      refine wpAnyH_done (by kernel_rfl) ?_ _
      go_wp2
      go_ret
      exact ⟨ret_bool HF.out.symm, HB2w.out⟩
end Go.Proofs.YtkmebilhbjcfpaaGreat
