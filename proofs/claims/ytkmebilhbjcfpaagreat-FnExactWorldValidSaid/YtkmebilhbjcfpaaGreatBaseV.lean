/- Contracts of feedsValid and of its condition: they answer as the data say. Conditions: the run lies in memory and has a writer. Contracts of requestsValid, of slices.Equal at integers, of pieceValid and of netValid: they answer as the data say. Conditions: the run lies in memory and has a writer with at most 16 blocks. Contract of WorldValid: it says whether a run is valid. Condition: the run lies -/
import Derived.Test.YtkmebilhbjcfpaaGreatBaseA
import Derived.Test.YtkmebilhbjcfpaaGreatBaseP
import Derived.Deep.RegionWith
import Derived.Test.YtkmebilhbjcfpaaGreatBaseS
import Derived.Test.YtkmebilhbjcfpaaGreatWin
import Derived.Test.YtkmebilhbjcfpaaGreatFeedValid
import Derived.Deep.RegionHeld3
namespace Go.Proofs.YtkmebilhbjcfpaaGreat
open Go.RowKit
set_option linter.unusedVariables false

theorem okB_lens {f : FD} (h : okB f = true) : (f.bs.length : Int) = f.l ∧ (f.hs.length : Int) = f.l ∧ f.bs.length ≤ 16 ∧ Short f.bs := by
  have h' := (okB_iff f).1 h
  have h1 := h'.len
  exact ⟨h'.2.2.1.1, h'.2.2.1.2, h1.1, fun k hk => (h'.2.2.2.1 k hk).1⟩
/-- What feedsValid asks. -/
def FeedsOk (sec : Int) (hs : List FH) : Prop :=
  (∀ k, k < hs.length → okB (fhth hs k).f = true ∧ (fhth hs k).f.p = publicOr sec) ∧ noneF (fhth hs 0).f.hs = true ∧ ∀ k, k < hs.length → fromB sec (fhth hs 0).f.bs (fhth hs k).f = true

set_option maxHeartbeats 4000000 in
set_option maxRecDepth 100000 in
theorem feedBad_any (sec : Int) (b0 : List ByteArray) (g0 c0 gw gl : Nat) (H : FH) (w : World) (hI : IntsAt w w.heap.size (some ⟨g0, 0, none⟩) (leafL b0)) (hc0 : b0.length ≤ c0) (hc1 : c0 ≤ maxLen) (h16 : b0.length ≤ 16) (hH : FhAt w w.heap.size H)
    (hl1 : (H.f.bs.length : Int) = H.f.l) (hl2 : (H.f.hs.length : Int) = H.f.l) (x0 : w.cell? ⟨gw, 0, none⟩ = some (.int .i64 sec)) (x1 : w.cell? ⟨gl, 0, none⟩ = some (.slice (some ⟨g0, 0, none⟩) b0.length c0)) (hg1 : gw < w.heap.size) (hg2 : gl < w.heap.size) :
    Calls Tryz.prog 78 #[fhV H, .pointer (some ⟨gw, 0, none⟩), .pointer (some ⟨gl, 0, none⟩)] w fun e w' => e = .returned (.bool (!fromB sec b0 H.f)) ∧ Below w.heap.size w w' := by
  obtain ⟨V, HV⟩ : ∃ V, Hid (w.alloc (.cells #[.int .i64 H.f.p, .int .i64 H.f.l, .int .i64 H.f.d, .int .i64 H.f.s, .slice H.a1 H.f.bs.length H.c1, .slice H.a2 H.f.hs.length H.c2] 56) = V) := ⟨_, rfl⟩
  have KP : Hid (Blk V w.heap.size 56 #[.int .i64 H.f.p, .int .i64 H.f.l, .int .i64 H.f.d, .int .i64 H.f.s, .slice H.a1 H.f.bs.length H.c1, .slice H.a2 H.f.hs.length H.c2]) := by rw [← HV.out]; exact Blk.new w _ _
  have HB : Hid (Below w.heap.size w V) := by rw [← HV.out]; exact (Below.refl _ w).alloc (Nat.le_refl _) _
  have C := Lib.hid (fromW_any sec b0 g0 c0 H V (hI.belowS HB.out) hc0 hc1 h16 ((hH.keep fun p hp => HB.out.cell hp).more HB.out.size) hl1 hl2)
  obtain ⟨p0, p1, p2, p3, p4, p5⟩ := run_cells KP.out
  have y0 := (HB.out.cell (p := ⟨gw, 0, none⟩) hg1).trans x0
  have y1 := (HB.out.cell (p := ⟨gl, 0, none⟩) hg2).trans x1
  obtain ⟨res, HR⟩ : ∃ x, Hid (fromB sec b0 H.f = x) := ⟨_, rfl⟩
  rw [HR.out] at C ⊢
  obtain ⟨⟨p, l, d, s, bs, hs1⟩, A1, c1, A2, c2⟩ := H
  unfold fhV at C ⊢
  dsimp only at C p0 p1 p2 p3 p4 p5 hl1 hl2 HV ⊢
  obtain ⟨n1, HN1⟩ : ∃ x, bs.length = x := ⟨_, rfl⟩
  obtain ⟨n2, HN2⟩ : ∃ x, hs1.length = x := ⟨_, rfl⟩
  obtain ⟨n3, HN3⟩ : ∃ x, b0.length = x := ⟨_, rfl⟩
  rw [HN1] at C p4 HV ⊢
  rw [HN2] at C p5 HV ⊢
  rw [HN3] at C y1
  have hsz : w.heap.size ≤ V.heap.size := HB.out.size
  clear hI hc0 hc1 h16 hH hl1 hl2 x0 x1 HN1 HN2 HN3 KP
  go_enter Tryz.func78, Tryz.ntmps78
  go_upto_region 1 with fail
  rw [HV.out]
  go_wp2_with fail
  refine C.out.mono ?_
  rintro e w2 ⟨rfl, hb2⟩
  have HB2 : Hid (Below w.heap.size w w2) := HB.out.trans (hb2.mono hsz)
  clear hb2
  go_wp2
  go_ret
  exact ⟨rfl, HB2.out⟩

set_option maxHeartbeats 8000000 in
set_option maxRecDepth 100000 in
theorem feedsV_any (sec bad : Int) (r : WR) (ls : List LinkD) (m n2 : Nat) (w : World) (h : RunAt w w.heap.size r ls) (hm : r.fh.length = m) (hp : 0 < m) :
    Calls Tryz.prog 32 #[.agg #[.int .i64 sec, .int .i64 bad, .slice r.A1 m r.c1, .slice r.A2 n2 r.c2, .slice r.A3 r.ah.length r.c3, .slice r.A4 r.qh.length r.c4]] w fun e w' => ∃ res, e = .returned (.bool res) ∧ (res = true ↔ FeedsOk sec r.fh) ∧ Below w.heap.size w w' := by
  have hm1 := h.m1
  unfold maxLen at hm1
  rw [hm] at hm1
  have HM := Lib.hid hm
  have HRUN := Lib.hid h
  obtain ⟨V0, HV0⟩ : ∃ W, Hid (w.alloc (.cells #[.int .i64 sec, .int .i64 bad, .slice r.A1 m r.c1, .slice r.A2 n2 r.c2, .slice r.A3 r.ah.length r.c3, .slice r.A4 r.qh.length r.c4] 35) = W) := ⟨_, rfl⟩
  have KA : Hid (Blk V0 w.heap.size 35 #[.int .i64 sec, .int .i64 bad, .slice r.A1 m r.c1, .slice r.A2 n2 r.c2, .slice r.A3 r.ah.length r.c3, .slice r.A4 r.qh.length r.c4]) := by rw [← HV0.out]; exact Blk.new w _ _
  have HB : Hid (Below w.heap.size w V0) := by rw [← HV0.out]; exact (Below.refl _ w).alloc (Nat.le_refl _) _
  have CWL : Hid (∀ U, Below w.heap.size w U → (fhth r.fh 0).f.bs.length ≤ 16 → Calls Tryz.prog 76 #[.agg #[.int .i64 sec, .int .i64 bad, .slice r.A1 m r.c1, .slice r.A2 n2 r.c2, .slice r.A3 r.ah.length r.c3, .slice r.A4 r.qh.length r.c4]] U (RetSome U (leafL (fhth r.fh 0).f.bs))) := fun U hU h16 => wLeaves_any sec bad r ls m n2 U (h.belowS hU) hm hp h16
  have k2 := (run_cells KA.out).2.2.1
  obtain ⟨b, o, hA1⟩ := h.r1.some_ (by rw [hm]; exact hp)
  have HR1 := Lib.hid (hA1 ▸ h.r1 : RowAt FK w w.heap.size (some ⟨b, o, none⟩) r.fh)
  have hbl : b < w.heap.size := (HR1.out.lt (by rw [hm]; exact hp)).1
  rw [hA1] at k2 KA CWL HV0 ⊢
  have HA1 := Lib.hid hA1
  have CP := Lib.hid (fun U => public_any sec U)
  obtain ⟨pu, HPU⟩ : ∃ x, Hid (publicOr sec = x) := ⟨_, rfl⟩
  rw [HPU.out] at CP
  have hz00 : w.heap.size < V0.heap.size := KA.out.lt
  clear h hm hA1
  go_enter Tryz.func32, Tryz.ntmps32
  go_upto_region 1 with fail
  rw [HV0.out]
  go_wp2
  go_loopw [9] (fun i wr => ∃ k : Nat, k ≤ m ∧ i = .int .i64 (k : Int) ∧ Hid (Below V0.heap.size V0 wr) ∧ Hid (∀ j, j < k → okB (fhth r.fh j).f = true ∧ (fhth r.fh j).f.p = publicOr sec)) (fun i _ => m - (intOf i).toNat)
  case atStart => exact ⟨0, Nat.zero_le _, rfl, Below.refl _ _, fun j hj => absurd hj (Nat.not_lt_zero _)⟩
  case round =>
    obtain ⟨k, hk, rfl, HBr, HC⟩ := hrel
    have HBr0 : Hid (Below w.heap.size w wr) := HB.out.trans (HBr.out.mono HB.out.size)
    have KAr : Hid (Blk wr w.heap.size 35 #[.int .i64 sec, .int .i64 bad, .slice (some ⟨b, o, none⟩) m r.c1, .slice r.A2 n2 r.c2, .slice r.A3 r.ah.length r.c3, .slice r.A4 r.qh.length r.c4]) := KA.out.below HBr.out hz00
    have hk0 : (0 : Int) ≤ (k : Int) := by omega
    by_cases hkm : k < m
    · have hkz : k < r.fh.length := by rw [HM.out]; exact hkm
      have hki : (k : Int) < (m : Int) := by omega
      have HRr := Lib.hid (HR1.out.belowS HBr0.out)
      obtain ⟨c0, c1', c2', c3, c4, c5⟩ := feed_cells6 HRr.out k hkz
      have HFr := Lib.hid (HRUN.out.feed k hkz)
      have HNO : Hid (¬ (okB (fhth r.fh k).f = true ∧ (fhth r.fh k).f.p = publicOr sec) → ¬ FeedsOk sec r.fh) := fun x y => x (y.1 k hkz)
      have HS : Hid ((okB (fhth r.fh k).f = true ∧ (fhth r.fh k).f.p = publicOr sec) → ∀ j, j < k + 1 → okB (fhth r.fh j).f = true ∧ (fhth r.fh j).f.p = publicOr sec) := fun e j hj => by
        rcases Nat.lt_or_ge j k with h | h
        · exact HC.out j h
        · have : j = k := by omega
          subst this; exact e
      obtain ⟨X, HX⟩ : ∃ x, Hid (fhth r.fh k = x) := ⟨_, rfl⟩
      rw [HX.out] at c0 c1' c2' c3 c4 c5 HFr HNO HS
      obtain ⟨⟨p, l, d, s, bs, hs1⟩, A1, c1, A2, c2⟩ := X
      dsimp only at c0 c1' c2' c3 c4 c5 HNO HS
      obtain ⟨V, HV⟩ : ∃ U, Hid (wr.alloc (.cells #[.int .i64 p, .int .i64 l, .int .i64 d, .int .i64 s, .slice A1 bs.length c1, .slice A2 hs1.length c2] 56) = U) := ⟨_, rfl⟩
      have KP : Hid (Blk V wr.heap.size 56 #[.int .i64 p, .int .i64 l, .int .i64 d, .int .i64 s, .slice A1 bs.length c1, .slice A2 hs1.length c2]) := by rw [← HV.out]; exact Blk.new _ _ _
      have HBV : Hid (Below w.heap.size w V) := by rw [← HV.out]; exact HBr0.out.alloc HBr0.out.size _
      have HBV0 : Hid (Below V0.heap.size V0 V) := by rw [← HV.out]; exact HBr.out.alloc HBr.out.size _
      have KAv : Hid (Blk V w.heap.size 35 #[.int .i64 sec, .int .i64 bad, .slice (some ⟨b, o, none⟩) m r.c1, .slice r.A2 n2 r.c2, .slice r.A3 r.ah.length r.c3, .slice r.A4 r.qh.length r.c4]) := by rw [← HV.out]; exact KAr.out.alloc _
      have CF : Hid (∀ U, Below V.heap.size V U → Calls Tryz.prog 73 #[feedV p l d s A1 bs.length c1 A2 hs1.length c2] U fun e w' => e = .returned (.bool (okB ⟨p, l, d, s, bs, hs1⟩)) ∧ Below U.heap.size U w') := fun U hU => feedValid_any p l d s A1 c1 A2 c2 bs hs1 U (HFr.out.feed.belowS (HBV.out.trans (hU.mono HBV.out.size)))
      obtain ⟨n1, HN1⟩ : ∃ x, Hid (bs.length = x) := ⟨_, rfl⟩
      obtain ⟨nh, HNH⟩ : ∃ x, Hid (hs1.length = x) := ⟨_, rfl⟩
      rw [HN1.out] at c4 KP CF HV
      rw [HNH.out] at c5 KP CF HV
      obtain ⟨p0, p1, p2, p3, p4, p5⟩ := run_cells KP.out
      obtain ⟨a0, a1, a2, a3, a4, a5⟩ := run_cells KAv.out
      have hz0 : w.heap.size < V.heap.size := KAv.out.lt
      have hz1 : wr.heap.size < V.heap.size := KP.out.lt
      have hwV : w.heap.size ≤ V.heap.size := by omega
      go_upto_region 4 with fail
      rw [HV.out]
      clear hkz a1 a3 a4 a5
      cases hok : okB ⟨p, l, d, s, bs, hs1⟩ with
      | false =>
        rw [hok] at CF
        have HF : Hid (¬ FeedsOk sec r.fh) := HNO.out (fun x => by rw [hok] at x; exact absurd x.1 (by decide))
        clear hok
        refine wp_region_held_drew (S := (fun w' => w'.cell? ⟨w.heap.size, 0, none⟩ = some (.int .i64 sec) ∧ w'.cell? ⟨w.heap.size, 2, none⟩ = some (.slice (some ⟨b, o, none⟩) m r.c1) ∧ w'.cell? ⟨wr.heap.size, 0, none⟩ = some (.int .i64 p) ∧ w'.cell? ⟨wr.heap.size, 1, none⟩ = some (.int .i64 l) ∧ w'.cell? ⟨wr.heap.size, 2, none⟩ = some (.int .i64 d) ∧ w'.cell? ⟨wr.heap.size, 3, none⟩ = some (.int .i64 s) ∧ w'.cell? ⟨wr.heap.size, 4, none⟩ = some (.slice A1 n1 c1) ∧ w'.cell? ⟨wr.heap.size, 5, none⟩ = some (.slice A2 nh c2))) (by kernel_rfl) (⟨a0, a2, p0, p1, p2, p3, p4, p5⟩) (fun hHeld => ?_)
        refine wtk 0 ?zv1 13 rfl rfl (by kernel_rfl) (fun _ _ _ h => h) (by kernel_rfl) ?zy1 (by assumption) ?zr1
        case zy1 => (intro w hSw; (try dsimp only at hSw); go_simp; try with_reducible rfl)
        simp only [Act.put, aput]
        refine wpAnyH_ready (rs := [1]) (by kernel_rfl) (by simp) (AllReadyH.cons rfl (fun K hK => ?_) AllReadyH.nil)
        go_simp
        go_at_call 73
        refine (CF.out _ (below_drew (Below.refl _ _))).mono ?_
        rintro e w2 ⟨rfl, hb2⟩
        have HB2 : Hid (Below V.heap.size V w2) := below_drew_l hb2
        have HB2w : Hid (Below w.heap.size w w2) := HBV.out.trans (HB2.out.mono hwV)
        obtain ⟨m0, m1, m2, m3, m4, m5⟩ := run_cells (KAv.out.below HB2.out hz0)
        obtain ⟨k0, k1, k2, k3, k4, k5⟩ := run_cells (KP.out.below HB2.out hz1)
        clear hb2
        refine hK.out _ _ (⟨m0, m2, k0, k1, k2, k3, k4, k5⟩) (fun hHeld => ?_)
        clear hK K
        (try simp only [Act.put, aput])
        refine wtk 2 ?zv2 15 rfl rfl (by kernel_rfl) (fun _ _ _ h => h) (by kernel_rfl) ?zy2 (by assumption) ?zr2
        case zy2 => (intro w hSw; (try dsimp only at hSw); go_simp; try with_reducible rfl)
        simp only [Act.put, aput]
        refine wtk 3 ?zv3 16 rfl rfl (by kernel_rfl) (fun _ _ _ h => h) (by kernel_rfl) ?zy3 (by assumption) ?zr3
        case zy3 => (intro w hSw; (try dsimp only at hSw); go_simp; try with_reducible rfl)
        simp only [Act.put, aput]
        refine wtu 4 17 rfl rfl (by kernel_rfl) (fun _ _ _ h => h) (by kernel_rfl) (by assumption) ?_
        simp only [Act.put, aput]
        refine wtu 5 18 rfl rfl (by kernel_rfl) (fun _ _ _ h => h) (by kernel_rfl) (by assumption) ?_
        simp only [Act.put, aput]
        refine wtu 6 19 rfl rfl (by kernel_rfl) (fun _ _ _ h => h) (by kernel_rfl) (by assumption) ?_
        simp only [Act.put, aput]
        refine wtu 7 20 rfl rfl (by kernel_rfl) (fun _ _ _ h => h) (by kernel_rfl) (by assumption) ?_
        simp only [Act.put, aput]
        refine wtu 8 21 rfl rfl (by kernel_rfl) (fun _ _ _ h => h) (by kernel_rfl) (by assumption) ?_
        simp only [Act.put, aput]
        refine wtu 9 22 rfl rfl (by kernel_rfl) (fun _ _ _ h => h) (by kernel_rfl) (by assumption) ?_
        simp only [Act.put, aput]
        refine wtk 10 ?zv4 23 rfl rfl (by kernel_rfl) (fun _ _ _ h => h) (by kernel_rfl) ?zy4 (by assumption) ?zr4
        case zy4 => (intro w hSw; (try dsimp only at hSw); go_simp; try with_reducible rfl)
        simp only [Act.put, aput]
        refine wpAnyH_done (by kernel_rfl) ?_ _
        go_wp2
        go_ret
        exact ⟨false, rfl, ⟨fun x => (by cases x), fun x => absurd x HF.out⟩, HB2w.out⟩
      | true =>
        rw [hok] at CF
        by_cases hpu : p = pu
        · have hpb : (p != pu) = false := by rw [hpu]; simp
          have HS2 := Lib.hid (HS.out ⟨hok, hpu.trans HPU.out.symm⟩)
          clear hok hpu
          refine wp_region_held_drew (S := (fun w' => w'.cell? ⟨w.heap.size, 0, none⟩ = some (.int .i64 sec) ∧ w'.cell? ⟨w.heap.size, 2, none⟩ = some (.slice (some ⟨b, o, none⟩) m r.c1) ∧ w'.cell? ⟨wr.heap.size, 0, none⟩ = some (.int .i64 p) ∧ w'.cell? ⟨wr.heap.size, 1, none⟩ = some (.int .i64 l) ∧ w'.cell? ⟨wr.heap.size, 2, none⟩ = some (.int .i64 d) ∧ w'.cell? ⟨wr.heap.size, 3, none⟩ = some (.int .i64 s) ∧ w'.cell? ⟨wr.heap.size, 4, none⟩ = some (.slice A1 n1 c1) ∧ w'.cell? ⟨wr.heap.size, 5, none⟩ = some (.slice A2 nh c2))) (by kernel_rfl) (⟨a0, a2, p0, p1, p2, p3, p4, p5⟩) (fun hHeld => ?_)
          refine wtk 0 ?zv5 13 rfl rfl (by kernel_rfl) (fun _ _ _ h => h) (by kernel_rfl) ?zy5 (by assumption) ?zr5
          case zy5 => (intro w hSw; (try dsimp only at hSw); go_simp; try with_reducible rfl)
          simp only [Act.put, aput]
          refine wpAnyH_ready (rs := [1]) (by kernel_rfl) (by simp) (AllReadyH.cons rfl (fun K hK => ?_) AllReadyH.nil)
          go_simp
          go_at_call 73
          refine (CF.out _ (below_drew (Below.refl _ _))).mono ?_
          rintro e w2 ⟨rfl, hb2⟩
          have HB2 : Hid (Below V.heap.size V w2) := below_drew_l hb2
          have HB2w : Hid (Below w.heap.size w w2) := HBV.out.trans (HB2.out.mono hwV)
          obtain ⟨m0, m1, m2, m3, m4, m5⟩ := run_cells (KAv.out.below HB2.out hz0)
          obtain ⟨k0, k1, k2, k3, k4, k5⟩ := run_cells (KP.out.below HB2.out hz1)
          clear hb2
          refine hK.out _ _ (⟨m0, m2, k0, k1, k2, k3, k4, k5⟩) (fun hHeld => ?_)
          clear hK K
          (try simp only [Act.put, aput])
          refine wtk 2 ?zv6 15 rfl rfl (by kernel_rfl) (fun _ _ _ h => h) (by kernel_rfl) ?zy6 (by assumption) ?zr6
          case zy6 => (intro w hSw; (try dsimp only at hSw); go_simp; try with_reducible rfl)
          simp only [Act.put, aput]
          refine wtk 3 ?zv7 16 rfl rfl (by kernel_rfl) (fun _ _ _ h => h) (by kernel_rfl) ?zy7 (by assumption) ?zr7
          case zy7 => (intro w hSw; (try dsimp only at hSw); go_simp; try with_reducible rfl)
          simp only [Act.put, aput]
          refine wtk 4 ?zv8 17 rfl rfl (by kernel_rfl) (fun _ _ _ h => h) (by kernel_rfl) ?zy8 (by assumption) ?zr8
          case zy8 => (intro w hSw; (try dsimp only at hSw); go_simp; try with_reducible rfl)
          simp only [Act.put, aput]
          refine wtk 5 ?zv9 18 rfl rfl (by kernel_rfl) (fun _ _ _ h => h) (by kernel_rfl) ?zy9 (by assumption) ?zr9
          case zy9 => (intro w hSw; (try dsimp only at hSw); go_simp; try with_reducible rfl)
          simp only [Act.put, aput]
          refine wtk 6 ?zv10 19 rfl rfl (by kernel_rfl) (fun _ _ _ h => h) (by kernel_rfl) ?zy10 (by assumption) ?zr10
          case zy10 => (intro w hSw; (try dsimp only at hSw); go_simp; try with_reducible rfl)
          simp only [Act.put, aput]
          refine wtk 7 ?zv11 20 rfl rfl (by kernel_rfl) (fun _ _ _ h => h) (by kernel_rfl) ?zy11 (by assumption) ?zr11
          case zy11 => (intro w hSw; (try dsimp only at hSw); go_simp; try with_reducible rfl)
          simp only [Act.put, aput]
          refine wpAnyH_ready (rs := [8]) (by kernel_rfl) (by simp) (AllReadyH.cons rfl (fun K hK => ?_) AllReadyH.nil)
          go_simp
          go_at_call 74
          refine (CP.out _).mono ?_
          rintro e w3 ⟨rfl, hw3⟩
          (first | rw [← hw3] | rw [hw3])
          clear hw3
          refine hK.out _ _ (⟨m0, m2, k0, k1, k2, k3, k4, k5⟩) (fun hHeld => ?_)
          clear hK K
          (try simp only [Act.put, aput])
          refine wtk 9 ?zv12 22 rfl rfl (by kernel_rfl) (fun _ _ _ h => h) (by kernel_rfl) ?zy12 (by assumption) ?zr12
          case zy12 => (intro w hSw; (try dsimp only at hSw); go_simp; try with_reducible rfl)
          simp only [Act.put, aput]
          refine wtk 10 ?zv13 23 rfl rfl (by kernel_rfl) (fun _ _ _ h => h) (by kernel_rfl) ?zy13 (by assumption) ?zr13
          case zy13 => (intro w hSw; (try dsimp only at hSw); go_simp; try with_reducible rfl)
          simp only [Act.put, aput]
          refine wpAnyH_done (by kernel_rfl) ?_ _
          go_wp2
          go_roundw
          case rel => exact ⟨k + 1, by omega, by go_num, HBV0.out.trans (HB2.out.mono HBV0.out.size), HS2.out⟩
          case measure => simp [intOf]; omega
        · have hpb : (p != pu) = true := bne_iff_ne.2 hpu
          have HF : Hid (¬ FeedsOk sec r.fh) := HNO.out (fun x => hpu (x.2.trans HPU.out))
          clear hok hpu
          refine wp_region_held_drew (S := (fun w' => w'.cell? ⟨w.heap.size, 0, none⟩ = some (.int .i64 sec) ∧ w'.cell? ⟨w.heap.size, 2, none⟩ = some (.slice (some ⟨b, o, none⟩) m r.c1) ∧ w'.cell? ⟨wr.heap.size, 0, none⟩ = some (.int .i64 p) ∧ w'.cell? ⟨wr.heap.size, 1, none⟩ = some (.int .i64 l) ∧ w'.cell? ⟨wr.heap.size, 2, none⟩ = some (.int .i64 d) ∧ w'.cell? ⟨wr.heap.size, 3, none⟩ = some (.int .i64 s) ∧ w'.cell? ⟨wr.heap.size, 4, none⟩ = some (.slice A1 n1 c1) ∧ w'.cell? ⟨wr.heap.size, 5, none⟩ = some (.slice A2 nh c2))) (by kernel_rfl) (⟨a0, a2, p0, p1, p2, p3, p4, p5⟩) (fun hHeld => ?_)
          refine wtk 0 ?zv14 13 rfl rfl (by kernel_rfl) (fun _ _ _ h => h) (by kernel_rfl) ?zy14 (by assumption) ?zr14
          case zy14 => (intro w hSw; (try dsimp only at hSw); go_simp; try with_reducible rfl)
          simp only [Act.put, aput]
          refine wpAnyH_ready (rs := [1]) (by kernel_rfl) (by simp) (AllReadyH.cons rfl (fun K hK => ?_) AllReadyH.nil)
          go_simp
          go_at_call 73
          refine (CF.out _ (below_drew (Below.refl _ _))).mono ?_
          rintro e w2 ⟨rfl, hb2⟩
          have HB2 : Hid (Below V.heap.size V w2) := below_drew_l hb2
          have HB2w : Hid (Below w.heap.size w w2) := HBV.out.trans (HB2.out.mono hwV)
          obtain ⟨m0, m1, m2, m3, m4, m5⟩ := run_cells (KAv.out.below HB2.out hz0)
          obtain ⟨k0, k1, k2, k3, k4, k5⟩ := run_cells (KP.out.below HB2.out hz1)
          clear hb2
          refine hK.out _ _ (⟨m0, m2, k0, k1, k2, k3, k4, k5⟩) (fun hHeld => ?_)
          clear hK K
          (try simp only [Act.put, aput])
          refine wtk 2 ?zv15 15 rfl rfl (by kernel_rfl) (fun _ _ _ h => h) (by kernel_rfl) ?zy15 (by assumption) ?zr15
          case zy15 => (intro w hSw; (try dsimp only at hSw); go_simp; try with_reducible rfl)
          simp only [Act.put, aput]
          refine wtk 3 ?zv16 16 rfl rfl (by kernel_rfl) (fun _ _ _ h => h) (by kernel_rfl) ?zy16 (by assumption) ?zr16
          case zy16 => (intro w hSw; (try dsimp only at hSw); go_simp; try with_reducible rfl)
          simp only [Act.put, aput]
          refine wtk 4 ?zv17 17 rfl rfl (by kernel_rfl) (fun _ _ _ h => h) (by kernel_rfl) ?zy17 (by assumption) ?zr17
          case zy17 => (intro w hSw; (try dsimp only at hSw); go_simp; try with_reducible rfl)
          simp only [Act.put, aput]
          refine wtk 5 ?zv18 18 rfl rfl (by kernel_rfl) (fun _ _ _ h => h) (by kernel_rfl) ?zy18 (by assumption) ?zr18
          case zy18 => (intro w hSw; (try dsimp only at hSw); go_simp; try with_reducible rfl)
          simp only [Act.put, aput]
          refine wtk 6 ?zv19 19 rfl rfl (by kernel_rfl) (fun _ _ _ h => h) (by kernel_rfl) ?zy19 (by assumption) ?zr19
          case zy19 => (intro w hSw; (try dsimp only at hSw); go_simp; try with_reducible rfl)
          simp only [Act.put, aput]
          refine wtk 7 ?zv20 20 rfl rfl (by kernel_rfl) (fun _ _ _ h => h) (by kernel_rfl) ?zy20 (by assumption) ?zr20
          case zy20 => (intro w hSw; (try dsimp only at hSw); go_simp; try with_reducible rfl)
          simp only [Act.put, aput]
          refine wpAnyH_ready (rs := [8]) (by kernel_rfl) (by simp) (AllReadyH.cons rfl (fun K hK => ?_) AllReadyH.nil)
          go_simp
          go_at_call 74
          refine (CP.out _).mono ?_
          rintro e w3 ⟨rfl, hw3⟩
          (first | rw [← hw3] | rw [hw3])
          clear hw3
          refine hK.out _ _ (⟨m0, m2, k0, k1, k2, k3, k4, k5⟩) (fun hHeld => ?_)
          clear hK K
          (try simp only [Act.put, aput])
          refine wtk 9 ?zv21 22 rfl rfl (by kernel_rfl) (fun _ _ _ h => h) (by kernel_rfl) ?zy21 (by assumption) ?zr21
          case zy21 => (intro w hSw; (try dsimp only at hSw); go_simp; try with_reducible rfl)
          simp only [Act.put, aput]
          refine wtk 10 ?zv22 23 rfl rfl (by kernel_rfl) (fun _ _ _ h => h) (by kernel_rfl) ?zy22 (by assumption) ?zr22
          case zy22 => (intro w hSw; (try dsimp only at hSw); go_simp; try with_reducible rfl)
          simp only [Act.put, aput]
          refine wpAnyH_done (by kernel_rfl) ?_ _
          go_wp2
          go_ret
          exact ⟨false, rfl, ⟨fun x => (by cases x), fun x => absurd x HF.out⟩, HB2w.out⟩
    · have hke : k = m := by omega
      subst hke
      have hz : 0 < r.fh.length := by rw [HM.out]; exact hp
      have hki : (0 : Int) < (k : Int) := by omega
      have HOK := Lib.hid (okB_lens (HC.out 0 hp).1)
      have HRr := Lib.hid (HR1.out.belowS HBr0.out)
      have cc := feed_cells6 HRr.out 0 hz
      have c5 := cc.2.2.2.2.2
      rw [show o + 0 * 6 + 5 = o + 5 by omega] at c5
      have HF0 := Lib.hid ((HRUN.out.feed 0 hz))
      have HFr : Hid (FhAt wr wr.heap.size (fhth r.fh 0)) := (HF0.out.keep fun p hp => HBr0.out.cell hp).more HBr0.out.size
      have CC := Lib.hid (contains_any (fhth r.fh 0).a2 (fhth r.fh 0).c2 (fhth r.fh 0).f.hs wr HFr.out.feed.bits HFr.out.feed.lh)
      obtain ⟨nf, HNF⟩ : ∃ x, Hid (noneF (fhth r.fh 0).f.hs = x) := ⟨_, rfl⟩
      rw [HNF.out] at CC
      have CL := Lib.hid (CWL.out wr HBr0.out HOK.out.2.2.1)
      obtain ⟨b0, HB0⟩ : ∃ x, Hid ((fhth r.fh 0).f.bs = x) := ⟨_, rfl⟩
      rw [HB0.out] at CL HOK
      obtain ⟨ax, HAX⟩ : ∃ x, Hid ((fhth r.fh 0).a2 = x) := ⟨_, rfl⟩
      obtain ⟨cx, HCX⟩ : ∃ x, Hid ((fhth r.fh 0).c2 = x) := ⟨_, rfl⟩
      obtain ⟨nx, HNX⟩ : ∃ x, Hid ((fhth r.fh 0).f.hs.length = x) := ⟨_, rfl⟩
      rw [HAX.out, HCX.out, HNX.out] at CC c5
      obtain ⟨a0, a1, a2, a3, a4, a5⟩ := run_cells KAr.out
      have hzr : w.heap.size < wr.heap.size := KAr.out.lt
      clear cc
      go_wp2_with fail
      refine CC.out.mono ?_
      rintro e wx ⟨rfl, rfl⟩
      cases nf with
      | false =>
        have HF : Hid (¬ FeedsOk sec r.fh) := fun x => by have := x.2.1; rw [HNF.out] at this; cases this
        go_wp2
        go_ret
        exact ⟨false, rfl, ⟨fun x => (by cases x), fun x => absurd x HF.out⟩, HBr0.out⟩
      | true =>
        go_wp2_with fail
        refine CL.out.mono ?_
        rintro e w2 ⟨g, c, rfl, ho2, hb2⟩
        have HLL : Hid ((leafL b0).length = b0.length) := leafL_length b0
        have HO2 := Lib.hid ho2
        have HBw2 : Hid (Below w.heap.size w w2) := HBr0.out.trans (hb2.mono HBr0.out.size)
        have KA2 : Hid (Blk w2 w.heap.size 35 #[.int .i64 sec, .int .i64 bad, .slice (some ⟨b, o, none⟩) k r.c1, .slice r.A2 n2 r.c2, .slice r.A3 r.ah.length r.c3, .slice r.A4 r.qh.length r.c4]) := KAr.out.below hb2 hzr
        clear ho2 hb2 a0 a1 a2 a3 a4 a5
        rw [HLL.out]
        obtain ⟨nb, HNB⟩ : ∃ x, Hid (b0.length = x) := ⟨_, rfl⟩
        obtain ⟨V, HV⟩ : ∃ U, Hid (w2.alloc (.cells #[.slice (some ⟨g, 0, none⟩) nb c] 39) = U) := ⟨_, rfl⟩
        have KL : Hid (Blk V w2.heap.size 39 #[.slice (some ⟨g, 0, none⟩) nb c]) := by rw [← HV.out]; exact Blk.new _ _ _
        have KA3 : Hid (Blk V w.heap.size 35 #[.int .i64 sec, .int .i64 bad, .slice (some ⟨b, o, none⟩) k r.c1, .slice r.A2 n2 r.c2, .slice r.A3 r.ah.length r.c3, .slice r.A4 r.qh.length r.c4]) := by rw [← HV.out]; exact KA2.out.alloc _
        have HBV : Hid (Below w.heap.size w V) := by rw [← HV.out]; exact HBw2.out.alloc HBw2.out.size _
        have HO3 : Hid (OwnInts V wr.heap.size (some ⟨g, 0, none⟩) c (leafL b0)) := by rw [← HV.out]; exact HO2.out.alloc _
        have HRV := Lib.hid (HR1.out.belowS HBV.out)
        have hl0 : V.cell? ⟨w2.heap.size, 0, none⟩ = some (.slice (some ⟨g, 0, none⟩) nb c) := KL.out.cell 0
        have HPC : Hid (∀ j, j < r.fh.length → ∀ U, Below V.heap.size V U → Calls Tryz.prog 78 #[fhV (fhth r.fh j), .pointer (some ⟨w.heap.size, 0, none⟩), .pointer (some ⟨w2.heap.size, 0, none⟩)] U fun e w' => e = .returned (.bool (!fromB sec b0 (fhth r.fh j).f)) ∧ Below U.heap.size U w') := fun j hj U hU => by
          have hj' := okB_lens (HC.out j (by rw [← HM.out]; exact hj)).1
          have hBU : Below w.heap.size w U := HBV.out.trans (hU.mono HBV.out.size)
          have hle := HO3.out.le
          rw [leafL_length] at hle
          refine feedBad_any sec b0 g c w.heap.size w2.heap.size (fhth r.fh j) U (HO3.out.ints.belowS hU) hle.1 hle.2 HOK.out.2.2.1 (((HRUN.out.feed j hj).keep fun p hp => hBU.cell hp).more hBU.size) hj'.1 hj'.2.1 ?_ ?_ ?_ ?_
          · exact (hU.cell (p := ⟨w.heap.size, 0, none⟩) KA3.out.lt).trans (KA3.out.cell 0)
          · rw [HNB.out]; exact (hU.cell (p := ⟨w2.heap.size, 0, none⟩) KL.out.lt).trans hl0
          · exact Nat.lt_of_lt_of_le KA3.out.lt hU.size
          · exact Nat.lt_of_lt_of_le KL.out.lt hU.size
        have CA := Lib.hid (feedAny_any (some ⟨b, o, none⟩) r.c1 r.fh w.heap.size w2.heap.size (fun j => !fromB sec b0 (fhth r.fh j).f) V HRV.out (by rw [HM.out]; unfold maxLen; omega) HPC.out)
        have HALL : Hid ((!anyN r.fh.length (fun j => !fromB sec b0 (fhth r.fh j).f)) = true ↔ FeedsOk sec r.fh) := by
          show _ ↔ _
          rw [anyN_all (Q := fun j => fromB sec b0 (fhth r.fh j).f) (fun j hj => rfl)]
          constructor
          · intro x
            exact ⟨fun j hj => HC.out j (by rw [← HM.out]; exact hj), HNF.out, fun j hj => by rw [HB0.out]; exact x j hj⟩
          · intro x j hj
            have := x.2.2 j hj
            rw [HB0.out] at this
            exact this
        obtain ⟨any, HANY⟩ : ∃ x, Hid (anyN r.fh.length (fun j => !fromB sec b0 (fhth r.fh j).f) = x) := ⟨_, rfl⟩
        rw [HANY.out] at CA HALL
        rw [HM.out] at CA
        obtain ⟨a0, a1, a2, a3, a4, a5⟩ := run_cells KA3.out
        have hmf : ∀ (fn : Fn) (first cap : Array Value) (w : World), (Instr.makeFunc fn first cap).run Tryz.prog w = .ok (.func fn first cap) w := fun _ _ _ _ => rfl
        rw [HNB.out]
        go_upto_region 10 with fail
        rw [HV.out]
        go_wp2_with fail
        refine CA.out.mono ?_
        rintro e w3 ⟨rfl, hb3⟩
        have HB3 : Hid (Below w.heap.size w w3) := HBV.out.trans (hb3.mono HBV.out.size)
        clear hb3
        go_wp2
        go_ret
        exact ⟨_, rfl, HALL.out, HB3.out⟩
end Go.Proofs.YtkmebilhbjcfpaaGreat

namespace Go.Proofs.YtkmebilhbjcfpaaGreat
open Go.RowKit
set_option linter.unusedVariables false

/-- What requestsValid asks. -/
def ReqsOk (n : Nat) (hs : List AH) : Prop := hs.length = n ∧ ∀ k, k < hs.length → winB (ahth hs k).xs = true

set_option maxHeartbeats 1000000 in
theorem askBad_any (H : AH) (w : World) (hA : AsksAt w w.heap.size H.a H.c H.xs) :
    Calls Tryz.prog 83 #[ahV H] w fun e w' => e = .returned (.bool (!winB H.xs)) ∧ Below w.heap.size w w' := by
  have C := Lib.hid (winValid_any H.a H.c H.xs w hA)
  clear hA
  go_enter Tryz.func83, Tryz.ntmps83
  go_wp2_with fail
  refine C.out.mono ?_
  rintro e w2 ⟨rfl, hb2⟩
  have HB := Lib.hid hb2
  clear hb2
  go_wp2
  go_ret
  exact ⟨rfl, HB.out⟩

set_option maxHeartbeats 2000000 in
set_option maxRecDepth 100000 in
theorem reqs_any (sec bad : Int) (r : WR) (ls : List LinkD) (m n2 q : Nat) (w : World) (h : RunAt w w.heap.size r ls) (hq : r.ah.length = q) :
    Calls Tryz.prog 34 #[.agg #[.int .i64 sec, .int .i64 bad, .slice r.A1 m r.c1, .slice r.A2 n2 r.c2, .slice r.A3 q r.c3, .slice r.A4 r.qh.length r.c4]] w fun e w' => ∃ res, e = .returned (.bool res) ∧ (res = true ↔ ReqsOk m r.ah) ∧ Below w.heap.size w w' := by
  obtain ⟨W, HW⟩ : ∃ W, Hid (w.alloc (.cells #[.int .i64 sec, .int .i64 bad, .slice r.A1 m r.c1, .slice r.A2 n2 r.c2, .slice r.A3 q r.c3, .slice r.A4 r.qh.length r.c4] 35) = W) := ⟨_, rfl⟩
  have KA : Hid (Blk W w.heap.size 35 #[.int .i64 sec, .int .i64 bad, .slice r.A1 m r.c1, .slice r.A2 n2 r.c2, .slice r.A3 q r.c3, .slice r.A4 r.qh.length r.c4]) := by rw [← HW.out]; exact Blk.new w _ _
  have HB : Hid (Below w.heap.size w W) := by rw [← HW.out]; exact (Below.refl _ w).alloc (Nat.le_refl _) _
  obtain ⟨a0, a1, a2, a3, a4, a5⟩ := run_cells KA.out
  have hw := h.belowS HB.out
  have CA := Lib.hid (asksAny_any r.A3 r.c3 r.ah (fun k => !winB (ahth r.ah k).xs) W hw.r3 hw.m3 (fun k hk U hU => askBad_any (ahth r.ah k) U ((hw.asks k hk).belowS hU)))
  have HALL : Hid ((!anyN r.ah.length (fun k => !winB (ahth r.ah k).xs)) = true ↔ ∀ k, k < r.ah.length → winB (ahth r.ah k).xs = true) := anyN_all (Q := fun k => winB (ahth r.ah k).xs) (fun _ _ => rfl)
  obtain ⟨any, HANY⟩ : ∃ x, Hid (anyN r.ah.length (fun k => !winB (ahth r.ah k).xs) = x) := ⟨_, rfl⟩
  rw [HANY.out] at CA HALL
  rw [hq] at CA
  have HQ := Lib.hid hq
  have hsz : w.heap.size ≤ W.heap.size := HB.out.size
  clear h hw hq
  by_cases hqm : q = m
  · have hne : ((q : Int) != (m : Int)) = false := by rw [hqm]; simp
    have HR : Hid ((!any) = true ↔ ReqsOk m r.ah) := HALL.out.trans ⟨fun x => ⟨by rw [HQ.out]; exact hqm, x⟩, fun x => x.2⟩
    clear hqm
    go_enter Tryz.func34, Tryz.ntmps34
    go_upto_region 1 with fail
    rw [HW.out]
    go_wp2_with fail
    refine CA.out.mono ?_
    rintro e w3 ⟨rfl, hb3⟩
    have HB3 : Hid (Below w.heap.size w w3) := HB.out.trans (hb3.mono hsz)
    clear hb3
    go_wp2
    go_ret
    exact ⟨_, rfl, HR.out, HB3.out⟩
  · have hne : ((q : Int) != (m : Int)) = true := by simp; omega
    have HR : Hid (¬ ReqsOk m r.ah) := fun x => hqm (HQ.out.symm.trans x.1)
    clear hqm
    go_enter Tryz.func34, Tryz.ntmps34
    go_upto_region 1 with fail
    rw [HW.out]
    go_wp2
    go_ret
    exact ⟨false, rfl, ⟨fun x => (by cases x), fun x => absurd x HR.out⟩, HB.out⟩

set_option maxHeartbeats 1000000 in
theorem equal_any (A : Option Addr) (cap : Nat) (xs : List Int) (A1 : Option Addr) (cap1 : Nat) (ys : List Int) (w : World) (hI : IntsAt w w.heap.size A xs) (hJ : IntsAt w w.heap.size A1 ys) (hm : xs.length ≤ maxLen) (hm1 : ys.length ≤ maxLen) :
    Calls Tryz.prog 132 #[.slice A xs.length cap, .slice A1 ys.length cap1] w fun e w' => e = .returned (.bool (decide (xs = ys))) ∧ ∃ q, w' = w.drewN q := by
  unfold maxLen at hm hm1
  have HI := Lib.hid hI
  have HJ := Lib.hid hJ
  clear hI hJ
  by_cases hl : xs.length = ys.length
  · obtain ⟨n, HN⟩ : ∃ n, Hid (xs.length = n) := ⟨_, rfl⟩
    have HN1 : Hid (ys.length = n) := by show _ = _; rw [← hl]; exact HN.out
    rw [HN.out] at hm ⊢
    rw [HN1.out] at hm1 ⊢
    clear hl
    go_enter Tryz.func132, Tryz.ntmps132
    go_wp2
    go_loopw [5, 13] (fun _ i w' => ∃ k : Nat, k ≤ n ∧ i = .int .i64 k ∧ Hid (xs.take k = ys.take k) ∧ ∃ q, w' = w.drewN q) (fun _ i _ => n - (intOf i).toNat)
    case atStart => exact ⟨0, Nat.zero_le _, rfl, rfl, 0, rfl⟩
    case round =>
      obtain ⟨k, hk, rfl, HD, q, rfl⟩ := hrel
      by_cases hlt : k < n
      · have hlx : k < xs.length := by rw [HN.out]; exact hlt
        have hly : k < ys.length := by rw [HN1.out]; exact hlt
        obtain ⟨b, o, rfl, hb, hc⟩ := HI.out (by omega)
        obtain ⟨b1, o1, rfl, hb1, hc1⟩ := HJ.out (by omega)
        have hck := hc k hlx
        have hck1 := hc1 k hly
        have hk0 : (0 : Int) ≤ (k : Int) := by omega
        have hk1 : (k : Int) < (n : Int) := by omega
        by_cases hv : nth xs k = nth ys k
        · have HT : Hid (xs.take (k + 1) = ys.take (k + 1)) := same_take xs ys k hlx hly HD.out hv
          have hvb : (nth xs k != nth ys k) = false := by simp [hv]
          clear hc hc1 hlx hly hv
          go_wp2_with fail
          go_quiet (fail)
          go_wp2
          go_roundw
          case rel => exact ⟨k + 1, by omega, by go_num, HT, _, rfl⟩
          case measure => simp [intOf]; omega
        · have HE := Lib.hid (same_ne xs ys k hv)
          have hvb : (nth xs k != nth ys k) = true := by simp [hv]
          clear hc hc1 hlx hly hv
          go_wp2_with fail
          go_quiet (fail)
          go_wp2
          go_ret
          exact ⟨ret_bool HE.out.symm, _, by first | rfl | exact World.drewN_drewN _ _ _⟩
      · have HE : Hid (decide (xs = ys) = true) := by
          show _ = _
          rw [decide_eq_true_iff]
          have := HD.out
          rw [List.take_of_length_le (by rw [HN.out]; omega), List.take_of_length_le (by rw [HN1.out]; omega)] at this
          exact this
        go_wp2
        go_ret
        exact ⟨ret_bool HE.out.symm, _, rfl⟩
  · have HE : Hid (decide (xs = ys) = false) := by show _ = _; rw [decide_eq_false_iff_not]; exact fun e => hl (by rw [e])
    have hne : ((xs.length : Int) != (ys.length : Int)) = true := by simp; omega
    clear hl
    go_enter Tryz.func132, Tryz.ntmps132
    go_wp2
    go_ret
    exact ⟨ret_bool HE.out.symm, 0, rfl⟩

theorem pieceB_eq (m : Nat) (bs : List ByteArray) (fr tq ln ix : Int) (tx : ByteArray) (pf : List Int) : pieceB m bs.length bs ⟨fr, tq, ln, ix, tx, pf⟩ = (inR m fr && (inR m tq && (decide (tx.size ≤ 8) && (decide (1 ≤ ln) && (decide (ln ≤ bs.length) && (decide (0 ≤ ix) && (decide (ix < ln) && decide (pf = proofOr (leafL (bs.take ln.toNat)) ix)))))))) := by
  rw [Bool.eq_iff_iff]
  unfold pieceB
  simp only [Bool.and_eq_true, inR_iff, decide_eq_true_eq]
  constructor
  · rintro ⟨⟨a1, a2⟩, ⟨a3, a4⟩, ⟨a5, a6⟩, ⟨a7, a8⟩, a9, a10⟩
    exact ⟨⟨a1, by omega⟩, ⟨a3, by omega⟩, a9, a5, a6, a7, by omega, a10⟩
  · rintro ⟨⟨a1, a2⟩, ⟨a3, a4⟩, a9, a5, a6, a7, a8, a10⟩
    exact ⟨⟨a1, by omega⟩, ⟨a3, by omega⟩, ⟨a5, a6⟩, ⟨a7, by omega⟩, a9, a10⟩

set_option maxHeartbeats 8000000 in
set_option maxRecDepth 100000 in
theorem pieceV_any (sec bad : Int) (r : WR) (m n2 : Nat) (b0 : List ByteArray) (g0 c0 : Nat) (q : QH) (w : World) (hI : IntsAt w w.heap.size (some ⟨g0, 0, none⟩) (leafL b0)) (hc0 : b0.length ≤ c0) (hc1 : c0 ≤ maxLen) (h16 : b0.length ≤ 16) (hq : QhAt w w.heap.size q) :
    Calls Tryz.prog 87 #[.agg #[.int .i64 sec, .int .i64 bad, .slice r.A1 m r.c1, .slice r.A2 n2 r.c2, .slice r.A3 r.ah.length r.c3, .slice r.A4 r.qh.length r.c4], .slice (some ⟨g0, 0, none⟩) b0.length c0, qhV q] w fun e w' => e = .returned (.bool (pieceB m b0.length b0 q.p)) ∧ Below w.heap.size w w' := by
  obtain ⟨⟨fr, tq, ln, ix, tx, pf⟩, qa, qc⟩ := q
  obtain ⟨np, HNP⟩ : ∃ x, Hid (pf.length = x) := ⟨_, rfl⟩
  have hpm : np ≤ qc := by rw [← HNP.out]; exact hq.le
  have hpc := hq.most
  have htm := hq.tx
  unfold maxLen at hpc htm hc1
  simp only at hpc htm
  have HPI := Lib.hid hq.ints
  have HI := Lib.hid hI
  obtain ⟨k0, HM0⟩ : ∃ x, Hid (b0.length = x) := ⟨_, rfl⟩
  have HPB : Hid (pieceB m (b0.length : Int) b0 ⟨fr, tq, ln, ix, tx, pf⟩ = (inR m fr && (inR m tq && (decide (tx.size ≤ 8) && (decide (1 ≤ ln) && (decide (ln ≤ (k0 : Int)) && (decide (0 ≤ ix) && (decide (ix < ln) && decide (pf = proofOr (leafL (b0.take ln.toNat)) ix))))))))) := by show _ = _; rw [pieceB_eq, HM0.out]
  obtain ⟨pz, HPZ⟩ : ∃ x, Hid (decide (pf = proofOr (leafL (b0.take ln.toNat)) ix) = x) := ⟨_, rfl⟩
  rw [HPZ.out] at HPB
  obtain ⟨res, HR2⟩ : ∃ x, Hid (pieceB m (b0.length : Int) b0 ⟨fr, tq, ln, ix, tx, pf⟩ = x) := ⟨_, rfl⟩
  rw [HR2.out] at HPB ⊢
  rw [HM0.out] at hc0 h16 ⊢
  unfold qhV
  dsimp only
  rw [HNP.out]
  clear hI hq
  obtain ⟨V0, HV0⟩ : ∃ W, Hid ((w.alloc (.cells #[.int .i64 sec, .int .i64 bad, .slice r.A1 m r.c1, .slice r.A2 n2 r.c2, .slice r.A3 r.ah.length r.c3, .slice r.A4 r.qh.length r.c4] 35)).alloc (.cells #[.int .i64 fr, .int .i64 tq, .int .i64 ln, .int .i64 ix, .string tx, .slice qa np qc] 62) = W) := ⟨_, rfl⟩
  have KA : Hid (Blk V0 w.heap.size 35 #[.int .i64 sec, .int .i64 bad, .slice r.A1 m r.c1, .slice r.A2 n2 r.c2, .slice r.A3 r.ah.length r.c3, .slice r.A4 r.qh.length r.c4]) := by rw [← HV0.out]; exact (Blk.new w _ _).alloc _
  have KP : Hid (Blk V0 (w.heap.size + 1) 62 #[.int .i64 fr, .int .i64 tq, .int .i64 ln, .int .i64 ix, .string tx, .slice qa np qc]) := by
    rw [← HV0.out]
    have := Blk.new (w.alloc (.cells #[.int .i64 sec, .int .i64 bad, .slice r.A1 m r.c1, .slice r.A2 n2 r.c2, .slice r.A3 r.ah.length r.c3, .slice r.A4 r.qh.length r.c4] 35)) 62 #[.int .i64 fr, .int .i64 tq, .int .i64 ln, .int .i64 ix, .string tx, .slice qa np qc]
    rwa [World.size_alloc] at this
  have HB : Hid (Below w.heap.size w V0) := by rw [← HV0.out]; exact ((Below.refl _ w).alloc (Nat.le_refl _) _).alloc (by rw [World.size_alloc]; omega) _
  have C1 : Hid (∀ (p : Int) (U : World), Calls Tryz.prog 80 #[.agg #[.int .i64 sec, .int .i64 bad, .slice r.A1 m r.c1, .slice r.A2 n2 r.c2, .slice r.A3 r.ah.length r.c3, .slice r.A4 r.qh.length r.c4], .int .i64 p] U fun e w' => e = .returned (.bool (inR m p)) ∧ Below U.heap.size U w') := fun p U => inRun_any sec bad r m n2 p U
  obtain ⟨a0, a1, a2, a3, a4, a5⟩ := run_cells KA.out
  obtain ⟨p0, p1, p2, p3, p4, p5⟩ := run_cells KP.out
  have hz0 : w.heap.size < V0.heap.size := KA.out.lt
  have hz1 : w.heap.size + 1 < V0.heap.size := KP.out.lt
  go_enter Tryz.func87, Tryz.ntmps87
  go_upto_region 1 with fail
  rw [HV0.out]
  have C1a := Lib.hid (C1.out fr V0)
  cases h1 : inR m fr with
  | false =>
    rw [h1] at C1a HPB
    have HF : Hid (res = false) := by show _ = _; rw [HPB.out]; rfl
    clear h1
    go_wp2_with fail
    refine C1a.out.mono ?_
    rintro e w2 ⟨rfl, hb2⟩
    have HB2 : Hid (Below w.heap.size w w2) := HB.out.trans (hb2.mono (by omega))
    clear hb2
    go_wp2
    go_ret
    exact ⟨ret_bool HF.out.symm, HB2.out⟩
  | true =>
    rw [h1] at C1a HPB
    clear h1
    go_wp2_with fail
    refine C1a.out.mono ?_
    rintro e w2 ⟨rfl, hb2⟩
    have HB2 : Hid (Below w.heap.size w w2) := HB.out.trans (hb2.mono (by omega))
    have KA2 := Lib.hid (KA.out.below hb2 hz0)
    have KP2 := Lib.hid (KP.out.below hb2 hz1)
    have hz2 : V0.heap.size ≤ w2.heap.size := hb2.size
    clear hb2 a0 a1 a2 a3 a4 a5 p0 p1 p2 p3 p4 p5 C1a
    obtain ⟨a0, a1, a2, a3, a4, a5⟩ := run_cells KA2.out
    obtain ⟨p0, p1, p2, p3, p4, p5⟩ := run_cells KP2.out
    have C1b := Lib.hid (C1.out tq w2)
    cases h2 : inR m tq with
    | false =>
      rw [h2] at C1b HPB
      have HF : Hid (res = false) := by show _ = _; rw [HPB.out]; rfl
      clear h2
      go_wp2_with fail
      refine C1b.out.mono ?_
      rintro e w3 ⟨rfl, hb3⟩
      have HB3 : Hid (Below w.heap.size w w3) := HB2.out.trans (hb3.mono (by omega))
      clear hb3
      go_wp2
      go_ret
      exact ⟨ret_bool HF.out.symm, HB3.out⟩
    | true =>
      rw [h2] at C1b HPB
      clear h2
      go_wp2_with fail
      refine C1b.out.mono ?_
      rintro e w3 ⟨rfl, hb3⟩
      have HB3 : Hid (Below w.heap.size w w3) := HB2.out.trans (hb3.mono (by omega))
      have KA3 := Lib.hid (KA2.out.below hb3 (by omega))
      have KP3 := Lib.hid (KP2.out.below hb3 (by omega))
      have hz3 : w2.heap.size ≤ w3.heap.size := hb3.size
      clear hb3 a0 a1 a2 a3 a4 a5 p0 p1 p2 p3 p4 p5 C1b
      obtain ⟨a0, a1, a2, a3, a4, a5⟩ := run_cells KA3.out
      obtain ⟨p0, p1, p2, p3, p4, p5⟩ := run_cells KP3.out
      by_cases h8 : tx.size ≤ 8
      · have h8d : decide (tx.size ≤ 8) = true := decide_eq_true h8
        have h8i : ¬ (8 : Int) < (tx.size : Int) := by omega
        rw [h8d] at HPB
        clear h8d h8
        by_cases h3 : 1 ≤ ln
        · by_cases h4 : ln ≤ (k0 : Int)
          · by_cases h5 : 0 ≤ ix
            · by_cases h6 : ix < ln
              · have n3 : ¬ ln < 1 := by omega
                have n4 : ¬ (k0 : Int) < ln := by omega
                have n5 : ¬ ix < 0 := by omega
                have n6 : ¬ ln ≤ ix := by omega
                have HF : Hid (res = pz) := by show _ = _; rw [HPB.out, decide_eq_true h3, decide_eq_true h4, decide_eq_true h5, decide_eq_true h6]; rfl
                obtain ⟨k, rfl⟩ : ∃ k : Nat, ln = (k : Int) := ⟨ln.toNat, by omega⟩
                obtain ⟨j, rfl⟩ : ∃ k : Nat, ix = (k : Int) := ⟨ix.toNat, by omega⟩
                rw [Int.toNat_natCast] at HPZ
                have hkc : (k : Int) ≤ (c0 : Int) := by omega
                have hk0' : (0 : Int) ≤ (k : Int) := by omega
                have HLL : Hid ((leafL (b0.take k)).length = k) := by have := HM0.out; show _ = _; rw [leafL_length, List.length_take]; omega
                have HI3 : Hid (IntsAt w3 w3.heap.size (some ⟨g0, 0, none⟩) (leafL (b0.take k))) := by
                  have := ((HI.out.belowS HB3.out).first k)
                  rw [← leafL_take] at this
                  exact this
                have CT : Hid (Calls Tryz.prog 133 #[.slice (some ⟨g0, 0, none⟩) k c0, .int .i64 (j : Int)] w3.drew (RetInts w3.drew (proofOr (leafL (b0.take k)) (j : Int)))) := by
                  have := proof_any (leafL (b0.take k)) (j : Int) g0 0 c0 w3.drew HI3.out (by rw [HLL.out]; omega) (by unfold maxLen; omega)
                  rw [HLL.out] at this
                  exact this
                have hz30 : w.heap.size < w3.heap.size := by omega
                have hz31 : w.heap.size + 1 < w3.heap.size := by omega
                clear h3 h4 h5 h6
                go_wp2_with fail
                go_region_held3 (fun w' => w'.cell? ⟨w.heap.size + 1, 2, none⟩ = some (.int .i64 (k : Int)) ∧ w'.cell? ⟨w.heap.size + 1, 3, none⟩ = some (.int .i64 (j : Int)) ∧ w'.cell? ⟨w.heap.size + 1, 5, none⟩ = some (.slice qa np qc)) (go_keep)
                  (first
                    | (go_at_call 133; (with_reducible refine (CT.out).mono ?_); rintro e w4 ⟨X3, c3, rfl, ho4, hb4⟩; have HB4 : Hid (Below w3.heap.size w3 w4) := below_drew_l hb4; have HO4 : Hid (OwnInts w4 w3.heap.size X3 c3 (proofOr (leafL (b0.take k)) (j : Int))) := ho4; obtain ⟨m0, m1, m2, m3, m4, m5⟩ := run_cells (KP3.out.below HB4.out hz31); clear hb4 ho4)
                    | (go_at_call 132; have HB4w : Hid (Below w.heap.size w w4) := HB3.out.trans (HB4.out.mono HB3.out.size); have CS := equal_any qa qc pf X3 c3 (proofOr (leafL (b0.take k)) (j : Int)) w4 (HPI.out.belowS HB4w.out) HO4.out.ints (by rw [HNP.out]; unfold maxLen; omega) (by have := proofOr_short (leafL (b0.take k)) (j : Int); unfold maxLen; omega); rw [HNP.out, HPZ.out] at CS; refine CS.mono ?_; rintro e w5 ⟨rfl, qn, rfl⟩; have HB5 : Hid (Below w.heap.size w (w4.drewN qn)) := below_drewN HB4w.out qn; clear CS))
                go_wp2
                go_ret
                exact ⟨ret_bool HF.out.symm, HB5.out⟩
              · have n3 : ¬ ln < 1 := by omega
                have n4 : ¬ (k0 : Int) < ln := by omega
                have n5 : ¬ ix < 0 := by omega
                have n6 : ln ≤ ix := by omega
                have HF : Hid (res = false) := by show _ = _; rw [HPB.out, decide_eq_false h6]; simp
                clear h3 h4 h5 h6
                go_wp2
                go_ret
                exact ⟨ret_bool HF.out.symm, HB3.out⟩
            · have n3 : ¬ ln < 1 := by omega
              have n4 : ¬ (k0 : Int) < ln := by omega
              have n5 : ix < 0 := by omega
              have HF : Hid (res = false) := by show _ = _; rw [HPB.out, decide_eq_false h5]; simp
              clear h3 h4 h5
              go_wp2
              go_ret
              exact ⟨ret_bool HF.out.symm, HB3.out⟩
          · have n3 : ¬ ln < 1 := by omega
            have n4 : (k0 : Int) < ln := by omega
            have HF : Hid (res = false) := by show _ = _; rw [HPB.out, decide_eq_false h4]; simp
            clear h3 h4
            go_wp2
            go_ret
            exact ⟨ret_bool HF.out.symm, HB3.out⟩
        · have n3 : ln < 1 := by omega
          have HF : Hid (res = false) := by show _ = _; rw [HPB.out, decide_eq_false h3]; simp
          clear h3
          go_wp2
          go_ret
          exact ⟨ret_bool HF.out.symm, HB3.out⟩
      · have h8i : (8 : Int) < (tx.size : Int) := by omega
        have HF : Hid (res = false) := by show _ = _; rw [HPB.out, decide_eq_false h8]; simp
        clear h8
        go_wp2
        go_ret
        exact ⟨ret_bool HF.out.symm, HB3.out⟩

set_option maxHeartbeats 4000000 in
set_option maxRecDepth 100000 in
theorem pieceBad_any (sec bad : Int) (r : WR) (m n2 : Nat) (b0 : List ByteArray) (g0 c0 gw gl : Nat) (q : QH) (w : World) (hI : IntsAt w w.heap.size (some ⟨g0, 0, none⟩) (leafL b0)) (hc0 : b0.length ≤ c0) (hc1 : c0 ≤ maxLen) (h16 : b0.length ≤ 16) (hq : QhAt w w.heap.size q)
    (hKA : Blk w gw 35 #[.int .i64 sec, .int .i64 bad, .slice r.A1 m r.c1, .slice r.A2 n2 r.c2, .slice r.A3 r.ah.length r.c3, .slice r.A4 r.qh.length r.c4]) (hKL : Blk w gl 39 #[.slice (some ⟨g0, 0, none⟩) b0.length c0]) :
    Calls Tryz.prog 86 #[qhV q, .pointer (some ⟨gw, 0, none⟩), .pointer (some ⟨gl, 0, none⟩)] w fun e w' => e = .returned (.bool (!pieceB m b0.length b0 q.p)) ∧ Below w.heap.size w w' := by
  obtain ⟨V, HV⟩ : ∃ V, Hid (w.alloc (.cells #[.int .i64 q.p.fr, .int .i64 q.p.to, .int .i64 q.p.ln, .int .i64 q.p.ix, .string q.p.tx, .slice q.a q.p.pf.length q.c] 62) = V) := ⟨_, rfl⟩
  have KP : Hid (Blk V w.heap.size 62 #[.int .i64 q.p.fr, .int .i64 q.p.to, .int .i64 q.p.ln, .int .i64 q.p.ix, .string q.p.tx, .slice q.a q.p.pf.length q.c]) := by rw [← HV.out]; exact Blk.new w _ _
  have HB : Hid (Below w.heap.size w V) := by rw [← HV.out]; exact (Below.refl _ w).alloc (Nat.le_refl _) _
  have KA := Lib.hid (hKA.below HB.out hKA.lt)
  have KL := Lib.hid (hKL.below HB.out hKL.lt)
  have C := Lib.hid (pieceV_any sec bad r m n2 b0 g0 c0 q V (hI.belowS HB.out) hc0 hc1 h16 ((hq.keep fun p hp => HB.out.cell hp).more HB.out.size))
  obtain ⟨p0, p1, p2, p3, p4, p5⟩ := run_cells KP.out
  obtain ⟨a0, a1, a2, a3, a4, a5⟩ := run_cells KA.out
  have y1 : V.cell? ⟨gl, 0, none⟩ = some (.slice (some ⟨g0, 0, none⟩) b0.length c0) := KL.out.cell 0
  obtain ⟨res, HR⟩ : ∃ x, Hid (pieceB m (b0.length : Int) b0 q.p = x) := ⟨_, rfl⟩
  rw [HR.out] at C ⊢
  obtain ⟨⟨fr, tq, ln, ix, tx, pf⟩, qa, qc⟩ := q
  unfold qhV at C ⊢
  dsimp only at C p0 p1 p2 p3 p4 p5 HV ⊢
  obtain ⟨n1, HN1⟩ : ∃ x, pf.length = x := ⟨_, rfl⟩
  obtain ⟨n3, HN3⟩ : ∃ x, b0.length = x := ⟨_, rfl⟩
  rw [HN1] at C p5 HV ⊢
  rw [HN3] at C y1
  have hsz : w.heap.size ≤ V.heap.size := HB.out.size
  clear hI hc0 hc1 h16 hq hKA hKL HN1 HN3 KP KL KA
  go_enter Tryz.func86, Tryz.ntmps86
  go_upto_region 1 with fail
  rw [HV.out]
  go_wp2_with fail
  refine C.out.mono ?_
  rintro e w2 ⟨rfl, hb2⟩
  have HB2 : Hid (Below w.heap.size w w2) := HB.out.trans (hb2.mono hsz)
  clear hb2
  go_wp2
  go_ret
  exact ⟨rfl, HB2.out⟩

/-- What netValid asks. -/
def NetOk (m : Nat) (b0 : List ByteArray) (hs : List QH) : Prop := hs.length ≤ 12 ∧ ∀ k, k < hs.length → pieceB m b0.length b0 (qhth hs k).p = true

set_option maxHeartbeats 4000000 in
set_option maxRecDepth 100000 in
theorem netV_any (sec bad : Int) (r : WR) (ls : List LinkD) (m n2 : Nat) (w : World) (h : RunAt w w.heap.size r ls) (hm : r.fh.length = m) (hp : 0 < m) (h16 : (fhth r.fh 0).f.bs.length ≤ 16) :
    Calls Tryz.prog 35 #[.agg #[.int .i64 sec, .int .i64 bad, .slice r.A1 m r.c1, .slice r.A2 n2 r.c2, .slice r.A3 r.ah.length r.c3, .slice r.A4 r.qh.length r.c4]] w fun e w' => ∃ res, e = .returned (.bool res) ∧ (res = true ↔ NetOk m (fhth r.fh 0).f.bs r.qh) ∧ Below w.heap.size w w' := by
  have CWL : Hid (∀ U, Below w.heap.size w U → Calls Tryz.prog 76 #[.agg #[.int .i64 sec, .int .i64 bad, .slice r.A1 m r.c1, .slice r.A2 n2 r.c2, .slice r.A3 r.ah.length r.c3, .slice r.A4 r.qh.length r.c4]] U (RetSome U (leafL (fhth r.fh 0).f.bs))) := fun U hU => wLeaves_any sec bad r ls m n2 U (h.belowS hU) hm hp h16
  have h12 := h.m4
  unfold maxLen at h12
  have HRUN := Lib.hid h
  have H16 := Lib.hid h16
  clear h hm h16
  obtain ⟨q, HQ⟩ : ∃ x, Hid (r.qh.length = x) := ⟨_, rfl⟩
  have HWC : Hid ((.agg #[.int .i64 sec, .int .i64 bad, .slice r.A1 m r.c1, .slice r.A2 n2 r.c2, .slice r.A3 r.ah.length r.c3, .slice r.A4 r.qh.length r.c4] : Value) = .agg #[.int .i64 sec, .int .i64 bad, .slice r.A1 m r.c1, .slice r.A2 n2 r.c2, .slice r.A3 r.ah.length r.c3, .slice r.A4 q r.c4]) := by show _ = _; rw [HQ.out]
  rw [HWC.out] at CWL ⊢
  rw [HQ.out] at h12
  obtain ⟨W, HW⟩ : ∃ W, Hid (w.alloc (.cells #[.int .i64 sec, .int .i64 bad, .slice r.A1 m r.c1, .slice r.A2 n2 r.c2, .slice r.A3 r.ah.length r.c3, .slice r.A4 q r.c4] 35) = W) := ⟨_, rfl⟩
  have KA : Hid (Blk W w.heap.size 35 #[.int .i64 sec, .int .i64 bad, .slice r.A1 m r.c1, .slice r.A2 n2 r.c2, .slice r.A3 r.ah.length r.c3, .slice r.A4 q r.c4]) := by rw [← HW.out]; exact Blk.new w _ _
  have HB : Hid (Below w.heap.size w W) := by rw [← HW.out]; exact (Below.refl _ w).alloc (Nat.le_refl _) _
  obtain ⟨a0, a1, a2, a3, a4, a5⟩ := run_cells KA.out
  have hsz : w.heap.size < W.heap.size := KA.out.lt
  by_cases hq : q ≤ 12
  · have hqi : ¬ (12 : Int) < (q : Int) := by omega
    have CL := Lib.hid (CWL.out W HB.out)
    obtain ⟨b0, HB0⟩ : ∃ x, Hid ((fhth r.fh 0).f.bs = x) := ⟨_, rfl⟩
    rw [HB0.out] at CL H16 ⊢
    go_enter Tryz.func35, Tryz.ntmps35
    go_upto_region 1 with fail
    rw [HW.out]
    go_wp2_with fail
    refine CL.out.mono ?_
    rintro e w2 ⟨g, c, rfl, ho2, hb2⟩
    have HLL : Hid ((leafL b0).length = b0.length) := leafL_length b0
    have HO2 := Lib.hid ho2
    have HBw2 : Hid (Below w.heap.size w w2) := HB.out.trans (hb2.mono HB.out.size)
    have KA2 := Lib.hid (KA.out.below hb2 hsz)
    clear ho2 hb2 a0 a1 a2 a3 a4 a5
    rw [HLL.out]
    obtain ⟨nb, HNB⟩ : ∃ x, Hid (b0.length = x) := ⟨_, rfl⟩
    rw [HNB.out]
    obtain ⟨V, HV⟩ : ∃ U, Hid (w2.alloc (.cells #[.slice (some ⟨g, 0, none⟩) nb c] 39) = U) := ⟨_, rfl⟩
    have KL : Hid (Blk V w2.heap.size 39 #[.slice (some ⟨g, 0, none⟩) nb c]) := by rw [← HV.out]; exact Blk.new _ _ _
    have KA3 : Hid (Blk V w.heap.size 35 #[.int .i64 sec, .int .i64 bad, .slice r.A1 m r.c1, .slice r.A2 n2 r.c2, .slice r.A3 r.ah.length r.c3, .slice r.A4 q r.c4]) := by rw [← HV.out]; exact KA2.out.alloc _
    have HBV : Hid (Below w.heap.size w V) := by rw [← HV.out]; exact HBw2.out.alloc HBw2.out.size _
    have HO3 : Hid (OwnInts V W.heap.size (some ⟨g, 0, none⟩) c (leafL b0)) := by rw [← HV.out]; exact HO2.out.alloc _
    have hRV := HRUN.out.belowS HBV.out
    have HPC : Hid (∀ j, j < r.qh.length → ∀ U, Below V.heap.size V U → Calls Tryz.prog 86 #[qhV (qhth r.qh j), .pointer (some ⟨w.heap.size, 0, none⟩), .pointer (some ⟨w2.heap.size, 0, none⟩)] U fun e w' => e = .returned (.bool (!pieceB m b0.length b0 (qhth r.qh j).p)) ∧ Below U.heap.size U w') := fun j hj U hU => by
      have hBU : Below w.heap.size w U := HBV.out.trans (hU.mono HBV.out.size)
      have hle := HO3.out.le
      rw [leafL_length] at hle
      refine pieceBad_any sec bad r m n2 b0 g c w.heap.size w2.heap.size (qhth r.qh j) U (HO3.out.ints.belowS hU) hle.1 hle.2 H16.out (((HRUN.out.piece j hj).keep fun p hp => hBU.cell hp).more hBU.size) ?_ ?_
      · rw [HQ.out]; exact KA3.out.below hU KA3.out.lt
      · rw [HNB.out]; exact KL.out.below hU KL.out.lt
    have CA := Lib.hid (pieceAny_any r.A4 r.c4 r.qh w.heap.size w2.heap.size (fun j => !pieceB m b0.length b0 (qhth r.qh j).p) V hRV.r4 hRV.m4 HPC.out)
    have HALL : Hid ((!anyN r.qh.length (fun j => !pieceB m b0.length b0 (qhth r.qh j).p)) = true ↔ NetOk m b0 r.qh) := by
      show _ ↔ _
      rw [anyN_all (Q := fun j => pieceB m b0.length b0 (qhth r.qh j).p) (fun j hj => rfl)]
      exact ⟨fun x => ⟨by rw [HQ.out]; exact hq, x⟩, fun x => x.2⟩
    obtain ⟨any, HANY⟩ : ∃ x, Hid (anyN r.qh.length (fun j => !pieceB m b0.length b0 (qhth r.qh j).p) = x) := ⟨_, rfl⟩
    rw [HANY.out] at CA HALL
    rw [HQ.out] at CA
    obtain ⟨a0, a1, a2, a3, a4, a5⟩ := run_cells KA3.out
    have hmf : ∀ (fn : Fn) (first cap : Array Value) (w : World), (Instr.makeFunc fn first cap).run Tryz.prog w = .ok (.func fn first cap) w := fun _ _ _ _ => rfl
    clear hRV
    go_upto_region 4 with fail
    rw [HV.out]
    go_wp2_with fail
    refine CA.out.mono ?_
    rintro e w3 ⟨rfl, hb3⟩
    have HB3 : Hid (Below w.heap.size w w3) := HBV.out.trans (hb3.mono HBV.out.size)
    clear hb3
    go_wp2
    go_ret
    exact ⟨_, rfl, HALL.out, HB3.out⟩
  · have hqi : (12 : Int) < (q : Int) := by omega
    have HF : Hid (¬ NetOk m (fhth r.fh 0).f.bs r.qh) := fun x => hq (by rw [← HQ.out]; exact x.1)
    clear hq
    go_enter Tryz.func35, Tryz.ntmps35
    go_upto_region 1 with fail
    rw [HW.out]
    go_wp2
    go_ret
    exact ⟨false, rfl, ⟨fun x => (by cases x), fun x => absurd x HF.out⟩, HB.out⟩
end Go.Proofs.YtkmebilhbjcfpaaGreat

namespace Go.Proofs.YtkmebilhbjcfpaaGreat
open Go.RowKit
set_option linter.unusedVariables false

theorem okW_parts (sec bad : Int) (r : WR) (ls : List LinkD) :
    OkW (dataW sec bad r ls) ↔ (newOk sec r.fh.length bad = true ∧ FeedsOk sec r.fh ∧ linksB r.fh.length ls = true ∧ ReqsOk r.fh.length r.ah ∧ NetOk r.fh.length (fhth r.fh 0).f.bs r.qh) := by
  have e0 : (dataW sec bad r ls).fs.length = r.fh.length := hfs_length _
  have f0 : ∀ k, fth (dataW sec bad r ls).fs k = (fhth r.fh k).f := fun k => fth_hfs _ k
  have a0 : ∀ k, wth (dataW sec bad r ls).aq k = (ahth r.ah k).xs := fun k => wth_has _ k
  constructor
  · intro h
    have hn := h.new
    rw [e0] at hn
    have hp : 0 < r.fh.length := by have := ((newOk_iff _ _ _).1 hn).2.1.1; omega
    have h0 := h.ok0
    rw [f0] at h0
    have hl := okB_lens h0
    refine ⟨hn, ⟨fun k hk => ?_, ?_, fun k hk => ?_⟩, ?_, ⟨?_, fun k hk => ?_⟩, ?_, fun k hk => ?_⟩
    · have := h.feeds k (by rw [e0]; exact hk)
      rw [f0] at this
      exact ⟨this.ok, this.key⟩
    · have := h.whole
      rw [f0] at this
      exact this
    · have := h.feeds k (by rw [e0]; exact hk)
      have hb := (feedB_iff _ _).2 this
      rw [f0, f0] at hb
      unfold feedB at hb
      rw [Bool.and_eq_true, Bool.and_eq_true, Bool.and_eq_true, Bool.and_eq_true] at hb
      obtain ⟨_, _, h1, h2, h3⟩ := hb
      unfold fromB
      rw [Bool.and_eq_true, Bool.and_eq_true]
      rw [decide_eq_true_eq] at h1
      exact ⟨decide_eq_true (by omega), h3, h2⟩
    · rw [linksB_iff, ← e0]; exact h.links
    · have := h.aslen
      rw [e0] at this
      exact (has_length r.ah).symm.trans this
    · have := h.wins k (by have := h.aslen; rw [← this]; exact Nat.lt_of_lt_of_eq hk (has_length r.ah).symm)
      rw [a0] at this
      exact this
    · exact Nat.le_trans (Nat.le_of_eq (hps_length r.qh).symm) h.netlen
    · have := h.pieces (qhth r.qh k).p (by show _ ∈ hps r.qh; exact List.mem_map.2 ⟨_, getD_mem (qhth_get _ k hk), rfl⟩)
      have hb := (pieceB_iff _ _).2 this
      rw [e0, f0] at hb
      rw [hl.1]
      exact hb
  · rintro ⟨hn, ⟨hf1, hf2, hf3⟩, hlk, ⟨hq1, hq2⟩, hn1, hn2⟩
    have hp : 0 < r.fh.length := by have := ((newOk_iff _ _ _).1 hn).2.1.1; omega
    have h0 := (hf1 0 hp).1
    have hl := okB_lens h0
    refine ⟨by rw [e0]; exact hn, by rw [f0]; exact h0, by rw [f0]; exact hf2, by rw [e0]; exact (linksB_iff _ _).1 hlk, by rw [e0]; exact (has_length r.ah).trans hq1, Nat.le_trans (Nat.le_of_eq (hps_length r.qh)) hn1, fun k hk => ?_, fun k hk => ?_, fun p hp' => ?_⟩
    · rw [e0] at hk
      rw [← feedB_iff, f0, f0]
      have h3 := hf3 k hk
      unfold fromB at h3
      rw [Bool.and_eq_true, Bool.and_eq_true, decide_eq_true_eq] at h3
      unfold feedB
      rw [Bool.and_eq_true, Bool.and_eq_true, Bool.and_eq_true, Bool.and_eq_true]
      exact ⟨(hf1 k hk).1, decide_eq_true (hf1 k hk).2, decide_eq_true (by omega), h3.2.2, h3.2.1⟩
    · rw [e0] at hk
      rw [a0]
      exact hq2 k (by rw [hq1]; exact hk)
    · obtain ⟨x, hx, rfl⟩ := List.mem_map.1 (show p ∈ r.qh.map QH.p from hp')
      obtain ⟨k, hk, rfl⟩ := List.mem_iff_getElem.1 hx
      have := hn2 k hk
      have e : qhth r.qh k = r.qh[k] := by
        have h1 := qhth_get r.qh k hk
        rw [List.getElem?_eq_getElem hk] at h1
        injection h1 with h1
        exact h1.symm
      rw [e, hl.1] at this
      rw [← pieceB_iff, e0, f0]
      exact this

set_option maxHeartbeats 4000000 in
set_option maxRecDepth 100000 in
theorem worldV_any (sec bad : Int) (r : WR) (ls : List LinkD) (w : World) (h : RunAt w w.heap.size r ls) {n m q : Nat} (hn : ls.length = n) (hm : r.fh.length = m) (hq : r.ah.length = q) :
    Calls Tryz.prog 8 #[.agg #[.int .i64 sec, .int .i64 bad, .slice r.A1 m r.c1, .slice r.A2 n r.c2, .slice r.A3 q r.c3, .slice r.A4 r.qh.length r.c4]] w fun e w' => ∃ res, e = .returned (.bool res) ∧ (res = true ↔ OkW (dataW sec bad r ls)) ∧ Below w.heap.size w w' := by
  have HALL := Lib.hid (okW_parts sec bad r ls)
  rw [hm] at HALL
  obtain ⟨V0, HV0⟩ : ∃ W, Hid (w.alloc (.cells #[.int .i64 sec, .int .i64 bad, .slice r.A1 m r.c1, .slice r.A2 n r.c2, .slice r.A3 q r.c3, .slice r.A4 r.qh.length r.c4] 35) = W) := ⟨_, rfl⟩
  have KA : Hid (Blk V0 w.heap.size 35 #[.int .i64 sec, .int .i64 bad, .slice r.A1 m r.c1, .slice r.A2 n r.c2, .slice r.A3 q r.c3, .slice r.A4 r.qh.length r.c4]) := by rw [← HV0.out]; exact Blk.new w _ _
  have HB : Hid (Below w.heap.size w V0) := by rw [← HV0.out]; exact (Below.refl _ w).alloc (Nat.le_refl _) _
  have hz0 : w.heap.size < V0.heap.size := KA.out.lt
  have C0 := Lib.hid (fun U => nums_any sec (m : Int) bad U)
  have C1 : Hid (0 < m → ∀ U, Below w.heap.size w U → _) := fun hp U hU => feedsV_any sec bad r ls m n U (h.belowS hU) hm hp
  have C2 : Hid (∀ U, Below w.heap.size w U → _) := fun U hU => links_any sec bad r ls U (h.belowS hU) hn hm
  have C3 : Hid (∀ U, Below w.heap.size w U → _) := fun U hU => reqs_any sec bad r ls m n q U (h.belowS hU) hq
  have C4 : Hid (0 < m → (fhth r.fh 0).f.bs.length ≤ 16 → ∀ U, Below w.heap.size w U → _) := fun hp h16 U hU => netV_any sec bad r ls m n U (h.belowS hU) hm hp h16
  rw [hq] at C1 C2 C4
  have HM := Lib.hid hm
  clear h hn hm hq
  obtain ⟨nk, HNK⟩ : ∃ x, Hid (newOk sec (m : Int) bad = x) := ⟨_, rfl⟩
  rw [HNK.out] at C0 HALL
  obtain ⟨lb, HLB⟩ : ∃ x, Hid (linksB m ls = x) := ⟨_, rfl⟩
  rw [HLB.out] at C2 HALL
  obtain ⟨a0, a1, a2, a3, a4, a5⟩ := run_cells KA.out
  go_enter Tryz.func8, Tryz.ntmps8
  go_upto_region 1 with fail
  rw [HV0.out]
  cases nk with
  | false =>
    have HF : Hid (¬ OkW (dataW sec bad r ls)) := fun x => by have := (HALL.out.1 x).1; cases this
    go_wp2_with fail
    refine (C0.out _).mono ?_
    rintro e w2 ⟨rfl, hw2⟩
    rw [hw2]
    clear hw2
    go_wp2
    go_ret
    exact ⟨false, rfl, ⟨fun x => (by cases x), fun x => absurd x HF.out⟩, HB.out⟩
  | true =>
    have hp : 0 < m := by have := ((newOk_iff _ _ _).1 HNK.out).2.1.1; omega
    go_wp2_with fail
    refine (C0.out _).mono ?_
    rintro e w2 ⟨rfl, hw2⟩
    rw [hw2]
    clear hw2
    go_wp2_with fail
    refine (C1.out hp V0 HB.out).mono ?_
    rintro e w2 ⟨b1, rfl, h1, hb2⟩
    have H1 := Lib.hid h1
    have HB2 : Hid (Below w.heap.size w w2) := HB.out.trans (hb2.mono (by omega))
    have KA2 := Lib.hid (KA.out.below hb2 hz0)
    clear h1 hb2 a0 a1 a2 a3 a4 a5
    obtain ⟨a0, a1, a2, a3, a4, a5⟩ := run_cells KA2.out
    have hz2 : w.heap.size < w2.heap.size := KA2.out.lt
    cases b1 with
    | false =>
      have HF : Hid (¬ OkW (dataW sec bad r ls)) := fun x => by have := H1.out.2 (HALL.out.1 x).2.1; cases this
      go_wp2
      go_ret
      exact ⟨false, rfl, ⟨fun x => (by cases x), fun x => absurd x HF.out⟩, HB2.out⟩
    | true =>
      go_wp2_with fail
      refine (C2.out w2 HB2.out).mono ?_
      rintro e w3 ⟨rfl, hb3⟩
      have HB3 : Hid (Below w.heap.size w w3) := HB2.out.trans (hb3.mono (by omega))
      have KA3 := Lib.hid (KA2.out.below hb3 hz2)
      clear hb3 a0 a1 a2 a3 a4 a5
      obtain ⟨a0, a1, a2, a3, a4, a5⟩ := run_cells KA3.out
      have hz3 : w.heap.size < w3.heap.size := KA3.out.lt
      cases lb with
      | false =>
        have HF : Hid (¬ OkW (dataW sec bad r ls)) := fun x => by have := (HALL.out.1 x).2.2.1; cases this
        go_wp2
        go_ret
        exact ⟨false, rfl, ⟨fun x => (by cases x), fun x => absurd x HF.out⟩, HB3.out⟩
      | true =>
        go_wp2_with fail
        refine (C3.out w3 HB3.out).mono ?_
        rintro e w4 ⟨b3, rfl, h3, hb4⟩
        have H3 := Lib.hid h3
        have HB4 : Hid (Below w.heap.size w w4) := HB3.out.trans (hb4.mono (by omega))
        have KA4 := Lib.hid (KA3.out.below hb4 hz3)
        clear h3 hb4 a0 a1 a2 a3 a4 a5
        obtain ⟨a0, a1, a2, a3, a4, a5⟩ := run_cells KA4.out
        have hz4 : w.heap.size < w4.heap.size := KA4.out.lt
        cases b3 with
        | false =>
          have HF : Hid (¬ OkW (dataW sec bad r ls)) := fun x => by have := H3.out.2 (HALL.out.1 x).2.2.2.1; cases this
          go_wp2
          go_ret
          exact ⟨false, rfl, ⟨fun x => (by cases x), fun x => absurd x HF.out⟩, HB4.out⟩
        | true =>
          have h16 : (fhth r.fh 0).f.bs.length ≤ 16 := (okB_lens ((H1.out.1 (by first | rfl | trivial)).1 0 (by rw [HM.out]; exact hp)).1).2.2.1
          have C4a := Lib.hid (C4.out hp h16 w4 HB4.out)
          clear h16
          go_wp2_with fail
          refine C4a.out.mono ?_
          rintro e w5 ⟨b4, rfl, h4, hb5⟩
          have HR : Hid (b4 = true ↔ OkW (dataW sec bad r ls)) := ⟨fun x => HALL.out.2 ⟨(by first | rfl | trivial), H1.out.1 (by first | rfl | trivial), (by first | rfl | trivial), H3.out.1 (by first | rfl | trivial), h4.1 x⟩, fun x => h4.2 (HALL.out.1 x).2.2.2.2⟩
          have HB5 : Hid (Below w.heap.size w w5) := HB4.out.trans (hb5.mono (by omega))
          clear h4 hb5
          go_wp2
          go_ret
          exact ⟨b4, rfl, HR.out, HB5.out⟩
end Go.Proofs.YtkmebilhbjcfpaaGreat
