/- Contracts of feedsValid and of its condition: they answer as the data say. Conditions: the run lies in memory and has a writer. -/
import Derived.Test.YtkmebilhbjcfpaaFromW
import Derived.Test.YtkmebilhbjcfpaaRunAny
import Derived.Deep.RegionWith
namespace Go.Proofs.Ytkmebilhbjcfpaa
open Go.RowKit
set_option linter.unusedVariables false

theorem okB_lens {f : FD} (h : okB f = true) : (f.bs.length : Int) = f.l ∧ (f.hs.length : Int) = f.l ∧ f.bs.length ≤ 16 ∧ Short f.bs := by
  have h' := (okB_iff f).1 h
  have h1 := h'.len
  exact ⟨h'.2.2.1.1, h'.2.2.1.2, h1.1, fun k hk => (h'.2.2.2.1 k hk).1⟩
/-- What feedsValid asks. -/
def FeedsOk (sec : Int) (hs : List FH) : Prop :=
  (∀ k, k < hs.length → okB (fhth hs k).f = true ∧ (fhth hs k).f.p = publicOr sec) ∧ noneF (fhth hs 0).f.hs = true ∧ ∀ k, k < hs.length → fromB sec (fhth hs 0).f.bs (fhth hs k).f = true

set_option maxHeartbeats 4000000 in
set_option maxRecDepth 100000 in
theorem feedBad_any (sec : Int) (b0 : List ByteArray) (g0 c0 gw gl : Nat) (H : FH) (w : World) (hI : IntsAt w w.heap.size (some ⟨g0, 0, none⟩) (leafL b0)) (hc0 : b0.length ≤ c0) (hc1 : c0 ≤ maxLen) (h16 : b0.length ≤ 16) (hH : FhAt w w.heap.size H)
    (hl1 : (H.f.bs.length : Int) = H.f.l) (hl2 : (H.f.hs.length : Int) = H.f.l) (x0 : w.cell? ⟨gw, 0, none⟩ = some (.int .i64 sec)) (x1 : w.cell? ⟨gl, 0, none⟩ = some (.slice (some ⟨g0, 0, none⟩) b0.length c0)) (hg1 : gw < w.heap.size) (hg2 : gl < w.heap.size) :
    Calls Try.prog 51 #[fhV H, .pointer (some ⟨gw, 0, none⟩), .pointer (some ⟨gl, 0, none⟩)] w fun e w' => e = .returned (.bool (!fromB sec b0 H.f)) ∧ Below w.heap.size w w' := by
  obtain ⟨V, HV⟩ : ∃ V, Hid (w.alloc (.cells #[.int .i64 H.f.p, .int .i64 H.f.l, .int .i64 H.f.d, .int .i64 H.f.s, .slice H.a1 H.f.bs.length H.c1, .slice H.a2 H.f.hs.length H.c2] 39) = V) := ⟨_, rfl⟩
  have KP : Hid (Blk V w.heap.size 39 #[.int .i64 H.f.p, .int .i64 H.f.l, .int .i64 H.f.d, .int .i64 H.f.s, .slice H.a1 H.f.bs.length H.c1, .slice H.a2 H.f.hs.length H.c2]) := by rw [← HV.out]; exact Blk.new w _ _
  have HB : Hid (Below w.heap.size w V) := by rw [← HV.out]; exact (Below.refl _ w).alloc (Nat.le_refl _) _
  have C := Lib.hid (fromW_any sec b0 g0 c0 H V (hI.belowS HB.out) hc0 hc1 h16 ((hH.keep fun p hp => HB.out.cell hp).more HB.out.size) hl1 hl2)
  obtain ⟨p0, p1, p2, p3, p4, p5⟩ := run_cells KP.out
  have y0 := (HB.out.cell (p := ⟨gw, 0, none⟩) hg1).trans x0
  have y1 := (HB.out.cell (p := ⟨gl, 0, none⟩) hg2).trans x1
  obtain ⟨res, HR⟩ : ∃ x, Hid (fromB sec b0 H.f = x) := ⟨_, rfl⟩
  rw [HR.out] at C ⊢
  obtain ⟨⟨p, l, d, s, bs, hs1⟩, A1, c1, A2, c2⟩ := H
  unfold fhV at C ⊢
  dsimp only at C p0 p1 p2 p3 p4 p5 hl1 hl2 HV ⊢
  obtain ⟨n1, HN1⟩ : ∃ x, bs.length = x := ⟨_, rfl⟩
  obtain ⟨n2, HN2⟩ : ∃ x, hs1.length = x := ⟨_, rfl⟩
  obtain ⟨n3, HN3⟩ : ∃ x, b0.length = x := ⟨_, rfl⟩
  rw [HN1] at C p4 HV ⊢
  rw [HN2] at C p5 HV ⊢
  rw [HN3] at C y1
  have hsz : w.heap.size ≤ V.heap.size := HB.out.size
  clear hI hc0 hc1 h16 hH hl1 hl2 x0 x1 HN1 HN2 HN3 KP
  go_enter Try.func51, Try.ntmps51
  go_upto_region 1 with fail
  rw [HV.out]
  go_wp2_with fail
  refine C.out.mono ?_
  rintro e w2 ⟨rfl, hb2⟩
  have HB2 : Hid (Below w.heap.size w w2) := HB.out.trans (hb2.mono hsz)
  clear hb2
  go_wp2
  go_ret
  exact ⟨rfl, HB2.out⟩

set_option maxHeartbeats 8000000 in
set_option maxRecDepth 100000 in
theorem feedsV_any (sec bad : Int) (r : WR) (ls : List LinkD) (m n2 : Nat) (w : World) (h : RunAt w w.heap.size r ls) (hm : r.fh.length = m) (hp : 0 < m) :
    Calls Try.prog 28 #[.agg #[.int .i64 sec, .int .i64 bad, .slice r.A1 m r.c1, .slice r.A2 n2 r.c2, .slice r.A3 r.ah.length r.c3, .slice r.A4 r.qh.length r.c4]] w fun e w' => ∃ res, e = .returned (.bool res) ∧ (res = true ↔ FeedsOk sec r.fh) ∧ Below w.heap.size w w' := by
  have hm1 := h.m1
  unfold maxLen at hm1
  rw [hm] at hm1
  have HM := Lib.hid hm
  have HRUN := Lib.hid h
  obtain ⟨V0, HV0⟩ : ∃ W, Hid (w.alloc (.cells #[.int .i64 sec, .int .i64 bad, .slice r.A1 m r.c1, .slice r.A2 n2 r.c2, .slice r.A3 r.ah.length r.c3, .slice r.A4 r.qh.length r.c4] 30) = W) := ⟨_, rfl⟩
  have KA : Hid (Blk V0 w.heap.size 30 #[.int .i64 sec, .int .i64 bad, .slice r.A1 m r.c1, .slice r.A2 n2 r.c2, .slice r.A3 r.ah.length r.c3, .slice r.A4 r.qh.length r.c4]) := by rw [← HV0.out]; exact Blk.new w _ _
  have HB : Hid (Below w.heap.size w V0) := by rw [← HV0.out]; exact (Below.refl _ w).alloc (Nat.le_refl _) _
  have CWL : Hid (∀ U, Below w.heap.size w U → (fhth r.fh 0).f.bs.length ≤ 16 → Calls Try.prog 49 #[.agg #[.int .i64 sec, .int .i64 bad, .slice r.A1 m r.c1, .slice r.A2 n2 r.c2, .slice r.A3 r.ah.length r.c3, .slice r.A4 r.qh.length r.c4]] U (RetSome U (leafL (fhth r.fh 0).f.bs))) := fun U hU h16 => wLeaves_any sec bad r ls m n2 U (h.belowS hU) hm hp h16
  have k2 := (run_cells KA.out).2.2.1
  obtain ⟨b, o, hA1⟩ := h.r1.some_ (by rw [hm]; exact hp)
  have HR1 := Lib.hid (hA1 ▸ h.r1 : RowAt FK w w.heap.size (some ⟨b, o, none⟩) r.fh)
  have hbl : b < w.heap.size := (HR1.out.lt (by rw [hm]; exact hp)).1
  rw [hA1] at k2 KA CWL HV0 ⊢
  have HA1 := Lib.hid hA1
  have CP := Lib.hid (fun U => public_any sec U)
  obtain ⟨pu, HPU⟩ : ∃ x, Hid (publicOr sec = x) := ⟨_, rfl⟩
  rw [HPU.out] at CP
  have hz00 : w.heap.size < V0.heap.size := KA.out.lt
  clear h hm hA1
  go_enter Try.func28, Try.ntmps28
  go_upto_region 1 with fail
  rw [HV0.out]
  go_wp2
  go_loopw [9] (fun i wr => ∃ k : Nat, k ≤ m ∧ i = .int .i64 (k : Int) ∧ Hid (Below V0.heap.size V0 wr) ∧ Hid (∀ j, j < k → okB (fhth r.fh j).f = true ∧ (fhth r.fh j).f.p = publicOr sec)) (fun i _ => m - (intOf i).toNat)
  case atStart => exact ⟨0, Nat.zero_le _, rfl, Below.refl _ _, fun j hj => absurd hj (Nat.not_lt_zero _)⟩
  case round =>
    obtain ⟨k, hk, rfl, HBr, HC⟩ := hrel
    have HBr0 : Hid (Below w.heap.size w wr) := HB.out.trans (HBr.out.mono HB.out.size)
    have KAr : Hid (Blk wr w.heap.size 30 #[.int .i64 sec, .int .i64 bad, .slice (some ⟨b, o, none⟩) m r.c1, .slice r.A2 n2 r.c2, .slice r.A3 r.ah.length r.c3, .slice r.A4 r.qh.length r.c4]) := KA.out.below HBr.out hz00
    have hk0 : (0 : Int) ≤ (k : Int) := by omega
    by_cases hkm : k < m
    · have hkz : k < r.fh.length := by rw [HM.out]; exact hkm
      have hki : (k : Int) < (m : Int) := by omega
      have HRr := Lib.hid (HR1.out.belowS HBr0.out)
      obtain ⟨c0, c1', c2', c3, c4, c5⟩ := feed_cells6 HRr.out k hkz
      have HFr := Lib.hid (HRUN.out.feed k hkz)
      have HNO : Hid (¬ (okB (fhth r.fh k).f = true ∧ (fhth r.fh k).f.p = publicOr sec) → ¬ FeedsOk sec r.fh) := fun x y => x (y.1 k hkz)
      have HS : Hid ((okB (fhth r.fh k).f = true ∧ (fhth r.fh k).f.p = publicOr sec) → ∀ j, j < k + 1 → okB (fhth r.fh j).f = true ∧ (fhth r.fh j).f.p = publicOr sec) := fun e j hj => by
        rcases Nat.lt_or_ge j k with h | h
        · exact HC.out j h
        · have : j = k := by omega
          subst this; exact e
      obtain ⟨X, HX⟩ : ∃ x, Hid (fhth r.fh k = x) := ⟨_, rfl⟩
      rw [HX.out] at c0 c1' c2' c3 c4 c5 HFr HNO HS
      obtain ⟨⟨p, l, d, s, bs, hs1⟩, A1, c1, A2, c2⟩ := X
      dsimp only at c0 c1' c2' c3 c4 c5 HNO HS
      obtain ⟨V, HV⟩ : ∃ U, Hid (wr.alloc (.cells #[.int .i64 p, .int .i64 l, .int .i64 d, .int .i64 s, .slice A1 bs.length c1, .slice A2 hs1.length c2] 39) = U) := ⟨_, rfl⟩
      have KP : Hid (Blk V wr.heap.size 39 #[.int .i64 p, .int .i64 l, .int .i64 d, .int .i64 s, .slice A1 bs.length c1, .slice A2 hs1.length c2]) := by rw [← HV.out]; exact Blk.new _ _ _
      have HBV : Hid (Below w.heap.size w V) := by rw [← HV.out]; exact HBr0.out.alloc HBr0.out.size _
      have HBV0 : Hid (Below V0.heap.size V0 V) := by rw [← HV.out]; exact HBr.out.alloc HBr.out.size _
      have KAv : Hid (Blk V w.heap.size 30 #[.int .i64 sec, .int .i64 bad, .slice (some ⟨b, o, none⟩) m r.c1, .slice r.A2 n2 r.c2, .slice r.A3 r.ah.length r.c3, .slice r.A4 r.qh.length r.c4]) := by rw [← HV.out]; exact KAr.out.alloc _
      have CF : Hid (∀ U, Below V.heap.size V U → Calls Try.prog 47 #[feedV p l d s A1 bs.length c1 A2 hs1.length c2] U fun e w' => e = .returned (.bool (okB ⟨p, l, d, s, bs, hs1⟩)) ∧ Below U.heap.size U w') := fun U hU => feedValid_any p l d s A1 c1 A2 c2 bs hs1 U (HFr.out.feed.belowS (HBV.out.trans (hU.mono HBV.out.size)))
      obtain ⟨n1, HN1⟩ : ∃ x, Hid (bs.length = x) := ⟨_, rfl⟩
      obtain ⟨nh, HNH⟩ : ∃ x, Hid (hs1.length = x) := ⟨_, rfl⟩
      rw [HN1.out] at c4 KP CF HV
      rw [HNH.out] at c5 KP CF HV
      obtain ⟨p0, p1, p2, p3, p4, p5⟩ := run_cells KP.out
      obtain ⟨a0, a1, a2, a3, a4, a5⟩ := run_cells KAv.out
      have hz0 : w.heap.size < V.heap.size := KAv.out.lt
      have hz1 : wr.heap.size < V.heap.size := KP.out.lt
      have hwV : w.heap.size ≤ V.heap.size := by omega
      go_upto_region 4 with fail
      rw [HV.out]
      clear hkz a1 a3 a4 a5
      cases hok : okB ⟨p, l, d, s, bs, hs1⟩ with
      | false =>
        rw [hok] at CF
        have HF : Hid (¬ FeedsOk sec r.fh) := HNO.out (fun x => by rw [hok] at x; exact absurd x.1 (by decide))
        clear hok
        refine wp_region_held_drew (S := (fun w' => w'.cell? ⟨w.heap.size, 0, none⟩ = some (.int .i64 sec) ∧ w'.cell? ⟨w.heap.size, 2, none⟩ = some (.slice (some ⟨b, o, none⟩) m r.c1) ∧ w'.cell? ⟨wr.heap.size, 0, none⟩ = some (.int .i64 p) ∧ w'.cell? ⟨wr.heap.size, 1, none⟩ = some (.int .i64 l) ∧ w'.cell? ⟨wr.heap.size, 2, none⟩ = some (.int .i64 d) ∧ w'.cell? ⟨wr.heap.size, 3, none⟩ = some (.int .i64 s) ∧ w'.cell? ⟨wr.heap.size, 4, none⟩ = some (.slice A1 n1 c1) ∧ w'.cell? ⟨wr.heap.size, 5, none⟩ = some (.slice A2 nh c2))) (by kernel_rfl) (⟨a0, a2, p0, p1, p2, p3, p4, p5⟩) (fun hHeld => ?_)
        refine wpAnyH_take (i := 0) (v := ?zv1) rfl (by kernel_rfl) (by kernel_rfl) (by kernel_rfl) (fun _ _ _ h => h) (Or.inl ⟨by kernel_rfl, ?zy1⟩) (by assumption) ?zr1
        case zy1 => (intro w hSw; (try dsimp only at hSw); go_simp; try with_reducible rfl)
        change wpAnyH _ _ _ _ _ _ _ (Act.put _ (some 13) _) _
        simp only [Act.put, List.setIfInBounds_toArray, List.set_cons_zero, List.set_cons_succ]
        refine wpAnyH_ready (rs := [1]) (by kernel_rfl) (by simp) (AllReadyH.cons rfl (fun K hK => ?_) AllReadyH.nil)
        go_simp
        go_at_call 47
        refine (CF.out _ (below_drew (Below.refl _ _))).mono ?_
        rintro e w2 ⟨rfl, hb2⟩
        have HB2 : Hid (Below V.heap.size V w2) := below_drew_l hb2
        have HB2w : Hid (Below w.heap.size w w2) := HBV.out.trans (HB2.out.mono hwV)
        obtain ⟨m0, m1, m2, m3, m4, m5⟩ := run_cells (KAv.out.below HB2.out hz0)
        obtain ⟨k0, k1, k2, k3, k4, k5⟩ := run_cells (KP.out.below HB2.out hz1)
        clear hb2
        refine hK.out _ _ (⟨m0, m2, k0, k1, k2, k3, k4, k5⟩) (fun hHeld => ?_)
        clear hK K
        (try simp only [Act.put, List.setIfInBounds_toArray, List.set_cons_zero, List.set_cons_succ])
        refine wpAnyH_take (i := 2) (v := ?zv2) rfl (by kernel_rfl) (by kernel_rfl) (by kernel_rfl) (fun _ _ _ h => h) (Or.inl ⟨by kernel_rfl, ?zy2⟩) (by assumption) ?zr2
        case zy2 => (intro w hSw; (try dsimp only at hSw); go_simp; try with_reducible rfl)
        change wpAnyH _ _ _ _ _ _ _ (Act.put _ (some 15) _) _
        simp only [Act.put, List.setIfInBounds_toArray, List.set_cons_zero, List.set_cons_succ]
        refine wpAnyH_take (i := 3) (v := ?zv3) rfl (by kernel_rfl) (by kernel_rfl) (by kernel_rfl) (fun _ _ _ h => h) (Or.inl ⟨by kernel_rfl, ?zy3⟩) (by assumption) ?zr3
        case zy3 => (intro w hSw; (try dsimp only at hSw); go_simp; try with_reducible rfl)
        change wpAnyH _ _ _ _ _ _ _ (Act.put _ (some 16) _) _
        simp only [Act.put, List.setIfInBounds_toArray, List.set_cons_zero, List.set_cons_succ]
        refine wpAnyH_take (i := 4) (v := undef) rfl (by kernel_rfl) (by kernel_rfl) (by kernel_rfl) (fun _ _ _ h => h) (Or.inr ⟨by kernel_rfl, rfl⟩) (by assumption) ?_
        change wpAnyH _ _ _ _ _ _ _ (Act.put _ (some 17) _) _
        simp only [Act.put, List.setIfInBounds_toArray, List.set_cons_zero, List.set_cons_succ]
        refine wpAnyH_take (i := 5) (v := undef) rfl (by kernel_rfl) (by kernel_rfl) (by kernel_rfl) (fun _ _ _ h => h) (Or.inr ⟨by kernel_rfl, rfl⟩) (by assumption) ?_
        change wpAnyH _ _ _ _ _ _ _ (Act.put _ (some 18) _) _
        simp only [Act.put, List.setIfInBounds_toArray, List.set_cons_zero, List.set_cons_succ]
        refine wpAnyH_take (i := 6) (v := undef) rfl (by kernel_rfl) (by kernel_rfl) (by kernel_rfl) (fun _ _ _ h => h) (Or.inr ⟨by kernel_rfl, rfl⟩) (by assumption) ?_
        change wpAnyH _ _ _ _ _ _ _ (Act.put _ (some 19) _) _
        simp only [Act.put, List.setIfInBounds_toArray, List.set_cons_zero, List.set_cons_succ]
        refine wpAnyH_take (i := 7) (v := undef) rfl (by kernel_rfl) (by kernel_rfl) (by kernel_rfl) (fun _ _ _ h => h) (Or.inr ⟨by kernel_rfl, rfl⟩) (by assumption) ?_
        change wpAnyH _ _ _ _ _ _ _ (Act.put _ (some 20) _) _
        simp only [Act.put, List.setIfInBounds_toArray, List.set_cons_zero, List.set_cons_succ]
        refine wpAnyH_take (i := 8) (v := undef) rfl (by kernel_rfl) (by kernel_rfl) (by kernel_rfl) (fun _ _ _ h => h) (Or.inr ⟨by kernel_rfl, rfl⟩) (by assumption) ?_
        change wpAnyH _ _ _ _ _ _ _ (Act.put _ (some 21) _) _
        simp only [Act.put, List.setIfInBounds_toArray, List.set_cons_zero, List.set_cons_succ]
        refine wpAnyH_take (i := 9) (v := undef) rfl (by kernel_rfl) (by kernel_rfl) (by kernel_rfl) (fun _ _ _ h => h) (Or.inr ⟨by kernel_rfl, rfl⟩) (by assumption) ?_
        change wpAnyH _ _ _ _ _ _ _ (Act.put _ (some 22) _) _
        simp only [Act.put, List.setIfInBounds_toArray, List.set_cons_zero, List.set_cons_succ]
        refine wpAnyH_take (i := 10) (v := ?zv4) rfl (by kernel_rfl) (by kernel_rfl) (by kernel_rfl) (fun _ _ _ h => h) (Or.inl ⟨by kernel_rfl, ?zy4⟩) (by assumption) ?zr4
        case zy4 => (intro w hSw; (try dsimp only at hSw); go_simp; try with_reducible rfl)
        change wpAnyH _ _ _ _ _ _ _ (Act.put _ (some 23) _) _
        simp only [Act.put, List.setIfInBounds_toArray, List.set_cons_zero, List.set_cons_succ]
        refine wpAnyH_done (by kernel_rfl) ?_ _
        go_wp2
        go_ret
        exact ⟨false, rfl, ⟨fun x => (by cases x), fun x => absurd x HF.out⟩, HB2w.out⟩
      | true =>
        rw [hok] at CF
        by_cases hpu : p = pu
        · have hpb : (p != pu) = false := by rw [hpu]; simp
          have HS2 := Lib.hid (HS.out ⟨hok, hpu.trans HPU.out.symm⟩)
          clear hok hpu
          refine wp_region_held_drew (S := (fun w' => w'.cell? ⟨w.heap.size, 0, none⟩ = some (.int .i64 sec) ∧ w'.cell? ⟨w.heap.size, 2, none⟩ = some (.slice (some ⟨b, o, none⟩) m r.c1) ∧ w'.cell? ⟨wr.heap.size, 0, none⟩ = some (.int .i64 p) ∧ w'.cell? ⟨wr.heap.size, 1, none⟩ = some (.int .i64 l) ∧ w'.cell? ⟨wr.heap.size, 2, none⟩ = some (.int .i64 d) ∧ w'.cell? ⟨wr.heap.size, 3, none⟩ = some (.int .i64 s) ∧ w'.cell? ⟨wr.heap.size, 4, none⟩ = some (.slice A1 n1 c1) ∧ w'.cell? ⟨wr.heap.size, 5, none⟩ = some (.slice A2 nh c2))) (by kernel_rfl) (⟨a0, a2, p0, p1, p2, p3, p4, p5⟩) (fun hHeld => ?_)
          refine wpAnyH_take (i := 0) (v := ?zv5) rfl (by kernel_rfl) (by kernel_rfl) (by kernel_rfl) (fun _ _ _ h => h) (Or.inl ⟨by kernel_rfl, ?zy5⟩) (by assumption) ?zr5
          case zy5 => (intro w hSw; (try dsimp only at hSw); go_simp; try with_reducible rfl)
          change wpAnyH _ _ _ _ _ _ _ (Act.put _ (some 13) _) _
          simp only [Act.put, List.setIfInBounds_toArray, List.set_cons_zero, List.set_cons_succ]
          refine wpAnyH_ready (rs := [1]) (by kernel_rfl) (by simp) (AllReadyH.cons rfl (fun K hK => ?_) AllReadyH.nil)
          go_simp
          go_at_call 47
          refine (CF.out _ (below_drew (Below.refl _ _))).mono ?_
          rintro e w2 ⟨rfl, hb2⟩
          have HB2 : Hid (Below V.heap.size V w2) := below_drew_l hb2
          have HB2w : Hid (Below w.heap.size w w2) := HBV.out.trans (HB2.out.mono hwV)
          obtain ⟨m0, m1, m2, m3, m4, m5⟩ := run_cells (KAv.out.below HB2.out hz0)
          obtain ⟨k0, k1, k2, k3, k4, k5⟩ := run_cells (KP.out.below HB2.out hz1)
          clear hb2
          refine hK.out _ _ (⟨m0, m2, k0, k1, k2, k3, k4, k5⟩) (fun hHeld => ?_)
          clear hK K
          (try simp only [Act.put, List.setIfInBounds_toArray, List.set_cons_zero, List.set_cons_succ])
          refine wpAnyH_take (i := 2) (v := ?zv6) rfl (by kernel_rfl) (by kernel_rfl) (by kernel_rfl) (fun _ _ _ h => h) (Or.inl ⟨by kernel_rfl, ?zy6⟩) (by assumption) ?zr6
          case zy6 => (intro w hSw; (try dsimp only at hSw); go_simp; try with_reducible rfl)
          change wpAnyH _ _ _ _ _ _ _ (Act.put _ (some 15) _) _
          simp only [Act.put, List.setIfInBounds_toArray, List.set_cons_zero, List.set_cons_succ]
          refine wpAnyH_take (i := 3) (v := ?zv7) rfl (by kernel_rfl) (by kernel_rfl) (by kernel_rfl) (fun _ _ _ h => h) (Or.inl ⟨by kernel_rfl, ?zy7⟩) (by assumption) ?zr7
          case zy7 => (intro w hSw; (try dsimp only at hSw); go_simp; try with_reducible rfl)
          change wpAnyH _ _ _ _ _ _ _ (Act.put _ (some 16) _) _
          simp only [Act.put, List.setIfInBounds_toArray, List.set_cons_zero, List.set_cons_succ]
          refine wpAnyH_take (i := 4) (v := ?zv8) rfl (by kernel_rfl) (by kernel_rfl) (by kernel_rfl) (fun _ _ _ h => h) (Or.inl ⟨by kernel_rfl, ?zy8⟩) (by assumption) ?zr8
          case zy8 => (intro w hSw; (try dsimp only at hSw); go_simp; try with_reducible rfl)
          change wpAnyH _ _ _ _ _ _ _ (Act.put _ (some 17) _) _
          simp only [Act.put, List.setIfInBounds_toArray, List.set_cons_zero, List.set_cons_succ]
          refine wpAnyH_take (i := 5) (v := ?zv9) rfl (by kernel_rfl) (by kernel_rfl) (by kernel_rfl) (fun _ _ _ h => h) (Or.inl ⟨by kernel_rfl, ?zy9⟩) (by assumption) ?zr9
          case zy9 => (intro w hSw; (try dsimp only at hSw); go_simp; try with_reducible rfl)
          change wpAnyH _ _ _ _ _ _ _ (Act.put _ (some 18) _) _
          simp only [Act.put, List.setIfInBounds_toArray, List.set_cons_zero, List.set_cons_succ]
          refine wpAnyH_take (i := 6) (v := ?zv10) rfl (by kernel_rfl) (by kernel_rfl) (by kernel_rfl) (fun _ _ _ h => h) (Or.inl ⟨by kernel_rfl, ?zy10⟩) (by assumption) ?zr10
          case zy10 => (intro w hSw; (try dsimp only at hSw); go_simp; try with_reducible rfl)
          change wpAnyH _ _ _ _ _ _ _ (Act.put _ (some 19) _) _
          simp only [Act.put, List.setIfInBounds_toArray, List.set_cons_zero, List.set_cons_succ]
          refine wpAnyH_take (i := 7) (v := ?zv11) rfl (by kernel_rfl) (by kernel_rfl) (by kernel_rfl) (fun _ _ _ h => h) (Or.inl ⟨by kernel_rfl, ?zy11⟩) (by assumption) ?zr11
          case zy11 => (intro w hSw; (try dsimp only at hSw); go_simp; try with_reducible rfl)
          change wpAnyH _ _ _ _ _ _ _ (Act.put _ (some 20) _) _
          simp only [Act.put, List.setIfInBounds_toArray, List.set_cons_zero, List.set_cons_succ]
          refine wpAnyH_ready (rs := [8]) (by kernel_rfl) (by simp) (AllReadyH.cons rfl (fun K hK => ?_) AllReadyH.nil)
          go_simp
          go_at_call 9
          refine (CP.out _).mono ?_
          rintro e w3 ⟨rfl, hw3⟩
          (first | rw [← hw3] | rw [hw3])
          clear hw3
          refine hK.out _ _ (⟨m0, m2, k0, k1, k2, k3, k4, k5⟩) (fun hHeld => ?_)
          clear hK K
          (try simp only [Act.put, List.setIfInBounds_toArray, List.set_cons_zero, List.set_cons_succ])
          refine wpAnyH_take (i := 9) (v := ?zv12) rfl (by kernel_rfl) (by kernel_rfl) (by kernel_rfl) (fun _ _ _ h => h) (Or.inl ⟨by kernel_rfl, ?zy12⟩) (by assumption) ?zr12
          case zy12 => (intro w hSw; (try dsimp only at hSw); go_simp; try with_reducible rfl)
          change wpAnyH _ _ _ _ _ _ _ (Act.put _ (some 22) _) _
          simp only [Act.put, List.setIfInBounds_toArray, List.set_cons_zero, List.set_cons_succ]
          refine wpAnyH_take (i := 10) (v := ?zv13) rfl (by kernel_rfl) (by kernel_rfl) (by kernel_rfl) (fun _ _ _ h => h) (Or.inl ⟨by kernel_rfl, ?zy13⟩) (by assumption) ?zr13
          case zy13 => (intro w hSw; (try dsimp only at hSw); go_simp; try with_reducible rfl)
          change wpAnyH _ _ _ _ _ _ _ (Act.put _ (some 23) _) _
          simp only [Act.put, List.setIfInBounds_toArray, List.set_cons_zero, List.set_cons_succ]
          refine wpAnyH_done (by kernel_rfl) ?_ _
          go_wp2
          go_roundw
          case rel => exact ⟨k + 1, by omega, by go_num, HBV0.out.trans (HB2.out.mono HBV0.out.size), HS2.out⟩
          case measure => simp [intOf]; omega
        · have hpb : (p != pu) = true := bne_iff_ne.2 hpu
          have HF : Hid (¬ FeedsOk sec r.fh) := HNO.out (fun x => hpu (x.2.trans HPU.out))
          clear hok hpu
          refine wp_region_held_drew (S := (fun w' => w'.cell? ⟨w.heap.size, 0, none⟩ = some (.int .i64 sec) ∧ w'.cell? ⟨w.heap.size, 2, none⟩ = some (.slice (some ⟨b, o, none⟩) m r.c1) ∧ w'.cell? ⟨wr.heap.size, 0, none⟩ = some (.int .i64 p) ∧ w'.cell? ⟨wr.heap.size, 1, none⟩ = some (.int .i64 l) ∧ w'.cell? ⟨wr.heap.size, 2, none⟩ = some (.int .i64 d) ∧ w'.cell? ⟨wr.heap.size, 3, none⟩ = some (.int .i64 s) ∧ w'.cell? ⟨wr.heap.size, 4, none⟩ = some (.slice A1 n1 c1) ∧ w'.cell? ⟨wr.heap.size, 5, none⟩ = some (.slice A2 nh c2))) (by kernel_rfl) (⟨a0, a2, p0, p1, p2, p3, p4, p5⟩) (fun hHeld => ?_)
          refine wpAnyH_take (i := 0) (v := ?zv14) rfl (by kernel_rfl) (by kernel_rfl) (by kernel_rfl) (fun _ _ _ h => h) (Or.inl ⟨by kernel_rfl, ?zy14⟩) (by assumption) ?zr14
          case zy14 => (intro w hSw; (try dsimp only at hSw); go_simp; try with_reducible rfl)
          change wpAnyH _ _ _ _ _ _ _ (Act.put _ (some 13) _) _
          simp only [Act.put, List.setIfInBounds_toArray, List.set_cons_zero, List.set_cons_succ]
          refine wpAnyH_ready (rs := [1]) (by kernel_rfl) (by simp) (AllReadyH.cons rfl (fun K hK => ?_) AllReadyH.nil)
          go_simp
          go_at_call 47
          refine (CF.out _ (below_drew (Below.refl _ _))).mono ?_
          rintro e w2 ⟨rfl, hb2⟩
          have HB2 : Hid (Below V.heap.size V w2) := below_drew_l hb2
          have HB2w : Hid (Below w.heap.size w w2) := HBV.out.trans (HB2.out.mono hwV)
          obtain ⟨m0, m1, m2, m3, m4, m5⟩ := run_cells (KAv.out.below HB2.out hz0)
          obtain ⟨k0, k1, k2, k3, k4, k5⟩ := run_cells (KP.out.below HB2.out hz1)
          clear hb2
          refine hK.out _ _ (⟨m0, m2, k0, k1, k2, k3, k4, k5⟩) (fun hHeld => ?_)
          clear hK K
          (try simp only [Act.put, List.setIfInBounds_toArray, List.set_cons_zero, List.set_cons_succ])
          refine wpAnyH_take (i := 2) (v := ?zv15) rfl (by kernel_rfl) (by kernel_rfl) (by kernel_rfl) (fun _ _ _ h => h) (Or.inl ⟨by kernel_rfl, ?zy15⟩) (by assumption) ?zr15
          case zy15 => (intro w hSw; (try dsimp only at hSw); go_simp; try with_reducible rfl)
          change wpAnyH _ _ _ _ _ _ _ (Act.put _ (some 15) _) _
          simp only [Act.put, List.setIfInBounds_toArray, List.set_cons_zero, List.set_cons_succ]
          refine wpAnyH_take (i := 3) (v := ?zv16) rfl (by kernel_rfl) (by kernel_rfl) (by kernel_rfl) (fun _ _ _ h => h) (Or.inl ⟨by kernel_rfl, ?zy16⟩) (by assumption) ?zr16
          case zy16 => (intro w hSw; (try dsimp only at hSw); go_simp; try with_reducible rfl)
          change wpAnyH _ _ _ _ _ _ _ (Act.put _ (some 16) _) _
          simp only [Act.put, List.setIfInBounds_toArray, List.set_cons_zero, List.set_cons_succ]
          refine wpAnyH_take (i := 4) (v := ?zv17) rfl (by kernel_rfl) (by kernel_rfl) (by kernel_rfl) (fun _ _ _ h => h) (Or.inl ⟨by kernel_rfl, ?zy17⟩) (by assumption) ?zr17
          case zy17 => (intro w hSw; (try dsimp only at hSw); go_simp; try with_reducible rfl)
          change wpAnyH _ _ _ _ _ _ _ (Act.put _ (some 17) _) _
          simp only [Act.put, List.setIfInBounds_toArray, List.set_cons_zero, List.set_cons_succ]
          refine wpAnyH_take (i := 5) (v := ?zv18) rfl (by kernel_rfl) (by kernel_rfl) (by kernel_rfl) (fun _ _ _ h => h) (Or.inl ⟨by kernel_rfl, ?zy18⟩) (by assumption) ?zr18
          case zy18 => (intro w hSw; (try dsimp only at hSw); go_simp; try with_reducible rfl)
          change wpAnyH _ _ _ _ _ _ _ (Act.put _ (some 18) _) _
          simp only [Act.put, List.setIfInBounds_toArray, List.set_cons_zero, List.set_cons_succ]
          refine wpAnyH_take (i := 6) (v := ?zv19) rfl (by kernel_rfl) (by kernel_rfl) (by kernel_rfl) (fun _ _ _ h => h) (Or.inl ⟨by kernel_rfl, ?zy19⟩) (by assumption) ?zr19
          case zy19 => (intro w hSw; (try dsimp only at hSw); go_simp; try with_reducible rfl)
          change wpAnyH _ _ _ _ _ _ _ (Act.put _ (some 19) _) _
          simp only [Act.put, List.setIfInBounds_toArray, List.set_cons_zero, List.set_cons_succ]
          refine wpAnyH_take (i := 7) (v := ?zv20) rfl (by kernel_rfl) (by kernel_rfl) (by kernel_rfl) (fun _ _ _ h => h) (Or.inl ⟨by kernel_rfl, ?zy20⟩) (by assumption) ?zr20
          case zy20 => (intro w hSw; (try dsimp only at hSw); go_simp; try with_reducible rfl)
          change wpAnyH _ _ _ _ _ _ _ (Act.put _ (some 20) _) _
          simp only [Act.put, List.setIfInBounds_toArray, List.set_cons_zero, List.set_cons_succ]
          refine wpAnyH_ready (rs := [8]) (by kernel_rfl) (by simp) (AllReadyH.cons rfl (fun K hK => ?_) AllReadyH.nil)
          go_simp
          go_at_call 9
          refine (CP.out _).mono ?_
          rintro e w3 ⟨rfl, hw3⟩
          (first | rw [← hw3] | rw [hw3])
          clear hw3
          refine hK.out _ _ (⟨m0, m2, k0, k1, k2, k3, k4, k5⟩) (fun hHeld => ?_)
          clear hK K
          (try simp only [Act.put, List.setIfInBounds_toArray, List.set_cons_zero, List.set_cons_succ])
          refine wpAnyH_take (i := 9) (v := ?zv21) rfl (by kernel_rfl) (by kernel_rfl) (by kernel_rfl) (fun _ _ _ h => h) (Or.inl ⟨by kernel_rfl, ?zy21⟩) (by assumption) ?zr21
          case zy21 => (intro w hSw; (try dsimp only at hSw); go_simp; try with_reducible rfl)
          change wpAnyH _ _ _ _ _ _ _ (Act.put _ (some 22) _) _
          simp only [Act.put, List.setIfInBounds_toArray, List.set_cons_zero, List.set_cons_succ]
          refine wpAnyH_take (i := 10) (v := ?zv22) rfl (by kernel_rfl) (by kernel_rfl) (by kernel_rfl) (fun _ _ _ h => h) (Or.inl ⟨by kernel_rfl, ?zy22⟩) (by assumption) ?zr22
          case zy22 => (intro w hSw; (try dsimp only at hSw); go_simp; try with_reducible rfl)
          change wpAnyH _ _ _ _ _ _ _ (Act.put _ (some 23) _) _
          simp only [Act.put, List.setIfInBounds_toArray, List.set_cons_zero, List.set_cons_succ]
          refine wpAnyH_done (by kernel_rfl) ?_ _
          go_wp2
          go_ret
          exact ⟨false, rfl, ⟨fun x => (by cases x), fun x => absurd x HF.out⟩, HB2w.out⟩
    · have hke : k = m := by omega
      subst hke
      have hz : 0 < r.fh.length := by rw [HM.out]; exact hp
      have hki : (0 : Int) < (k : Int) := by omega
      have HOK := Lib.hid (okB_lens (HC.out 0 hp).1)
      have HRr := Lib.hid (HR1.out.belowS HBr0.out)
      have cc := feed_cells6 HRr.out 0 hz
      have c5 := cc.2.2.2.2.2
      rw [show o + 0 * 6 + 5 = o + 5 by omega] at c5
      have HF0 := Lib.hid ((HRUN.out.feed 0 hz))
      have HFr : Hid (FhAt wr wr.heap.size (fhth r.fh 0)) := (HF0.out.keep fun p hp => HBr0.out.cell hp).more HBr0.out.size
      have CC := Lib.hid (contains_any (fhth r.fh 0).a2 (fhth r.fh 0).c2 (fhth r.fh 0).f.hs wr HFr.out.feed.bits HFr.out.feed.lh)
      obtain ⟨nf, HNF⟩ : ∃ x, Hid (noneF (fhth r.fh 0).f.hs = x) := ⟨_, rfl⟩
      rw [HNF.out] at CC
      have CL := Lib.hid (CWL.out wr HBr0.out HOK.out.2.2.1)
      obtain ⟨b0, HB0⟩ : ∃ x, Hid ((fhth r.fh 0).f.bs = x) := ⟨_, rfl⟩
      rw [HB0.out] at CL HOK
      obtain ⟨ax, HAX⟩ : ∃ x, Hid ((fhth r.fh 0).a2 = x) := ⟨_, rfl⟩
      obtain ⟨cx, HCX⟩ : ∃ x, Hid ((fhth r.fh 0).c2 = x) := ⟨_, rfl⟩
      obtain ⟨nx, HNX⟩ : ∃ x, Hid ((fhth r.fh 0).f.hs.length = x) := ⟨_, rfl⟩
      rw [HAX.out, HCX.out, HNX.out] at CC c5
      obtain ⟨a0, a1, a2, a3, a4, a5⟩ := run_cells KAr.out
      have hzr : w.heap.size < wr.heap.size := KAr.out.lt
      clear cc
      go_wp2_with fail
      refine CC.out.mono ?_
      rintro e wx ⟨rfl, rfl⟩
      cases nf with
      | false =>
        have HF : Hid (¬ FeedsOk sec r.fh) := fun x => by have := x.2.1; rw [HNF.out] at this; cases this
        go_wp2
        go_ret
        exact ⟨false, rfl, ⟨fun x => (by cases x), fun x => absurd x HF.out⟩, HBr0.out⟩
      | true =>
        go_wp2_with fail
        refine CL.out.mono ?_
        rintro e w2 ⟨g, c, rfl, ho2, hb2⟩
        have HLL : Hid ((leafL b0).length = b0.length) := leafL_length b0
        have HO2 := Lib.hid ho2
        have HBw2 : Hid (Below w.heap.size w w2) := HBr0.out.trans (hb2.mono HBr0.out.size)
        have KA2 : Hid (Blk w2 w.heap.size 30 #[.int .i64 sec, .int .i64 bad, .slice (some ⟨b, o, none⟩) k r.c1, .slice r.A2 n2 r.c2, .slice r.A3 r.ah.length r.c3, .slice r.A4 r.qh.length r.c4]) := KAr.out.below hb2 hzr
        clear ho2 hb2 a0 a1 a2 a3 a4 a5
        rw [HLL.out]
        obtain ⟨nb, HNB⟩ : ∃ x, Hid (b0.length = x) := ⟨_, rfl⟩
        obtain ⟨V, HV⟩ : ∃ U, Hid (w2.alloc (.cells #[.slice (some ⟨g, 0, none⟩) nb c] 56) = U) := ⟨_, rfl⟩
        have KL : Hid (Blk V w2.heap.size 56 #[.slice (some ⟨g, 0, none⟩) nb c]) := by rw [← HV.out]; exact Blk.new _ _ _
        have KA3 : Hid (Blk V w.heap.size 30 #[.int .i64 sec, .int .i64 bad, .slice (some ⟨b, o, none⟩) k r.c1, .slice r.A2 n2 r.c2, .slice r.A3 r.ah.length r.c3, .slice r.A4 r.qh.length r.c4]) := by rw [← HV.out]; exact KA2.out.alloc _
        have HBV : Hid (Below w.heap.size w V) := by rw [← HV.out]; exact HBw2.out.alloc HBw2.out.size _
        have HO3 : Hid (OwnInts V wr.heap.size (some ⟨g, 0, none⟩) c (leafL b0)) := by rw [← HV.out]; exact HO2.out.alloc _
        have HRV := Lib.hid (HR1.out.belowS HBV.out)
        have hl0 : V.cell? ⟨w2.heap.size, 0, none⟩ = some (.slice (some ⟨g, 0, none⟩) nb c) := KL.out.cell 0
        have HPC : Hid (∀ j, j < r.fh.length → ∀ U, Below V.heap.size V U → Calls Try.prog 51 #[fhV (fhth r.fh j), .pointer (some ⟨w.heap.size, 0, none⟩), .pointer (some ⟨w2.heap.size, 0, none⟩)] U fun e w' => e = .returned (.bool (!fromB sec b0 (fhth r.fh j).f)) ∧ Below U.heap.size U w') := fun j hj U hU => by
          have hj' := okB_lens (HC.out j (by rw [← HM.out]; exact hj)).1
          have hBU : Below w.heap.size w U := HBV.out.trans (hU.mono HBV.out.size)
          have hle := HO3.out.le
          rw [leafL_length] at hle
          refine feedBad_any sec b0 g c w.heap.size w2.heap.size (fhth r.fh j) U (HO3.out.ints.belowS hU) hle.1 hle.2 HOK.out.2.2.1 (((HRUN.out.feed j hj).keep fun p hp => hBU.cell hp).more hBU.size) hj'.1 hj'.2.1 ?_ ?_ ?_ ?_
          · exact (hU.cell (p := ⟨w.heap.size, 0, none⟩) KA3.out.lt).trans (KA3.out.cell 0)
          · rw [HNB.out]; exact (hU.cell (p := ⟨w2.heap.size, 0, none⟩) KL.out.lt).trans hl0
          · exact Nat.lt_of_lt_of_le KA3.out.lt hU.size
          · exact Nat.lt_of_lt_of_le KL.out.lt hU.size
        have CA := Lib.hid (feedAny_any (some ⟨b, o, none⟩) r.c1 r.fh w.heap.size w2.heap.size (fun j => !fromB sec b0 (fhth r.fh j).f) V HRV.out (by rw [HM.out]; unfold maxLen; omega) HPC.out)
        have HALL : Hid ((!anyN r.fh.length (fun j => !fromB sec b0 (fhth r.fh j).f)) = true ↔ FeedsOk sec r.fh) := by
          show _ ↔ _
          rw [anyN_all (Q := fun j => fromB sec b0 (fhth r.fh j).f) (fun j hj => rfl)]
          constructor
          · intro x
            exact ⟨fun j hj => HC.out j (by rw [← HM.out]; exact hj), HNF.out, fun j hj => by rw [HB0.out]; exact x j hj⟩
          · intro x j hj
            have := x.2.2 j hj
            rw [HB0.out] at this
            exact this
        obtain ⟨any, HANY⟩ : ∃ x, Hid (anyN r.fh.length (fun j => !fromB sec b0 (fhth r.fh j).f) = x) := ⟨_, rfl⟩
        rw [HANY.out] at CA HALL
        rw [HM.out] at CA
        obtain ⟨a0, a1, a2, a3, a4, a5⟩ := run_cells KA3.out
        have hmf : ∀ (fn : Fn) (first cap : Array Value) (w : World), (Instr.makeFunc fn first cap).run Try.prog w = .ok (.func fn first cap) w := fun _ _ _ _ => rfl
        rw [HNB.out]
        go_upto_region 10 with fail
        rw [HV.out]
        go_wp2_with fail
        refine CA.out.mono ?_
        rintro e w3 ⟨rfl, hb3⟩
        have HB3 : Hid (Below w.heap.size w w3) := HBV.out.trans (hb3.mono HBV.out.size)
        clear hb3
        go_wp2
        go_ret
        exact ⟨_, rfl, HALL.out, HB3.out⟩
end Go.Proofs.Ytkmebilhbjcfpaa
