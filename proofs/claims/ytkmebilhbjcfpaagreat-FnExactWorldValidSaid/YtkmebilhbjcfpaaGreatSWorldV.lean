/- Contract of the model's WorldValid: it says whether a run is valid. Condition: the run lies in memory. -/
import Derived.Test.YtkmebilhbjcfpaaGreatBaseA
import Derived.Test.YtkmebilhbjcfpaaGreatSWorldNew
import Derived.Test.YtkmebilhbjcfpaaGreatSRunE
import Derived.Test.YtkmebilhbjcfpaaGreatSWinValid
import Derived.Test.YtkmebilhbjcfpaaGreatSFeedWhole
import Derived.Deep.RegionWith
namespace Go.Proofs.YtkmebilhbjcfpaaGreat
open Go.RowKit
set_option linter.unusedVariables false

/-- What the model's WorldValid asks, one after the other. -/
def ValidS (sec bad : Int) (r : WR) (ls : List LinkD) : Prop :=
  newOk sec r.fh.length bad = true ∧ okB (fhth r.fh 0).f = true ∧ noneF (fhth r.fh 0).f.hs = true ∧ linksB r.fh.length ls = true ∧ r.ah.length = r.fh.length ∧ r.qh.length ≤ 12 ∧ (∀ k, k < r.fh.length → feedB sec (fhth r.fh 0).f.l (fhth r.fh 0).f.bs (fhth r.fh k).f = true ∧ winB (ahth r.ah k).xs = true) ∧ ∀ k, k < r.qh.length → pieceB r.fh.length (fhth r.fh 0).f.l (fhth r.fh 0).f.bs (qhth r.qh k).p = true
theorem validS_iff (sec bad : Int) (r : WR) (ls : List LinkD) : OkW (dataW sec bad r ls) ↔ ValidS sec bad r ls := by
  have e0 : (dataW sec bad r ls).fs.length = r.fh.length := hfs_length _
  have f0 : ∀ k, fth (dataW sec bad r ls).fs k = (fhth r.fh k).f := fun k => fth_hfs _ k
  have a0 : ∀ k, wth (dataW sec bad r ls).aq k = (ahth r.ah k).xs := fun k => wth_has _ k
  constructor
  · intro h
    refine ⟨by have := h.new; rwa [e0] at this, by have := h.ok0; rwa [f0] at this, by have := h.whole; rwa [f0] at this, by rw [linksB_iff, ← e0]; exact h.links, (has_length r.ah).symm.trans (by have := h.aslen; rwa [e0] at this), Nat.le_trans (Nat.le_of_eq (hps_length r.qh).symm) h.netlen, fun k hk => ⟨?_, ?_⟩, fun k hk => ?_⟩
    · have := (feedB_iff _ _).2 (h.feeds k (by rw [e0]; exact hk))
      rwa [f0, f0] at this
    · have := h.wins k (by rw [e0]; exact hk)
      rwa [a0] at this
    · have := (pieceB_iff _ _).2 (h.pieces (qhth r.qh k).p (by show _ ∈ hps r.qh; exact List.mem_map.2 ⟨_, getD_mem (qhth_get _ k hk), rfl⟩))
      rwa [e0, f0] at this
  · rintro ⟨h1, h2, h3, h4, h5, h6, h7, h8⟩
    refine ⟨by rw [e0]; exact h1, by rw [f0]; exact h2, by rw [f0]; exact h3, by rw [e0]; exact (linksB_iff _ _).1 h4, by rw [e0]; exact (has_length r.ah).trans h5, Nat.le_trans (Nat.le_of_eq (hps_length r.qh)) h6, fun k hk => ?_, fun k hk => ?_, fun p hp' => ?_⟩
    · rw [e0] at hk
      rw [← feedB_iff, f0, f0]
      exact (h7 k hk).1
    · rw [e0] at hk
      rw [a0]
      exact (h7 k hk).2
    · obtain ⟨x, hx, rfl⟩ := List.mem_map.1 (show p ∈ r.qh.map QH.p from hp')
      obtain ⟨k, hk, rfl⟩ := List.mem_iff_getElem.1 hx
      have e : qhth r.qh k = r.qh[k] := by
        have h1 := qhth_get r.qh k hk
        rw [List.getElem?_eq_getElem hk] at h1
        injection h1 with h1
        exact h1.symm
      rw [← pieceB_iff, e0, f0, ← e]
      exact h8 k hk
theorem okB_lensS {f : FD} (h : okB f = true) : (f.bs.length : Int) = f.l ∧ f.bs.length ≤ 16 ∧ Short f.bs := by
  have h' := (okB_iff f).1 h
  exact ⟨h'.2.2.1.1, h'.len.1, fun k hk => (h'.2.2.2.1 k hk).1⟩

set_option maxHeartbeats 12000000 in
set_option maxRecDepth 100000 in
theorem sworldV_any (sec bad : Int) (r : WR) (ls : List LinkD) (w : World) (h : RunAt w w.heap.size r ls) {n m q p4 : Nat} (hn : ls.length = n) (hm : r.fh.length = m) (hq : r.ah.length = q) (hp4 : r.qh.length = p4) :
    Calls Tryz.prog 6 #[.agg #[.int .i64 sec, .int .i64 bad, .slice r.A1 m r.c1, .slice r.A2 n r.c2, .slice r.A3 q r.c3, .slice r.A4 p4 r.c4]] w fun e w' => ∃ res, e = .returned (.bool res) ∧ (res = true ↔ OkW (dataW sec bad r ls)) ∧ Below w.heap.size w w' := by
  have HALL := Lib.hid (validS_iff sec bad r ls)
  unfold ValidS at HALL
  have hmx1 := h.m1
  have hmx3 := h.m3
  have hmx4 := h.m4
  unfold maxLen at hmx1 hmx3 hmx4
  rw [hm] at HALL hmx1
  rw [hq] at HALL hmx3
  rw [hp4] at HALL hmx4
  have HRUN := Lib.hid h
  have HN := Lib.hid hn
  have HM := Lib.hid hm
  have HQ := Lib.hid hq
  have HP4 := Lib.hid hp4
  clear h hn hm hq hp4
  obtain ⟨nk, HNK⟩ : ∃ x, Hid (newOk sec (m : Int) bad = x) := ⟨_, rfl⟩
  rw [HNK.out] at HALL
  obtain ⟨V0, HV0⟩ : ∃ W, Hid (w.alloc (.cells #[.int .i64 sec, .int .i64 bad, .slice r.A1 m r.c1, .slice r.A2 n r.c2, .slice r.A3 q r.c3, .slice r.A4 p4 r.c4] 35) = W) := ⟨_, rfl⟩
  have KA : Hid (Blk V0 w.heap.size 35 #[.int .i64 sec, .int .i64 bad, .slice r.A1 m r.c1, .slice r.A2 n r.c2, .slice r.A3 q r.c3, .slice r.A4 p4 r.c4]) := by rw [← HV0.out]; exact Blk.new w _ _
  have HB0 : Hid (Below w.heap.size w V0) := by rw [← HV0.out]; exact (Below.refl _ w).alloc (Nat.le_refl _) _
  obtain ⟨a0, a1, a2, a3, a4, a5⟩ := run_cells KA.out
  go_enter Tryz.func6, Tryz.ntmps6
  go_upto_region 1 with fail
  rw [HV0.out]
  cases nk with
  | false =>
    have HF : Hid (¬ OkW (dataW sec bad r ls)) := fun x => by have := (HALL.out.1 x).1; cases this
    go_wp2_with fail
    refine (sworldNew_no sec (m : Int) bad V0 HNK.out).mono ?_
    rintro e w1 ⟨rfl, hb1⟩
    have HB1 : Hid (Below w.heap.size w w1) := HB0.out.trans (hb1.mono HB0.out.size)
    have HBX : Hid (Below w.heap.size w (w1.alloc (.cells #[.int .i64 0, .int .i64 0, .slice none 0 0, .slice none 0 0, .slice none 0 0, .slice none 0 0] 35))) := HB1.out.alloc HB1.out.size _
    clear hb1
    go_wp2
    go_ret
    exact ⟨false, rfl, ⟨fun x => (by cases x), fun x => absurd x HF.out⟩, HBX.out⟩
  | true =>
    have hp : 0 < m := by have := ((newOk_iff _ _ _).1 HNK.out).2.1.1; omega
    obtain ⟨b, o, hA1⟩ := HRUN.out.r1.some_ (by rw [HM.out]; exact hp)
    have HR1 := Lib.hid (hA1 ▸ HRUN.out.r1 : RowAt FK w w.heap.size (some ⟨b, o, none⟩) r.fh)
    have hbl : b < w.heap.size := (HR1.out.lt (by rw [HM.out]; exact hp)).1
    rw [hA1] at KA a2 ⊢
    have HA1 := Lib.hid hA1
    clear hA1
    go_wp2_with fail
    refine (sworldNew_yes sec bad m V0 HNK.out).mono ?_
    rintro e w1 ⟨r', rfl, _, _, hb1⟩
    have HB1 : Hid (Below w.heap.size w w1) := HB0.out.trans (hb1.mono HB0.out.size)
    have KA1 := Lib.hid (KA.out.below hb1 KA.out.lt)
    clear hb1 a0 a1 a2 a3 a4 a5
    obtain ⟨V, HV⟩ : ∃ U, Hid (w1.alloc (.cells #[.int .i64 sec, .int .i64 bad, .slice r'.A1 m r'.c1, .slice r'.A2 0 r'.c2, .slice r'.A3 m r'.c3, .slice r'.A4 0 r'.c4] 35) = U) := ⟨_, rfl⟩
    have KAV : Hid (Blk V w.heap.size 35 #[.int .i64 sec, .int .i64 bad, .slice (some ⟨b, o, none⟩) m r.c1, .slice r.A2 n r.c2, .slice r.A3 q r.c3, .slice r.A4 p4 r.c4]) := by rw [← HV.out]; exact KA1.out.alloc _
    have HBV : Hid (Below w.heap.size w V) := by rw [← HV.out]; exact HB1.out.alloc HB1.out.size _
    clear KA1
    have hzV : w.heap.size < V.heap.size := KAV.out.lt
    have hbV : b < V.heap.size := by omega
    have HF0 := Lib.hid (HRUN.out.feed 0 (by rw [HM.out]; exact hp))
    have HC6 : Hid (∀ U, Below w.heap.size w U → U.cell? ⟨b, o, none⟩ = some (.int .i64 (fhth r.fh 0).f.p) ∧ U.cell? ⟨b, o + 1, none⟩ = some (.int .i64 (fhth r.fh 0).f.l) ∧ U.cell? ⟨b, o + 2, none⟩ = some (.int .i64 (fhth r.fh 0).f.d) ∧ U.cell? ⟨b, o + 3, none⟩ = some (.int .i64 (fhth r.fh 0).f.s) ∧ U.cell? ⟨b, o + 4, none⟩ = some (.slice (fhth r.fh 0).a1 (fhth r.fh 0).f.bs.length (fhth r.fh 0).c1) ∧ U.cell? ⟨b, o + 5, none⟩ = some (.slice (fhth r.fh 0).a2 (fhth r.fh 0).f.hs.length (fhth r.fh 0).c2)) := fun U hU => by
      have c := feed_cells6 (HR1.out.belowS hU) 0 (by rw [HM.out]; exact hp)
      simp only [Nat.zero_mul, Nat.add_zero] at c
      exact c
    have CF0 : Hid (∀ U, Below w.heap.size w U → Calls Tryz.prog 21 #[fhV (fhth r.fh 0)] U fun e w' => e = .returned (.bool (okB (fhth r.fh 0).f)) ∧ Below U.heap.size U w') := fun U hU => sfeedValid_any _ _ _ _ _ _ _ _ _ _ U (HF0.out.feed.belowS hU)
    have CW0 : Hid (∀ U, Below w.heap.size w U → Calls Tryz.prog 22 #[fhV (fhth r.fh 0)] U fun e w' => e = .returned (.bool (noneF (fhth r.fh 0).f.hs)) ∧ Below U.heap.size U w') := fun U hU => swhole_any _ _ _ _ _ _ _ _ _ _ U (HF0.out.feed.bits.belowS hU) HF0.out.feed.lh
    have CL0 : Hid (∀ U, Below w.heap.size w U → Calls Tryz.prog 23 #[.agg #[.int .i64 sec, .int .i64 bad, .slice (some ⟨b, o, none⟩) m r.c1, .slice r.A2 n r.c2, .slice r.A3 q r.c3, .slice r.A4 p4 r.c4]] U fun e w' => e = .returned (.bool (linksB m ls)) ∧ Below U.heap.size U w') := fun U hU => by
      have := slinks_any sec bad r ls U (HRUN.out.belowS hU) HN.out HM.out
      rw [HA1.out, HQ.out, HP4.out] at this
      exact this
    have CSF : Hid (okB (fhth r.fh 0).f = true → ∀ H U, Below w.heap.size w U → FhAt U U.heap.size H → Calls Tryz.prog 24 #[.agg #[.int .i64 sec, .int .i64 bad, .slice (some ⟨b, o, none⟩) m r.c1, .slice r.A2 n r.c2, .slice r.A3 q r.c3, .slice r.A4 p4 r.c4], fhV H] U fun e w' => e = .returned (.bool (feedB sec (fhth r.fh 0).f.l (fhth r.fh 0).f.bs H.f)) ∧ Below U.heap.size U w') := fun hok H U hU hH => by
      have l := okB_lensS hok
      have := sfeedW_any sec bad r ls n H U (HRUN.out.belowS hU) hH HM.out hp l.2.2 l.2.1 l.1
      rw [HA1.out, HQ.out, HP4.out] at this
      exact this
    have CSP : Hid (okB (fhth r.fh 0).f = true → ∀ H U, Below w.heap.size w U → QhAt U U.heap.size H → Calls Tryz.prog 26 #[.agg #[.int .i64 sec, .int .i64 bad, .slice (some ⟨b, o, none⟩) m r.c1, .slice r.A2 n r.c2, .slice r.A3 q r.c3, .slice r.A4 p4 r.c4], qhV H] U fun e w' => e = .returned (.bool (pieceB m (fhth r.fh 0).f.l (fhth r.fh 0).f.bs H.p)) ∧ Below U.heap.size U w') := fun hok H U hU hH => by
      have l := okB_lensS hok
      have := spiece_any sec bad r ls n H U (HRUN.out.belowS hU) hH HM.out hp l.2.2 l.2.1 l.1
      rw [HA1.out, HQ.out, HP4.out] at this
      exact this
    obtain ⟨F0, HF00⟩ : ∃ x, Hid (fhth r.fh 0 = x) := ⟨_, rfl⟩
    rw [HF00.out] at HC6 CF0 CW0 CSF CSP HALL
    obtain ⟨k0, HK0⟩ : ∃ x, Hid (okB F0.f = x) := ⟨_, rfl⟩
    obtain ⟨k1, HK1⟩ : ∃ x, Hid (noneF F0.f.hs = x) := ⟨_, rfl⟩
    obtain ⟨k2, HK2'⟩ : ∃ x, Hid (linksB m ls = x) := ⟨_, rfl⟩
    rw [HK0.out] at CF0 HALL
    rw [HK1.out] at CW0 HALL
    rw [HK2'.out] at CL0 HALL
    rw [HK0.out] at CSF CSP
    obtain ⟨⟨zp, zl, zd, zs, zbs, zhs⟩, z1, zc1, z2, zc2⟩ := F0
    unfold fhV at CF0 CW0
    dsimp only at HC6 CF0 CW0 CSF CSP HALL
    obtain ⟨zn1, HZ1⟩ : ∃ x, Hid (zbs.length = x) := ⟨_, rfl⟩
    obtain ⟨zn2, HZ2⟩ : ∃ x, Hid (zhs.length = x) := ⟨_, rfl⟩
    rw [HZ1.out, HZ2.out] at HC6 CF0 CW0
    have hpi : (0 : Int) < (m : Int) := by omega
    obtain ⟨a0, a1, a2, a3, a4, a5⟩ := run_cells KAV.out
    obtain ⟨z0', z1', z2', z3', z4', z5'⟩ := HC6.out V HBV.out
    go_upto_region 2 with fail
    rw [HV.out]
    go_wp2_with fail
    refine (CF0.out V HBV.out).mono ?_
    rintro e w2 ⟨rfl, hb2⟩
    have HB2 : Hid (Below w.heap.size w w2) := HBV.out.trans (hb2.mono HBV.out.size)
    have KA2 := Lib.hid (KAV.out.below hb2 KAV.out.lt)
    clear hb2 a0 a1 a2 a3 a4 a5 z0' z1' z2' z3' z4' z5'
    obtain ⟨a0, a1, a2, a3, a4, a5⟩ := run_cells KA2.out
    obtain ⟨z0', z1', z2', z3', z4', z5'⟩ := HC6.out w2 HB2.out
    cases k0 with
    | false =>
      have HF : Hid (¬ OkW (dataW sec bad r ls)) := fun x => by have := (HALL.out.1 x).2.1; cases this
      go_wp2
      go_ret
      exact ⟨false, rfl, ⟨fun x => (by cases x), fun x => absurd x HF.out⟩, HB2.out⟩
    | true =>
      go_wp2_with fail
      refine (CW0.out w2 HB2.out).mono ?_
      rintro e w3 ⟨rfl, hb3⟩
      have HB3 : Hid (Below w.heap.size w w3) := HB2.out.trans (hb3.mono HB2.out.size)
      have KA3 := Lib.hid (KA2.out.below hb3 KA2.out.lt)
      clear hb3 a0 a1 a2 a3 a4 a5 z0' z1' z2' z3' z4' z5'
      obtain ⟨a0, a1, a2, a3, a4, a5⟩ := run_cells KA3.out
      cases k1 with
      | false =>
        have HF : Hid (¬ OkW (dataW sec bad r ls)) := fun x => by have := (HALL.out.1 x).2.2.1; cases this
        go_wp2
        go_ret
        exact ⟨false, rfl, ⟨fun x => (by cases x), fun x => absurd x HF.out⟩, HB3.out⟩
      | true =>
        go_wp2_with fail
        refine (CL0.out w3 HB3.out).mono ?_
        rintro e w4 ⟨rfl, hb4⟩
        have HB4 : Hid (Below w.heap.size w w4) := HB3.out.trans (hb4.mono HB3.out.size)
        have KA4 := Lib.hid (KA3.out.below hb4 KA3.out.lt)
        clear hb4 a0 a1 a2 a3 a4 a5
        obtain ⟨a0, a1, a2, a3, a4, a5⟩ := run_cells KA4.out
        cases k2 with
        | false =>
          have HF : Hid (¬ OkW (dataW sec bad r ls)) := fun x => by have := (HALL.out.1 x).2.2.2.1; cases this
          go_wp2
          go_ret
          exact ⟨false, rfl, ⟨fun x => (by cases x), fun x => absurd x HF.out⟩, HB4.out⟩
        | true =>
          by_cases hqm : q = m
          · have hne : ((q : Int) != (m : Int)) = false := by rw [hqm]; simp
            have HQM := Lib.hid hqm
            clear hqm
            by_cases h12 : p4 ≤ 12
            · have h12i : ¬ (12 : Int) < (p4 : Int) := by omega
              have HALL2 : Hid (OkW (dataW sec bad r ls) ↔ ((∀ k, k < m → feedB sec zl zbs (fhth r.fh k).f = true ∧ winB (ahth r.ah k).xs = true) ∧ ∀ k, k < p4 → pieceB m zl zbs (qhth r.qh k).p = true)) := ⟨fun x => (HALL.out.1 x).2.2.2.2.2.2, fun x => HALL.out.2 ⟨by first | rfl | trivial, by first | rfl | trivial, by first | rfl | trivial, by first | rfl | trivial, HQM.out, h12, x.1, x.2⟩⟩
              have CSF2 : Hid (∀ H U, Below w.heap.size w U → FhAt U U.heap.size H → Calls Tryz.prog 24 #[.agg #[.int .i64 sec, .int .i64 bad, .slice (some ⟨b, o, none⟩) m r.c1, .slice r.A2 n r.c2, .slice r.A3 q r.c3, .slice r.A4 p4 r.c4], fhV H] U fun e w' => e = .returned (.bool (feedB sec zl zbs H.f)) ∧ Below U.heap.size U w') := CSF.out (by first | rfl | trivial)
              have CSP2 : Hid (∀ H U, Below w.heap.size w U → QhAt U U.heap.size H → Calls Tryz.prog 26 #[.agg #[.int .i64 sec, .int .i64 bad, .slice (some ⟨b, o, none⟩) m r.c1, .slice r.A2 n r.c2, .slice r.A3 q r.c3, .slice r.A4 p4 r.c4], qhV H] U fun e w' => e = .returned (.bool (pieceB m zl zbs H.p)) ∧ Below U.heap.size U w') := CSP.out (by first | rfl | trivial)
              clear CSF CSP HALL
              have hqi : (q : Int) = (m : Int) := by have := HQM.out; omega
              obtain ⟨V2, HV2⟩ : ∃ U, Hid (w4 = U) := ⟨_, rfl⟩
              rw [HV2.out] at HB4 KA4 a0 a1 a2 a3 a4 a5 ⊢
              clear hqi
              go_wp2
              go_loopw [5] (fun i wr => ∃ k : Nat, k ≤ m ∧ i = .int .i64 (k : Int) ∧ Hid (Below V2.heap.size V2 wr) ∧ Hid (∀ j, j < k → feedB sec zl zbs (fhth r.fh j).f = true ∧ winB (ahth r.ah j).xs = true)) (fun i _ => m - (intOf i).toNat)
              case atStart => exact ⟨0, Nat.zero_le _, rfl, Below.refl _ _, fun j hj => absurd hj (Nat.not_lt_zero _)⟩
              case round =>
                obtain ⟨k, hk, rfl, HBr, HC⟩ := hrel
                have HBr0 : Hid (Below w.heap.size w wr) := HB4.out.trans (HBr.out.mono HB4.out.size)
                have KAr := Lib.hid (KA4.out.below HBr.out KA4.out.lt)
                have hzr : w.heap.size < wr.heap.size := KAr.out.lt
                clear a0 a1 a2 a3 a4 a5
                obtain ⟨a0, a1, a2, a3, a4, a5⟩ := run_cells KAr.out
                have hk0 : (0 : Int) ≤ (k : Int) := by omega
                by_cases hkm : k < m
                · have hki : (k : Int) < (m : Int) := by omega
                  have hkq : (k : Int) < (q : Int) := by have := HQM.out; omega
                  have HRr := Lib.hid (HR1.out.belowS HBr0.out)
                  obtain ⟨c0, c1, c2, c3, c4, c5⟩ := feed_cells6 HRr.out k (by rw [HM.out]; exact hkm)
                  have HR3 := Lib.hid (HRUN.out.r3.belowS HBr0.out)
                  obtain ⟨cb, ob, ea3⟩ := HR3.out.some_ (by rw [HQ.out]; have := HQM.out; omega)
                  have EA3 := Lib.hid ea3
                  have d0 := asks_cell1 (ea3 ▸ HR3.out) k (by rw [HQ.out]; have := HQM.out; omega)
                  have hlc := ((ea3 ▸ HR3.out : RowAt HK2 wr wr.heap.size (some ⟨cb, ob, none⟩) r.ah).lt (by rw [HQ.out]; have := HQM.out; omega)).1
                  have hlb : b < wr.heap.size := by omega
                  rw [ea3] at a4
                  clear ea3
                  have HFk := Lib.hid (HRUN.out.feed k (by rw [HM.out]; exact hkm))
                  have HAk := Lib.hid (HRUN.out.asks k (by rw [HQ.out]; have := HQM.out; omega))
                  have CF : Hid (∀ U, Below wr.heap.size wr U → Calls Tryz.prog 24 #[.agg #[.int .i64 sec, .int .i64 bad, .slice (some ⟨b, o, none⟩) m r.c1, .slice r.A2 n r.c2, .slice r.A3 q r.c3, .slice r.A4 p4 r.c4], fhV (fhth r.fh k)] U fun e w' => e = .returned (.bool (feedB sec zl zbs (fhth r.fh k).f)) ∧ Below U.heap.size U w') := fun U hU => by
                    have hB := HBr0.out.trans (hU.mono HBr0.out.size)
                    exact CSF2.out (fhth r.fh k) U hB ((HFk.out.keep fun p hp => hB.cell hp).more hB.size)
                  have CW : Hid (∀ U, Below wr.heap.size wr U → Calls Tryz.prog 25 #[ahV (ahth r.ah k)] U fun e w' => e = .returned (.bool (winB (ahth r.ah k).xs)) ∧ Below U.heap.size U w') := fun U hU => by
                    have hB := HBr0.out.trans (hU.mono HBr0.out.size)
                    exact swinValid_any _ _ _ U (HAk.out.belowS hB)
                  rw [EA3.out] at CF
                  have HNO : Hid (¬ (feedB sec zl zbs (fhth r.fh k).f = true ∧ winB (ahth r.ah k).xs = true) → ¬ OkW (dataW sec bad r ls)) := fun x y => x ((HALL2.out.1 y).1 k hkm)
                  have HS : Hid ((feedB sec zl zbs (fhth r.fh k).f = true ∧ winB (ahth r.ah k).xs = true) → ∀ j, j < k + 1 → feedB sec zl zbs (fhth r.fh j).f = true ∧ winB (ahth r.ah j).xs = true) := fun e j hj => by
                    rcases Nat.lt_or_ge j k with h | h
                    · exact HC.out j h
                    · have : j = k := by omega
                      subst this; exact e
                  obtain ⟨f1, HF1⟩ : ∃ x, Hid (feedB sec zl zbs (fhth r.fh k).f = x) := ⟨_, rfl⟩
                  obtain ⟨f2, HF2⟩ : ∃ x, Hid (winB (ahth r.ah k).xs = x) := ⟨_, rfl⟩
                  rw [HF1.out] at CF HNO HS
                  rw [HF2.out] at CW HNO HS
                  obtain ⟨X, HX⟩ : ∃ x, Hid (fhth r.fh k = x) := ⟨_, rfl⟩
                  obtain ⟨Y, HY⟩ : ∃ x, Hid (ahth r.ah k = x) := ⟨_, rfl⟩
                  rw [HX.out] at c0 c1 c2 c3 c4 c5 CF
                  rw [HY.out] at d0 CW
                  obtain ⟨⟨xp, xl, xd, xs, xbs, xhs⟩, xa1, xc1, xa2, xc2⟩ := X
                  obtain ⟨ya1, yc1, yxs⟩ := Y
                  unfold fhV at CF
                  unfold ahV at CW
                  dsimp only at c0 c1 c2 c3 c4 c5 d0 CF CW
                  obtain ⟨y1, HY1⟩ : ∃ x, Hid (xbs.length = x) := ⟨_, rfl⟩
                  obtain ⟨y2, HY2⟩ : ∃ x, Hid (xhs.length = x) := ⟨_, rfl⟩
                  obtain ⟨y3, HY3⟩ : ∃ x, Hid (yxs.length = x) := ⟨_, rfl⟩
                  rw [HY1.out] at c4 CF
                  rw [HY2.out] at c5 CF
                  rw [HY3.out] at d0 CW
                  go_upto_region 7 with fail
                  cases f1 with
                  | false =>
                    have HF : Hid (¬ OkW (dataW sec bad r ls)) := HNO.out (fun x => by cases x.1)
                    refine wp_region_held_drew (S := (fun w' => w'.cell? ⟨w.heap.size, 0, none⟩ = some (.int .i64 sec) ∧ w'.cell? ⟨w.heap.size, 1, none⟩ = some (.int .i64 bad) ∧ w'.cell? ⟨w.heap.size, 2, none⟩ = some (.slice (some ⟨b, o, none⟩) m r.c1) ∧ w'.cell? ⟨w.heap.size, 3, none⟩ = some (.slice r.A2 n r.c2) ∧ w'.cell? ⟨w.heap.size, 4, none⟩ = some (.slice (some ⟨cb, ob, none⟩) q r.c3) ∧ w'.cell? ⟨w.heap.size, 5, none⟩ = some (.slice r.A4 p4 r.c4) ∧ w'.cell? ⟨b, o + k * 6, none⟩ = some (.int .i64 xp) ∧ w'.cell? ⟨b, o + k * 6 + 1, none⟩ = some (.int .i64 xl) ∧ w'.cell? ⟨b, o + k * 6 + 2, none⟩ = some (.int .i64 xd) ∧ w'.cell? ⟨b, o + k * 6 + 3, none⟩ = some (.int .i64 xs) ∧ w'.cell? ⟨b, o + k * 6 + 4, none⟩ = some (.slice xa1 y1 xc1) ∧ w'.cell? ⟨b, o + k * 6 + 5, none⟩ = some (.slice xa2 y2 xc2) ∧ w'.cell? ⟨cb, ob + k, none⟩ = some (.slice ya1 y3 yc1))) (by kernel_rfl) (⟨a0, a1, a2, a3, a4, a5, c0, c1, c2, c3, c4, c5, d0⟩) (fun hHeld => ?_)
                    refine wtk 0 ?zv1 63 rfl rfl (by kernel_rfl) (fun _ _ _ h => h) (by kernel_rfl) ?zy1 (by assumption) ?zr1
                    case zy1 => (intro w hSw; (try dsimp only at hSw); go_simp; try with_reducible rfl)
                    simp only [Act.put, aput]
                    refine wtk 1 ?zv2 64 rfl rfl (by kernel_rfl) (fun _ _ _ h => h) (by kernel_rfl) ?zy2 (by assumption) ?zr2
                    case zy2 => (intro w hSw; (try dsimp only at hSw); go_simp; try with_reducible rfl)
                    simp only [Act.put, aput]
                    refine wtk 2 ?zv3 65 rfl rfl (by kernel_rfl) (fun _ _ _ h => h) (by kernel_rfl) ?zy3 (by assumption) ?zr3
                    case zy3 => (intro w hSw; (try dsimp only at hSw); go_simp; try with_reducible rfl)
                    simp only [Act.put, aput]
                    refine wtk 3 ?zv4 66 rfl rfl (by kernel_rfl) (fun _ _ _ h => h) (by kernel_rfl) ?zy4 (by assumption) ?zr4
                    case zy4 => (intro w hSw; (try dsimp only at hSw); go_simp; try with_reducible rfl)
                    simp only [Act.put, aput]
                    refine wtk 4 ?zv5 67 rfl rfl (by kernel_rfl) (fun _ _ _ h => h) (by kernel_rfl) ?zy5 (by assumption) ?zr5
                    case zy5 => (intro w hSw; (try dsimp only at hSw); go_simp; try with_reducible rfl)
                    simp only [Act.put, aput]
                    refine wtk 5 ?zv6 68 rfl rfl (by kernel_rfl) (fun _ _ _ h => h) (by kernel_rfl) ?zy6 (by assumption) ?zr6
                    case zy6 => (intro w hSw; (try dsimp only at hSw); go_simp; try with_reducible rfl)
                    simp only [Act.put, aput]
                    refine wpAnyH_ready (rs := [6]) (by kernel_rfl) (by simp) (AllReadyH.cons rfl (fun K hK => ?_) AllReadyH.nil)
                    go_simp
                    go_at_call 24
                    refine (CF.out _ (below_drew (Below.refl _ _))).mono ?_
                    rintro e w2 ⟨rfl, hb2⟩
                    have HB2 : Hid (Below wr.heap.size wr w2) := below_drew_l hb2
                    have HB2V : Hid (Below V2.heap.size V2 w2) := HBr.out.trans (HB2.out.mono HBr.out.size)
                    have HB2w : Hid (Below w.heap.size w w2) := HBr0.out.trans (HB2.out.mono HBr0.out.size)
                    obtain ⟨m0, m1, m2, m3, m4, m5⟩ := run_cells (KAr.out.below HB2.out hzr)
                    rw [EA3.out] at m4
                    have n0 := (HB2.out.cell (p := ⟨b, o + k * 6, none⟩) hlb).trans c0
                    have n1 := (HB2.out.cell (p := ⟨b, o + k * 6 + 1, none⟩) hlb).trans c1
                    have n2 := (HB2.out.cell (p := ⟨b, o + k * 6 + 2, none⟩) hlb).trans c2
                    have n3 := (HB2.out.cell (p := ⟨b, o + k * 6 + 3, none⟩) hlb).trans c3
                    have n4 := (HB2.out.cell (p := ⟨b, o + k * 6 + 4, none⟩) hlb).trans c4
                    have n5 := (HB2.out.cell (p := ⟨b, o + k * 6 + 5, none⟩) hlb).trans c5
                    have u0 := (HB2.out.cell (p := ⟨cb, ob + k, none⟩) hlc).trans d0
                    clear hb2
                    refine hK.out _ _ (⟨m0, m1, m2, m3, m4, m5, n0, n1, n2, n3, n4, n5, u0⟩) (fun hHeld => ?_)
                    clear hK K
                    (try simp only [Act.put, aput])
                    refine wtk 7 ?zv7 70 rfl rfl (by kernel_rfl) (fun _ _ _ h => h) (by kernel_rfl) ?zy7 (by assumption) ?zr7
                    case zy7 => (intro w hSw; (try dsimp only at hSw); go_simp; try with_reducible rfl)
                    simp only [Act.put, aput]
                    refine wtk 8 ?zv8 71 rfl rfl (by kernel_rfl) (fun _ _ _ h => h) (by kernel_rfl) ?zy8 (by assumption) ?zr8
                    case zy8 => (intro w hSw; (try dsimp only at hSw); go_simp; try with_reducible rfl)
                    simp only [Act.put, aput]
                    refine wtu 9 72 rfl rfl (by kernel_rfl) (fun _ _ _ h => h) (by kernel_rfl) (by assumption) ?_
                    simp only [Act.put, aput]
                    refine wtu 10 73 rfl rfl (by kernel_rfl) (fun _ _ _ h => h) (by kernel_rfl) (by assumption) ?_
                    simp only [Act.put, aput]
                    refine wtu 11 74 rfl rfl (by kernel_rfl) (fun _ _ _ h => h) (by kernel_rfl) (by assumption) ?_
                    simp only [Act.put, aput]
                    refine wtu 12 75 rfl rfl (by kernel_rfl) (fun _ _ _ h => h) (by kernel_rfl) (by assumption) ?_
                    simp only [Act.put, aput]
                    refine wtu 13 76 rfl rfl (by kernel_rfl) (fun _ _ _ h => h) (by kernel_rfl) (by assumption) ?_
                    simp only [Act.put, aput]
                    refine wtu 14 77 rfl rfl (by kernel_rfl) (fun _ _ _ h => h) (by kernel_rfl) (by assumption) ?_
                    simp only [Act.put, aput]
                    refine wtu 15 78 rfl rfl (by kernel_rfl) (fun _ _ _ h => h) (by kernel_rfl) (by assumption) ?_
                    simp only [Act.put, aput]
                    refine wtk 16 ?zv9 79 rfl rfl (by kernel_rfl) (fun _ _ _ h => h) (by kernel_rfl) ?zy9 (by assumption) ?zr9
                    case zy9 => (intro w hSw; (try dsimp only at hSw); go_simp; try with_reducible rfl)
                    simp only [Act.put, aput]
                    refine wpAnyH_done (by kernel_rfl) ?_ _
                    go_wp2
                    go_ret
                    exact ⟨false, rfl, ⟨fun x => (by cases x), fun x => absurd x HF.out⟩, HB2w.out⟩
                  | true =>
                    cases f2 with
                    | false =>
                      have HF : Hid (¬ OkW (dataW sec bad r ls)) := HNO.out (fun x => by cases x.2)
                      refine wp_region_held_drew (S := (fun w' => w'.cell? ⟨w.heap.size, 0, none⟩ = some (.int .i64 sec) ∧ w'.cell? ⟨w.heap.size, 1, none⟩ = some (.int .i64 bad) ∧ w'.cell? ⟨w.heap.size, 2, none⟩ = some (.slice (some ⟨b, o, none⟩) m r.c1) ∧ w'.cell? ⟨w.heap.size, 3, none⟩ = some (.slice r.A2 n r.c2) ∧ w'.cell? ⟨w.heap.size, 4, none⟩ = some (.slice (some ⟨cb, ob, none⟩) q r.c3) ∧ w'.cell? ⟨w.heap.size, 5, none⟩ = some (.slice r.A4 p4 r.c4) ∧ w'.cell? ⟨b, o + k * 6, none⟩ = some (.int .i64 xp) ∧ w'.cell? ⟨b, o + k * 6 + 1, none⟩ = some (.int .i64 xl) ∧ w'.cell? ⟨b, o + k * 6 + 2, none⟩ = some (.int .i64 xd) ∧ w'.cell? ⟨b, o + k * 6 + 3, none⟩ = some (.int .i64 xs) ∧ w'.cell? ⟨b, o + k * 6 + 4, none⟩ = some (.slice xa1 y1 xc1) ∧ w'.cell? ⟨b, o + k * 6 + 5, none⟩ = some (.slice xa2 y2 xc2) ∧ w'.cell? ⟨cb, ob + k, none⟩ = some (.slice ya1 y3 yc1))) (by kernel_rfl) (⟨a0, a1, a2, a3, a4, a5, c0, c1, c2, c3, c4, c5, d0⟩) (fun hHeld => ?_)
                      refine wtk 0 ?zv10 63 rfl rfl (by kernel_rfl) (fun _ _ _ h => h) (by kernel_rfl) ?zy10 (by assumption) ?zr10
                      case zy10 => (intro w hSw; (try dsimp only at hSw); go_simp; try with_reducible rfl)
                      simp only [Act.put, aput]
                      refine wtk 1 ?zv11 64 rfl rfl (by kernel_rfl) (fun _ _ _ h => h) (by kernel_rfl) ?zy11 (by assumption) ?zr11
                      case zy11 => (intro w hSw; (try dsimp only at hSw); go_simp; try with_reducible rfl)
                      simp only [Act.put, aput]
                      refine wtk 2 ?zv12 65 rfl rfl (by kernel_rfl) (fun _ _ _ h => h) (by kernel_rfl) ?zy12 (by assumption) ?zr12
                      case zy12 => (intro w hSw; (try dsimp only at hSw); go_simp; try with_reducible rfl)
                      simp only [Act.put, aput]
                      refine wtk 3 ?zv13 66 rfl rfl (by kernel_rfl) (fun _ _ _ h => h) (by kernel_rfl) ?zy13 (by assumption) ?zr13
                      case zy13 => (intro w hSw; (try dsimp only at hSw); go_simp; try with_reducible rfl)
                      simp only [Act.put, aput]
                      refine wtk 4 ?zv14 67 rfl rfl (by kernel_rfl) (fun _ _ _ h => h) (by kernel_rfl) ?zy14 (by assumption) ?zr14
                      case zy14 => (intro w hSw; (try dsimp only at hSw); go_simp; try with_reducible rfl)
                      simp only [Act.put, aput]
                      refine wtk 5 ?zv15 68 rfl rfl (by kernel_rfl) (fun _ _ _ h => h) (by kernel_rfl) ?zy15 (by assumption) ?zr15
                      case zy15 => (intro w hSw; (try dsimp only at hSw); go_simp; try with_reducible rfl)
                      simp only [Act.put, aput]
                      refine wpAnyH_ready (rs := [6]) (by kernel_rfl) (by simp) (AllReadyH.cons rfl (fun K hK => ?_) AllReadyH.nil)
                      go_simp
                      go_at_call 24
                      refine (CF.out _ (below_drew (Below.refl _ _))).mono ?_
                      rintro e w2 ⟨rfl, hb2⟩
                      have HB2 : Hid (Below wr.heap.size wr w2) := below_drew_l hb2
                      have HB2V : Hid (Below V2.heap.size V2 w2) := HBr.out.trans (HB2.out.mono HBr.out.size)
                      have HB2w : Hid (Below w.heap.size w w2) := HBr0.out.trans (HB2.out.mono HBr0.out.size)
                      obtain ⟨m0, m1, m2, m3, m4, m5⟩ := run_cells (KAr.out.below HB2.out hzr)
                      rw [EA3.out] at m4
                      have n0 := (HB2.out.cell (p := ⟨b, o + k * 6, none⟩) hlb).trans c0
                      have n1 := (HB2.out.cell (p := ⟨b, o + k * 6 + 1, none⟩) hlb).trans c1
                      have n2 := (HB2.out.cell (p := ⟨b, o + k * 6 + 2, none⟩) hlb).trans c2
                      have n3 := (HB2.out.cell (p := ⟨b, o + k * 6 + 3, none⟩) hlb).trans c3
                      have n4 := (HB2.out.cell (p := ⟨b, o + k * 6 + 4, none⟩) hlb).trans c4
                      have n5 := (HB2.out.cell (p := ⟨b, o + k * 6 + 5, none⟩) hlb).trans c5
                      have u0 := (HB2.out.cell (p := ⟨cb, ob + k, none⟩) hlc).trans d0
                      clear hb2
                      refine hK.out _ _ (⟨m0, m1, m2, m3, m4, m5, n0, n1, n2, n3, n4, n5, u0⟩) (fun hHeld => ?_)
                      clear hK K
                      (try simp only [Act.put, aput])
                      refine wtk 7 ?zv16 70 rfl rfl (by kernel_rfl) (fun _ _ _ h => h) (by kernel_rfl) ?zy16 (by assumption) ?zr16
                      case zy16 => (intro w hSw; (try dsimp only at hSw); go_simp; try with_reducible rfl)
                      simp only [Act.put, aput]
                      refine wtk 8 ?zv17 71 rfl rfl (by kernel_rfl) (fun _ _ _ h => h) (by kernel_rfl) ?zy17 (by assumption) ?zr17
                      case zy17 => (intro w hSw; (try dsimp only at hSw); go_simp; try with_reducible rfl)
                      simp only [Act.put, aput]
                      refine wtk 9 ?zv18 72 rfl rfl (by kernel_rfl) (fun _ _ _ h => h) (by kernel_rfl) ?zy18 (by assumption) ?zr18
                      case zy18 => (intro w hSw; (try dsimp only at hSw); go_simp; try with_reducible rfl)
                      simp only [Act.put, aput]
                      refine wtk 10 ?zv19 73 rfl rfl (by kernel_rfl) (fun _ _ _ h => h) (by kernel_rfl) ?zy19 (by assumption) ?zr19
                      case zy19 => (intro w hSw; (try dsimp only at hSw); go_simp; try with_reducible rfl)
                      simp only [Act.put, aput]
                      refine wtk 11 ?zv20 74 rfl rfl (by kernel_rfl) (fun _ _ _ h => h) (by kernel_rfl) ?zy20 (by assumption) ?zr20
                      case zy20 => (intro w hSw; (try dsimp only at hSw); go_simp; try with_reducible rfl)
                      simp only [Act.put, aput]
                      refine wtk 12 ?zv21 75 rfl rfl (by kernel_rfl) (fun _ _ _ h => h) (by kernel_rfl) ?zy21 (by assumption) ?zr21
                      case zy21 => (intro w hSw; (try dsimp only at hSw); go_simp; try with_reducible rfl)
                      simp only [Act.put, aput]
                      refine wtk 13 ?zv22 76 rfl rfl (by kernel_rfl) (fun _ _ _ h => h) (by kernel_rfl) ?zy22 (by assumption) ?zr22
                      case zy22 => (intro w hSw; (try dsimp only at hSw); go_simp; try with_reducible rfl)
                      simp only [Act.put, aput]
                      refine wpAnyH_ready (rs := [14]) (by kernel_rfl) (by simp) (AllReadyH.cons rfl (fun K hK => ?_) AllReadyH.nil)
                      go_simp
                      go_at_call 25
                      refine (CW.out w2 HB2.out).mono ?_
                      rintro e w3 ⟨rfl, hb3⟩
                      have HB3 : Hid (Below wr.heap.size wr w3) := HB2.out.trans (hb3.mono HB2.out.size)
                      have HB3V : Hid (Below V2.heap.size V2 w3) := HBr.out.trans (HB3.out.mono HBr.out.size)
                      have HB3w : Hid (Below w.heap.size w w3) := HBr0.out.trans (HB3.out.mono HBr0.out.size)
                      obtain ⟨i0, i1, i2, i3, i4, i5⟩ := run_cells (KAr.out.below HB3.out hzr)
                      rw [EA3.out] at i4
                      have j0 := (HB3.out.cell (p := ⟨b, o + k * 6, none⟩) hlb).trans c0
                      have j1 := (HB3.out.cell (p := ⟨b, o + k * 6 + 1, none⟩) hlb).trans c1
                      have j2 := (HB3.out.cell (p := ⟨b, o + k * 6 + 2, none⟩) hlb).trans c2
                      have j3 := (HB3.out.cell (p := ⟨b, o + k * 6 + 3, none⟩) hlb).trans c3
                      have j4 := (HB3.out.cell (p := ⟨b, o + k * 6 + 4, none⟩) hlb).trans c4
                      have j5 := (HB3.out.cell (p := ⟨b, o + k * 6 + 5, none⟩) hlb).trans c5
                      have j6 := (HB3.out.cell (p := ⟨cb, ob + k, none⟩) hlc).trans d0
                      clear hb3
                      refine hK.out _ _ (⟨i0, i1, i2, i3, i4, i5, j0, j1, j2, j3, j4, j5, j6⟩) (fun hHeld => ?_)
                      clear hK K
                      (try simp only [Act.put, aput])
                      refine wtk 15 ?zv23 78 rfl rfl (by kernel_rfl) (fun _ _ _ h => h) (by kernel_rfl) ?zy23 (by assumption) ?zr23
                      case zy23 => (intro w hSw; (try dsimp only at hSw); go_simp; try with_reducible rfl)
                      simp only [Act.put, aput]
                      refine wtk 16 ?zv24 79 rfl rfl (by kernel_rfl) (fun _ _ _ h => h) (by kernel_rfl) ?zy24 (by assumption) ?zr24
                      case zy24 => (intro w hSw; (try dsimp only at hSw); go_simp; try with_reducible rfl)
                      simp only [Act.put, aput]
                      refine wpAnyH_done (by kernel_rfl) ?_ _
                      go_wp2
                      go_ret
                      first | exact ⟨false, rfl, ⟨fun x => (by cases x), fun x => absurd x HF.out⟩, HB3w.out⟩ | exact .inl ⟨rfl, HF.out, HB3w.out⟩
                    | true =>
                      have HS2 := Lib.hid (HS.out ⟨by first | rfl | trivial, by first | rfl | trivial⟩)
                      refine wp_region_held_drew (S := (fun w' => w'.cell? ⟨w.heap.size, 0, none⟩ = some (.int .i64 sec) ∧ w'.cell? ⟨w.heap.size, 1, none⟩ = some (.int .i64 bad) ∧ w'.cell? ⟨w.heap.size, 2, none⟩ = some (.slice (some ⟨b, o, none⟩) m r.c1) ∧ w'.cell? ⟨w.heap.size, 3, none⟩ = some (.slice r.A2 n r.c2) ∧ w'.cell? ⟨w.heap.size, 4, none⟩ = some (.slice (some ⟨cb, ob, none⟩) q r.c3) ∧ w'.cell? ⟨w.heap.size, 5, none⟩ = some (.slice r.A4 p4 r.c4) ∧ w'.cell? ⟨b, o + k * 6, none⟩ = some (.int .i64 xp) ∧ w'.cell? ⟨b, o + k * 6 + 1, none⟩ = some (.int .i64 xl) ∧ w'.cell? ⟨b, o + k * 6 + 2, none⟩ = some (.int .i64 xd) ∧ w'.cell? ⟨b, o + k * 6 + 3, none⟩ = some (.int .i64 xs) ∧ w'.cell? ⟨b, o + k * 6 + 4, none⟩ = some (.slice xa1 y1 xc1) ∧ w'.cell? ⟨b, o + k * 6 + 5, none⟩ = some (.slice xa2 y2 xc2) ∧ w'.cell? ⟨cb, ob + k, none⟩ = some (.slice ya1 y3 yc1))) (by kernel_rfl) (⟨a0, a1, a2, a3, a4, a5, c0, c1, c2, c3, c4, c5, d0⟩) (fun hHeld => ?_)
                      refine wtk 0 ?zv25 63 rfl rfl (by kernel_rfl) (fun _ _ _ h => h) (by kernel_rfl) ?zy25 (by assumption) ?zr25
                      case zy25 => (intro w hSw; (try dsimp only at hSw); go_simp; try with_reducible rfl)
                      simp only [Act.put, aput]
                      refine wtk 1 ?zv26 64 rfl rfl (by kernel_rfl) (fun _ _ _ h => h) (by kernel_rfl) ?zy26 (by assumption) ?zr26
                      case zy26 => (intro w hSw; (try dsimp only at hSw); go_simp; try with_reducible rfl)
                      simp only [Act.put, aput]
                      refine wtk 2 ?zv27 65 rfl rfl (by kernel_rfl) (fun _ _ _ h => h) (by kernel_rfl) ?zy27 (by assumption) ?zr27
                      case zy27 => (intro w hSw; (try dsimp only at hSw); go_simp; try with_reducible rfl)
                      simp only [Act.put, aput]
                      refine wtk 3 ?zv28 66 rfl rfl (by kernel_rfl) (fun _ _ _ h => h) (by kernel_rfl) ?zy28 (by assumption) ?zr28
                      case zy28 => (intro w hSw; (try dsimp only at hSw); go_simp; try with_reducible rfl)
                      simp only [Act.put, aput]
                      refine wtk 4 ?zv29 67 rfl rfl (by kernel_rfl) (fun _ _ _ h => h) (by kernel_rfl) ?zy29 (by assumption) ?zr29
                      case zy29 => (intro w hSw; (try dsimp only at hSw); go_simp; try with_reducible rfl)
                      simp only [Act.put, aput]
                      refine wtk 5 ?zv30 68 rfl rfl (by kernel_rfl) (fun _ _ _ h => h) (by kernel_rfl) ?zy30 (by assumption) ?zr30
                      case zy30 => (intro w hSw; (try dsimp only at hSw); go_simp; try with_reducible rfl)
                      simp only [Act.put, aput]
                      refine wpAnyH_ready (rs := [6]) (by kernel_rfl) (by simp) (AllReadyH.cons rfl (fun K hK => ?_) AllReadyH.nil)
                      go_simp
                      go_at_call 24
                      refine (CF.out _ (below_drew (Below.refl _ _))).mono ?_
                      rintro e w2 ⟨rfl, hb2⟩
                      have HB2 : Hid (Below wr.heap.size wr w2) := below_drew_l hb2
                      have HB2V : Hid (Below V2.heap.size V2 w2) := HBr.out.trans (HB2.out.mono HBr.out.size)
                      have HB2w : Hid (Below w.heap.size w w2) := HBr0.out.trans (HB2.out.mono HBr0.out.size)
                      obtain ⟨m0, m1, m2, m3, m4, m5⟩ := run_cells (KAr.out.below HB2.out hzr)
                      rw [EA3.out] at m4
                      have n0 := (HB2.out.cell (p := ⟨b, o + k * 6, none⟩) hlb).trans c0
                      have n1 := (HB2.out.cell (p := ⟨b, o + k * 6 + 1, none⟩) hlb).trans c1
                      have n2 := (HB2.out.cell (p := ⟨b, o + k * 6 + 2, none⟩) hlb).trans c2
                      have n3 := (HB2.out.cell (p := ⟨b, o + k * 6 + 3, none⟩) hlb).trans c3
                      have n4 := (HB2.out.cell (p := ⟨b, o + k * 6 + 4, none⟩) hlb).trans c4
                      have n5 := (HB2.out.cell (p := ⟨b, o + k * 6 + 5, none⟩) hlb).trans c5
                      have u0 := (HB2.out.cell (p := ⟨cb, ob + k, none⟩) hlc).trans d0
                      clear hb2
                      refine hK.out _ _ (⟨m0, m1, m2, m3, m4, m5, n0, n1, n2, n3, n4, n5, u0⟩) (fun hHeld => ?_)
                      clear hK K
                      (try simp only [Act.put, aput])
                      refine wtk 7 ?zv31 70 rfl rfl (by kernel_rfl) (fun _ _ _ h => h) (by kernel_rfl) ?zy31 (by assumption) ?zr31
                      case zy31 => (intro w hSw; (try dsimp only at hSw); go_simp; try with_reducible rfl)
                      simp only [Act.put, aput]
                      refine wtk 8 ?zv32 71 rfl rfl (by kernel_rfl) (fun _ _ _ h => h) (by kernel_rfl) ?zy32 (by assumption) ?zr32
                      case zy32 => (intro w hSw; (try dsimp only at hSw); go_simp; try with_reducible rfl)
                      simp only [Act.put, aput]
                      refine wtk 9 ?zv33 72 rfl rfl (by kernel_rfl) (fun _ _ _ h => h) (by kernel_rfl) ?zy33 (by assumption) ?zr33
                      case zy33 => (intro w hSw; (try dsimp only at hSw); go_simp; try with_reducible rfl)
                      simp only [Act.put, aput]
                      refine wtk 10 ?zv34 73 rfl rfl (by kernel_rfl) (fun _ _ _ h => h) (by kernel_rfl) ?zy34 (by assumption) ?zr34
                      case zy34 => (intro w hSw; (try dsimp only at hSw); go_simp; try with_reducible rfl)
                      simp only [Act.put, aput]
                      refine wtk 11 ?zv35 74 rfl rfl (by kernel_rfl) (fun _ _ _ h => h) (by kernel_rfl) ?zy35 (by assumption) ?zr35
                      case zy35 => (intro w hSw; (try dsimp only at hSw); go_simp; try with_reducible rfl)
                      simp only [Act.put, aput]
                      refine wtk 12 ?zv36 75 rfl rfl (by kernel_rfl) (fun _ _ _ h => h) (by kernel_rfl) ?zy36 (by assumption) ?zr36
                      case zy36 => (intro w hSw; (try dsimp only at hSw); go_simp; try with_reducible rfl)
                      simp only [Act.put, aput]
                      refine wtk 13 ?zv37 76 rfl rfl (by kernel_rfl) (fun _ _ _ h => h) (by kernel_rfl) ?zy37 (by assumption) ?zr37
                      case zy37 => (intro w hSw; (try dsimp only at hSw); go_simp; try with_reducible rfl)
                      simp only [Act.put, aput]
                      refine wpAnyH_ready (rs := [14]) (by kernel_rfl) (by simp) (AllReadyH.cons rfl (fun K hK => ?_) AllReadyH.nil)
                      go_simp
                      go_at_call 25
                      refine (CW.out w2 HB2.out).mono ?_
                      rintro e w3 ⟨rfl, hb3⟩
                      have HB3 : Hid (Below wr.heap.size wr w3) := HB2.out.trans (hb3.mono HB2.out.size)
                      have HB3V : Hid (Below V2.heap.size V2 w3) := HBr.out.trans (HB3.out.mono HBr.out.size)
                      have HB3w : Hid (Below w.heap.size w w3) := HBr0.out.trans (HB3.out.mono HBr0.out.size)
                      obtain ⟨i0, i1, i2, i3, i4, i5⟩ := run_cells (KAr.out.below HB3.out hzr)
                      rw [EA3.out] at i4
                      have j0 := (HB3.out.cell (p := ⟨b, o + k * 6, none⟩) hlb).trans c0
                      have j1 := (HB3.out.cell (p := ⟨b, o + k * 6 + 1, none⟩) hlb).trans c1
                      have j2 := (HB3.out.cell (p := ⟨b, o + k * 6 + 2, none⟩) hlb).trans c2
                      have j3 := (HB3.out.cell (p := ⟨b, o + k * 6 + 3, none⟩) hlb).trans c3
                      have j4 := (HB3.out.cell (p := ⟨b, o + k * 6 + 4, none⟩) hlb).trans c4
                      have j5 := (HB3.out.cell (p := ⟨b, o + k * 6 + 5, none⟩) hlb).trans c5
                      have j6 := (HB3.out.cell (p := ⟨cb, ob + k, none⟩) hlc).trans d0
                      clear hb3
                      refine hK.out _ _ (⟨i0, i1, i2, i3, i4, i5, j0, j1, j2, j3, j4, j5, j6⟩) (fun hHeld => ?_)
                      clear hK K
                      (try simp only [Act.put, aput])
                      refine wtk 15 ?zv38 78 rfl rfl (by kernel_rfl) (fun _ _ _ h => h) (by kernel_rfl) ?zy38 (by assumption) ?zr38
                      case zy38 => (intro w hSw; (try dsimp only at hSw); go_simp; try with_reducible rfl)
                      simp only [Act.put, aput]
                      refine wtk 16 ?zv39 79 rfl rfl (by kernel_rfl) (fun _ _ _ h => h) (by kernel_rfl) ?zy39 (by assumption) ?zr39
                      case zy39 => (intro w hSw; (try dsimp only at hSw); go_simp; try with_reducible rfl)
                      simp only [Act.put, aput]
                      refine wpAnyH_done (by kernel_rfl) ?_ _
                      go_wp2
                      go_roundw
                      case rel => exact ⟨k + 1, by omega, by go_num, HB3V.out, HS2.out⟩
                      case measure => simp [intOf]; omega
                · have hke : k = m := by omega
                  subst hke
                  have HC1 := Lib.hid HC.out
                  obtain ⟨V3, HV3⟩ : ∃ U, Hid (wr = U) := ⟨_, rfl⟩
                  rw [HV3.out] at HBr0 KAr hzr a0 a1 a2 a3 a4 a5 ⊢
                  clear HC HBr hk
                  go_wp2
                  go_loopw [6] (fun i wr => ∃ j : Nat, j ≤ p4 ∧ i = .int .i64 (j : Int) ∧ Hid (Below V3.heap.size V3 wr) ∧ Hid (∀ i, i < j → pieceB k zl zbs (qhth r.qh i).p = true)) (fun i _ => p4 - (intOf i).toNat)
                  case atStart => exact ⟨0, Nat.zero_le _, rfl, Below.refl _ _, fun j hj => absurd hj (Nat.not_lt_zero _)⟩
                  case round =>
                    obtain ⟨k', hk', rfl, HBr', HC'⟩ := hrel
                    have HBr : Hid (Below V3.heap.size V3 wr) := HBr'
                    have V := V3
                    clear V
                    have HBr0' : Hid (Below w.heap.size w wr) := HBr0.out.trans (HBr.out.mono HBr0.out.size)
                    have KAr' := Lib.hid (KAr.out.below HBr.out KAr.out.lt)
                    clear a0 a1 a2 a3 a4 a5 KAr hzr
                    have KAr := KAr'
                    have hzr : w.heap.size < wr.heap.size := KAr.out.lt
                    clear KAr' HBr0
                    have HBr0 := HBr0'
                    obtain ⟨a0, a1, a2, a3, a4, a5⟩ := run_cells KAr.out
                    have hk0 : (0 : Int) ≤ (k' : Int) := by omega
                    by_cases hkm : k' < p4
                    · have hki : (k' : Int) < (p4 : Int) := by omega
                      have HR4 := Lib.hid (HRUN.out.r4.belowS HBr0.out)
                      obtain ⟨cb, ob, ea4⟩ := HR4.out.some_ (by rw [HP4.out]; omega)
                      have EA4 := Lib.hid ea4
                      obtain ⟨c0, c1, c2, c3, c4, c5⟩ := piece_cells6 (ea4 ▸ HR4.out) k' (by rw [HP4.out]; exact hkm)
                      have hlb := ((ea4 ▸ HR4.out : RowAt QK wr wr.heap.size (some ⟨cb, ob, none⟩) r.qh).lt (by rw [HP4.out]; omega)).1
                      rw [ea4] at a5
                      clear ea4
                      have HQk := Lib.hid (HRUN.out.piece k' (by rw [HP4.out]; exact hkm))
                      have CP : Hid (∀ U, Below wr.heap.size wr U → Calls Tryz.prog 26 #[.agg #[.int .i64 sec, .int .i64 bad, .slice (some ⟨b, o, none⟩) k r.c1, .slice r.A2 n r.c2, .slice r.A3 q r.c3, .slice r.A4 p4 r.c4], qhV (qhth r.qh k')] U fun e w' => e = .returned (.bool (pieceB k zl zbs (qhth r.qh k').p)) ∧ Below U.heap.size U w') := fun U hU => by
                        have hB := HBr0.out.trans (hU.mono HBr0.out.size)
                        exact CSP2.out (qhth r.qh k') U hB ((HQk.out.keep fun p hp => hB.cell hp).more hB.size)
                      rw [EA4.out] at CP
                      have HNO : Hid (¬ (pieceB k zl zbs (qhth r.qh k').p = true) → ¬ OkW (dataW sec bad r ls)) := fun x y => x ((HALL2.out.1 y).2 k' hkm)
                      have HS : Hid (pieceB k zl zbs (qhth r.qh k').p = true → ∀ j, j < k' + 1 → pieceB k zl zbs (qhth r.qh j).p = true) := fun e j hj => by
                        rcases Nat.lt_or_ge j k' with h | h
                        · exact HC'.out j h
                        · have : j = k' := by omega
                          subst this; exact e
                      obtain ⟨f1, HF1⟩ : ∃ x, Hid (pieceB k zl zbs (qhth r.qh k').p = x) := ⟨_, rfl⟩
                      rw [HF1.out] at CP HNO HS
                      obtain ⟨X, HX⟩ : ∃ x, Hid (qhth r.qh k' = x) := ⟨_, rfl⟩
                      rw [HX.out] at c0 c1 c2 c3 c4 c5 CP
                      obtain ⟨⟨xf, xt, xl, xi, xtx, xpf⟩, xa, xc⟩ := X
                      unfold qhV at CP
                      dsimp only at c0 c1 c2 c3 c4 c5 CP
                      obtain ⟨y1, HY1⟩ : ∃ x, Hid (xpf.length = x) := ⟨_, rfl⟩
                      rw [HY1.out] at c5 CP
                      go_upto_region 12 with fail
                      cases f1 with
                      | false =>
                        have HF : Hid (¬ OkW (dataW sec bad r ls)) := HNO.out (fun x => by cases x)
                        refine wp_region_held_drew (S := (fun w' => w'.cell? ⟨w.heap.size, 0, none⟩ = some (.int .i64 sec) ∧ w'.cell? ⟨w.heap.size, 1, none⟩ = some (.int .i64 bad) ∧ w'.cell? ⟨w.heap.size, 2, none⟩ = some (.slice (some ⟨b, o, none⟩) k r.c1) ∧ w'.cell? ⟨w.heap.size, 3, none⟩ = some (.slice r.A2 n r.c2) ∧ w'.cell? ⟨w.heap.size, 4, none⟩ = some (.slice r.A3 q r.c3) ∧ w'.cell? ⟨w.heap.size, 5, none⟩ = some (.slice (some ⟨cb, ob, none⟩) p4 r.c4) ∧ w'.cell? ⟨cb, ob + k' * 6, none⟩ = some (.int .i64 xf) ∧ w'.cell? ⟨cb, ob + k' * 6 + 1, none⟩ = some (.int .i64 xt) ∧ w'.cell? ⟨cb, ob + k' * 6 + 2, none⟩ = some (.int .i64 xl) ∧ w'.cell? ⟨cb, ob + k' * 6 + 3, none⟩ = some (.int .i64 xi) ∧ w'.cell? ⟨cb, ob + k' * 6 + 4, none⟩ = some (.string xtx) ∧ w'.cell? ⟨cb, ob + k' * 6 + 5, none⟩ = some (.slice xa y1 xc))) (by kernel_rfl) (⟨a0, a1, a2, a3, a4, a5, c0, c1, c2, c3, c4, c5⟩) (fun hHeld => ?_)
                        refine wtk 0 ?zv40 87 rfl rfl (by kernel_rfl) (fun _ _ _ h => h) (by kernel_rfl) ?zy40 (by assumption) ?zr40
                        case zy40 => (intro w hSw; (try dsimp only at hSw); go_simp; try with_reducible rfl)
                        simp only [Act.put, aput]
                        refine wtk 1 ?zv41 88 rfl rfl (by kernel_rfl) (fun _ _ _ h => h) (by kernel_rfl) ?zy41 (by assumption) ?zr41
                        case zy41 => (intro w hSw; (try dsimp only at hSw); go_simp; try with_reducible rfl)
                        simp only [Act.put, aput]
                        refine wtk 2 ?zv42 89 rfl rfl (by kernel_rfl) (fun _ _ _ h => h) (by kernel_rfl) ?zy42 (by assumption) ?zr42
                        case zy42 => (intro w hSw; (try dsimp only at hSw); go_simp; try with_reducible rfl)
                        simp only [Act.put, aput]
                        refine wtk 3 ?zv43 90 rfl rfl (by kernel_rfl) (fun _ _ _ h => h) (by kernel_rfl) ?zy43 (by assumption) ?zr43
                        case zy43 => (intro w hSw; (try dsimp only at hSw); go_simp; try with_reducible rfl)
                        simp only [Act.put, aput]
                        refine wtk 4 ?zv44 91 rfl rfl (by kernel_rfl) (fun _ _ _ h => h) (by kernel_rfl) ?zy44 (by assumption) ?zr44
                        case zy44 => (intro w hSw; (try dsimp only at hSw); go_simp; try with_reducible rfl)
                        simp only [Act.put, aput]
                        refine wtk 5 ?zv45 92 rfl rfl (by kernel_rfl) (fun _ _ _ h => h) (by kernel_rfl) ?zy45 (by assumption) ?zr45
                        case zy45 => (intro w hSw; (try dsimp only at hSw); go_simp; try with_reducible rfl)
                        simp only [Act.put, aput]
                        refine wpAnyH_ready (rs := [6]) (by kernel_rfl) (by simp) (AllReadyH.cons rfl (fun K hK => ?_) AllReadyH.nil)
                        go_simp
                        go_at_call 26
                        refine (CP.out _ (below_drew (Below.refl _ _))).mono ?_
                        rintro e w2 ⟨rfl, hb2⟩
                        have HB2 : Hid (Below wr.heap.size wr w2) := below_drew_l hb2
                        have HB2V : Hid (Below V3.heap.size V3 w2) := HBr.out.trans (HB2.out.mono HBr.out.size)
                        have HB2w : Hid (Below w.heap.size w w2) := HBr0.out.trans (HB2.out.mono HBr0.out.size)
                        obtain ⟨m0, m1, m2, m3, m4, m5⟩ := run_cells (KAr.out.below HB2.out hzr)
                        rw [EA4.out] at m5
                        have n0 := (HB2.out.cell (p := ⟨cb, ob + k' * 6, none⟩) hlb).trans c0
                        have n1 := (HB2.out.cell (p := ⟨cb, ob + k' * 6 + 1, none⟩) hlb).trans c1
                        have n2 := (HB2.out.cell (p := ⟨cb, ob + k' * 6 + 2, none⟩) hlb).trans c2
                        have n3 := (HB2.out.cell (p := ⟨cb, ob + k' * 6 + 3, none⟩) hlb).trans c3
                        have n4 := (HB2.out.cell (p := ⟨cb, ob + k' * 6 + 4, none⟩) hlb).trans c4
                        have n5 := (HB2.out.cell (p := ⟨cb, ob + k' * 6 + 5, none⟩) hlb).trans c5
                        clear hb2
                        refine hK.out _ _ (⟨m0, m1, m2, m3, m4, m5, n0, n1, n2, n3, n4, n5⟩) (fun hHeld => ?_)
                        clear hK K
                        (try simp only [Act.put, aput])
                        refine wtk 7 ?zv46 94 rfl rfl (by kernel_rfl) (fun _ _ _ h => h) (by kernel_rfl) ?zy46 (by assumption) ?zr46
                        case zy46 => (intro w hSw; (try dsimp only at hSw); go_simp; try with_reducible rfl)
                        simp only [Act.put, aput]
                        refine wpAnyH_done (by kernel_rfl) ?_ _
                        go_wp2
                        go_ret
                        exact ⟨false, rfl, ⟨fun x => (by cases x), fun x => absurd x HF.out⟩, HB2w.out⟩
                      | true =>
                        have HS2 := Lib.hid (HS.out (by first | rfl | trivial))
                        refine wp_region_held_drew (S := (fun w' => w'.cell? ⟨w.heap.size, 0, none⟩ = some (.int .i64 sec) ∧ w'.cell? ⟨w.heap.size, 1, none⟩ = some (.int .i64 bad) ∧ w'.cell? ⟨w.heap.size, 2, none⟩ = some (.slice (some ⟨b, o, none⟩) k r.c1) ∧ w'.cell? ⟨w.heap.size, 3, none⟩ = some (.slice r.A2 n r.c2) ∧ w'.cell? ⟨w.heap.size, 4, none⟩ = some (.slice r.A3 q r.c3) ∧ w'.cell? ⟨w.heap.size, 5, none⟩ = some (.slice (some ⟨cb, ob, none⟩) p4 r.c4) ∧ w'.cell? ⟨cb, ob + k' * 6, none⟩ = some (.int .i64 xf) ∧ w'.cell? ⟨cb, ob + k' * 6 + 1, none⟩ = some (.int .i64 xt) ∧ w'.cell? ⟨cb, ob + k' * 6 + 2, none⟩ = some (.int .i64 xl) ∧ w'.cell? ⟨cb, ob + k' * 6 + 3, none⟩ = some (.int .i64 xi) ∧ w'.cell? ⟨cb, ob + k' * 6 + 4, none⟩ = some (.string xtx) ∧ w'.cell? ⟨cb, ob + k' * 6 + 5, none⟩ = some (.slice xa y1 xc))) (by kernel_rfl) (⟨a0, a1, a2, a3, a4, a5, c0, c1, c2, c3, c4, c5⟩) (fun hHeld => ?_)
                        refine wtk 0 ?zv47 87 rfl rfl (by kernel_rfl) (fun _ _ _ h => h) (by kernel_rfl) ?zy47 (by assumption) ?zr47
                        case zy47 => (intro w hSw; (try dsimp only at hSw); go_simp; try with_reducible rfl)
                        simp only [Act.put, aput]
                        refine wtk 1 ?zv48 88 rfl rfl (by kernel_rfl) (fun _ _ _ h => h) (by kernel_rfl) ?zy48 (by assumption) ?zr48
                        case zy48 => (intro w hSw; (try dsimp only at hSw); go_simp; try with_reducible rfl)
                        simp only [Act.put, aput]
                        refine wtk 2 ?zv49 89 rfl rfl (by kernel_rfl) (fun _ _ _ h => h) (by kernel_rfl) ?zy49 (by assumption) ?zr49
                        case zy49 => (intro w hSw; (try dsimp only at hSw); go_simp; try with_reducible rfl)
                        simp only [Act.put, aput]
                        refine wtk 3 ?zv50 90 rfl rfl (by kernel_rfl) (fun _ _ _ h => h) (by kernel_rfl) ?zy50 (by assumption) ?zr50
                        case zy50 => (intro w hSw; (try dsimp only at hSw); go_simp; try with_reducible rfl)
                        simp only [Act.put, aput]
                        refine wtk 4 ?zv51 91 rfl rfl (by kernel_rfl) (fun _ _ _ h => h) (by kernel_rfl) ?zy51 (by assumption) ?zr51
                        case zy51 => (intro w hSw; (try dsimp only at hSw); go_simp; try with_reducible rfl)
                        simp only [Act.put, aput]
                        refine wtk 5 ?zv52 92 rfl rfl (by kernel_rfl) (fun _ _ _ h => h) (by kernel_rfl) ?zy52 (by assumption) ?zr52
                        case zy52 => (intro w hSw; (try dsimp only at hSw); go_simp; try with_reducible rfl)
                        simp only [Act.put, aput]
                        refine wpAnyH_ready (rs := [6]) (by kernel_rfl) (by simp) (AllReadyH.cons rfl (fun K hK => ?_) AllReadyH.nil)
                        go_simp
                        go_at_call 26
                        refine (CP.out _ (below_drew (Below.refl _ _))).mono ?_
                        rintro e w2 ⟨rfl, hb2⟩
                        have HB2 : Hid (Below wr.heap.size wr w2) := below_drew_l hb2
                        have HB2V : Hid (Below V3.heap.size V3 w2) := HBr.out.trans (HB2.out.mono HBr.out.size)
                        have HB2w : Hid (Below w.heap.size w w2) := HBr0.out.trans (HB2.out.mono HBr0.out.size)
                        obtain ⟨m0, m1, m2, m3, m4, m5⟩ := run_cells (KAr.out.below HB2.out hzr)
                        rw [EA4.out] at m5
                        have n0 := (HB2.out.cell (p := ⟨cb, ob + k' * 6, none⟩) hlb).trans c0
                        have n1 := (HB2.out.cell (p := ⟨cb, ob + k' * 6 + 1, none⟩) hlb).trans c1
                        have n2 := (HB2.out.cell (p := ⟨cb, ob + k' * 6 + 2, none⟩) hlb).trans c2
                        have n3 := (HB2.out.cell (p := ⟨cb, ob + k' * 6 + 3, none⟩) hlb).trans c3
                        have n4 := (HB2.out.cell (p := ⟨cb, ob + k' * 6 + 4, none⟩) hlb).trans c4
                        have n5 := (HB2.out.cell (p := ⟨cb, ob + k' * 6 + 5, none⟩) hlb).trans c5
                        clear hb2
                        refine hK.out _ _ (⟨m0, m1, m2, m3, m4, m5, n0, n1, n2, n3, n4, n5⟩) (fun hHeld => ?_)
                        clear hK K
                        (try simp only [Act.put, aput])
                        refine wtk 7 ?zv53 94 rfl rfl (by kernel_rfl) (fun _ _ _ h => h) (by kernel_rfl) ?zy53 (by assumption) ?zr53
                        case zy53 => (intro w hSw; (try dsimp only at hSw); go_simp; try with_reducible rfl)
                        simp only [Act.put, aput]
                        refine wpAnyH_done (by kernel_rfl) ?_ _
                        go_wp2
                        go_roundw
                        case rel => exact ⟨k' + 1, by omega, by go_num, HB2V.out, HS2.out⟩
                        case measure => simp [intOf]; omega
                    · have hke : k' = p4 := by omega
                      subst hke
                      have HOK : Hid (OkW (dataW sec bad r ls)) := HALL2.out.2 ⟨HC1.out, HC'.out⟩
                      go_wp2
                      go_ret
                      exact ⟨true, rfl, ⟨fun _ => HOK.out, fun _ => rfl⟩, HBr0.out⟩
            · have h12i : (12 : Int) < (p4 : Int) := by omega
              have HF : Hid (¬ OkW (dataW sec bad r ls)) := fun x => h12 (HALL.out.1 x).2.2.2.2.2.1
              clear h12
              go_wp2
              go_ret
              exact ⟨false, rfl, ⟨fun x => (by cases x), fun x => absurd x HF.out⟩, HB4.out⟩
          · have hne : ((q : Int) != (m : Int)) = true := by simp; omega
            have HF : Hid (¬ OkW (dataW sec bad r ls)) := fun x => hqm (HALL.out.1 x).2.2.2.2.1
            clear hqm
            go_wp2
            go_ret
            exact ⟨false, rfl, ⟨fun x => (by cases x), fun x => absurd x HF.out⟩, HB4.out⟩
end Go.Proofs.YtkmebilhbjcfpaaGreat
