/- Contract of WorldValid: it says whether a run is valid. Condition: the run lies in memory. -/
import Derived.Test.YtkmebilhbjcfpaaFeedsV
import Derived.Test.YtkmebilhbjcfpaaNetV
import Derived.Test.YtkmebilhbjcfpaaLinksOk
namespace Go.Proofs.Ytkmebilhbjcfpaa
open Go.RowKit
set_option linter.unusedVariables false

theorem okW_parts (sec bad : Int) (r : WR) (ls : List LinkD) :
    OkW (dataW sec bad r ls) ↔ (newOk sec r.fh.length bad = true ∧ FeedsOk sec r.fh ∧ linksB r.fh.length ls = true ∧ ReqsOk r.fh.length r.ah ∧ NetOk r.fh.length (fhth r.fh 0).f.bs r.qh) := by
  have e0 : (dataW sec bad r ls).fs.length = r.fh.length := hfs_length _
  have f0 : ∀ k, fth (dataW sec bad r ls).fs k = (fhth r.fh k).f := fun k => fth_hfs _ k
  have a0 : ∀ k, wth (dataW sec bad r ls).aq k = (ahth r.ah k).xs := fun k => wth_has _ k
  constructor
  · intro h
    have hn := h.new
    rw [e0] at hn
    have hp : 0 < r.fh.length := by have := ((newOk_iff _ _ _).1 hn).2.1.1; omega
    have h0 := h.ok0
    rw [f0] at h0
    have hl := okB_lens h0
    refine ⟨hn, ⟨fun k hk => ?_, ?_, fun k hk => ?_⟩, ?_, ⟨?_, fun k hk => ?_⟩, ?_, fun k hk => ?_⟩
    · have := h.feeds k (by rw [e0]; exact hk)
      rw [f0] at this
      exact ⟨this.ok, this.key⟩
    · have := h.whole
      rw [f0] at this
      exact this
    · have := h.feeds k (by rw [e0]; exact hk)
      have hb := (feedB_iff _ _).2 this
      rw [f0, f0] at hb
      unfold feedB at hb
      rw [Bool.and_eq_true, Bool.and_eq_true, Bool.and_eq_true, Bool.and_eq_true] at hb
      obtain ⟨_, _, h1, h2, h3⟩ := hb
      unfold fromB
      rw [Bool.and_eq_true, Bool.and_eq_true]
      rw [decide_eq_true_eq] at h1
      exact ⟨decide_eq_true (by omega), h3, h2⟩
    · rw [linksB_iff, ← e0]; exact h.links
    · have := h.aslen
      rw [e0] at this
      exact (has_length r.ah).symm.trans this
    · have := h.wins k (by have := h.aslen; rw [← this]; exact Nat.lt_of_lt_of_eq hk (has_length r.ah).symm)
      rw [a0] at this
      exact this
    · exact Nat.le_trans (Nat.le_of_eq (hps_length r.qh).symm) h.netlen
    · have := h.pieces (qhth r.qh k).p (by show _ ∈ hps r.qh; exact List.mem_map.2 ⟨_, getD_mem (qhth_get _ k hk), rfl⟩)
      have hb := (pieceB_iff _ _).2 this
      rw [e0, f0] at hb
      rw [hl.1]
      exact hb
  · rintro ⟨hn, ⟨hf1, hf2, hf3⟩, hlk, ⟨hq1, hq2⟩, hn1, hn2⟩
    have hp : 0 < r.fh.length := by have := ((newOk_iff _ _ _).1 hn).2.1.1; omega
    have h0 := (hf1 0 hp).1
    have hl := okB_lens h0
    refine ⟨by rw [e0]; exact hn, by rw [f0]; exact h0, by rw [f0]; exact hf2, by rw [e0]; exact (linksB_iff _ _).1 hlk, by rw [e0]; exact (has_length r.ah).trans hq1, Nat.le_trans (Nat.le_of_eq (hps_length r.qh)) hn1, fun k hk => ?_, fun k hk => ?_, fun p hp' => ?_⟩
    · rw [e0] at hk
      rw [← feedB_iff, f0, f0]
      have h3 := hf3 k hk
      unfold fromB at h3
      rw [Bool.and_eq_true, Bool.and_eq_true, decide_eq_true_eq] at h3
      unfold feedB
      rw [Bool.and_eq_true, Bool.and_eq_true, Bool.and_eq_true, Bool.and_eq_true]
      exact ⟨(hf1 k hk).1, decide_eq_true (hf1 k hk).2, decide_eq_true (by omega), h3.2.2, h3.2.1⟩
    · rw [e0] at hk
      rw [a0]
      exact hq2 k (by rw [hq1]; exact hk)
    · obtain ⟨x, hx, rfl⟩ := List.mem_map.1 (show p ∈ r.qh.map QH.p from hp')
      obtain ⟨k, hk, rfl⟩ := List.mem_iff_getElem.1 hx
      have := hn2 k hk
      have e : qhth r.qh k = r.qh[k] := by
        have h1 := qhth_get r.qh k hk
        rw [List.getElem?_eq_getElem hk] at h1
        injection h1 with h1
        exact h1.symm
      rw [e, hl.1] at this
      rw [← pieceB_iff, e0, f0]
      exact this

set_option maxHeartbeats 4000000 in
set_option maxRecDepth 100000 in
theorem worldV_any (sec bad : Int) (r : WR) (ls : List LinkD) (w : World) (h : RunAt w w.heap.size r ls) {n m q : Nat} (hn : ls.length = n) (hm : r.fh.length = m) (hq : r.ah.length = q) :
    Calls Try.prog 10 #[.agg #[.int .i64 sec, .int .i64 bad, .slice r.A1 m r.c1, .slice r.A2 n r.c2, .slice r.A3 q r.c3, .slice r.A4 r.qh.length r.c4]] w fun e w' => ∃ res, e = .returned (.bool res) ∧ (res = true ↔ OkW (dataW sec bad r ls)) ∧ Below w.heap.size w w' := by
  have HALL := Lib.hid (okW_parts sec bad r ls)
  rw [hm] at HALL
  obtain ⟨V0, HV0⟩ : ∃ W, Hid (w.alloc (.cells #[.int .i64 sec, .int .i64 bad, .slice r.A1 m r.c1, .slice r.A2 n r.c2, .slice r.A3 q r.c3, .slice r.A4 r.qh.length r.c4] 30) = W) := ⟨_, rfl⟩
  have KA : Hid (Blk V0 w.heap.size 30 #[.int .i64 sec, .int .i64 bad, .slice r.A1 m r.c1, .slice r.A2 n r.c2, .slice r.A3 q r.c3, .slice r.A4 r.qh.length r.c4]) := by rw [← HV0.out]; exact Blk.new w _ _
  have HB : Hid (Below w.heap.size w V0) := by rw [← HV0.out]; exact (Below.refl _ w).alloc (Nat.le_refl _) _
  have hz0 : w.heap.size < V0.heap.size := KA.out.lt
  have C0 := Lib.hid (fun U => nums_any sec (m : Int) bad U)
  have C1 : Hid (0 < m → ∀ U, Below w.heap.size w U → _) := fun hp U hU => feedsV_any sec bad r ls m n U (h.belowS hU) hm hp
  have C2 : Hid (∀ U, Below w.heap.size w U → _) := fun U hU => links_any sec bad r ls U (h.belowS hU) hn hm
  have C3 : Hid (∀ U, Below w.heap.size w U → _) := fun U hU => reqs_any sec bad r ls m n q U (h.belowS hU) hq
  have C4 : Hid (0 < m → (fhth r.fh 0).f.bs.length ≤ 16 → ∀ U, Below w.heap.size w U → _) := fun hp h16 U hU => netV_any sec bad r ls m n U (h.belowS hU) hm hp h16
  rw [hq] at C1 C2 C4
  have HM := Lib.hid hm
  clear h hn hm hq
  obtain ⟨nk, HNK⟩ : ∃ x, Hid (newOk sec (m : Int) bad = x) := ⟨_, rfl⟩
  rw [HNK.out] at C0 HALL
  obtain ⟨lb, HLB⟩ : ∃ x, Hid (linksB m ls = x) := ⟨_, rfl⟩
  rw [HLB.out] at C2 HALL
  obtain ⟨a0, a1, a2, a3, a4, a5⟩ := run_cells KA.out
  go_enter Try.func10, Try.ntmps10
  go_upto_region 1 with fail
  rw [HV0.out]
  cases nk with
  | false =>
    have HF : Hid (¬ OkW (dataW sec bad r ls)) := fun x => by have := (HALL.out.1 x).1; cases this
    go_wp2_with fail
    refine (C0.out _).mono ?_
    rintro e w2 ⟨rfl, hw2⟩
    rw [hw2]
    clear hw2
    go_wp2
    go_ret
    exact ⟨false, rfl, ⟨fun x => (by cases x), fun x => absurd x HF.out⟩, HB.out⟩
  | true =>
    have hp : 0 < m := by have := ((newOk_iff _ _ _).1 HNK.out).2.1.1; omega
    go_wp2_with fail
    refine (C0.out _).mono ?_
    rintro e w2 ⟨rfl, hw2⟩
    rw [hw2]
    clear hw2
    go_wp2_with fail
    refine (C1.out hp V0 HB.out).mono ?_
    rintro e w2 ⟨b1, rfl, h1, hb2⟩
    have H1 := Lib.hid h1
    have HB2 : Hid (Below w.heap.size w w2) := HB.out.trans (hb2.mono (by omega))
    have KA2 := Lib.hid (KA.out.below hb2 hz0)
    clear h1 hb2 a0 a1 a2 a3 a4 a5
    obtain ⟨a0, a1, a2, a3, a4, a5⟩ := run_cells KA2.out
    have hz2 : w.heap.size < w2.heap.size := KA2.out.lt
    cases b1 with
    | false =>
      have HF : Hid (¬ OkW (dataW sec bad r ls)) := fun x => by have := H1.out.2 (HALL.out.1 x).2.1; cases this
      go_wp2
      go_ret
      exact ⟨false, rfl, ⟨fun x => (by cases x), fun x => absurd x HF.out⟩, HB2.out⟩
    | true =>
      go_wp2_with fail
      refine (C2.out w2 HB2.out).mono ?_
      rintro e w3 ⟨rfl, hb3⟩
      have HB3 : Hid (Below w.heap.size w w3) := HB2.out.trans (hb3.mono (by omega))
      have KA3 := Lib.hid (KA2.out.below hb3 hz2)
      clear hb3 a0 a1 a2 a3 a4 a5
      obtain ⟨a0, a1, a2, a3, a4, a5⟩ := run_cells KA3.out
      have hz3 : w.heap.size < w3.heap.size := KA3.out.lt
      cases lb with
      | false =>
        have HF : Hid (¬ OkW (dataW sec bad r ls)) := fun x => by have := (HALL.out.1 x).2.2.1; cases this
        go_wp2
        go_ret
        exact ⟨false, rfl, ⟨fun x => (by cases x), fun x => absurd x HF.out⟩, HB3.out⟩
      | true =>
        go_wp2_with fail
        refine (C3.out w3 HB3.out).mono ?_
        rintro e w4 ⟨b3, rfl, h3, hb4⟩
        have H3 := Lib.hid h3
        have HB4 : Hid (Below w.heap.size w w4) := HB3.out.trans (hb4.mono (by omega))
        have KA4 := Lib.hid (KA3.out.below hb4 hz3)
        clear h3 hb4 a0 a1 a2 a3 a4 a5
        obtain ⟨a0, a1, a2, a3, a4, a5⟩ := run_cells KA4.out
        have hz4 : w.heap.size < w4.heap.size := KA4.out.lt
        cases b3 with
        | false =>
          have HF : Hid (¬ OkW (dataW sec bad r ls)) := fun x => by have := H3.out.2 (HALL.out.1 x).2.2.2.1; cases this
          go_wp2
          go_ret
          exact ⟨false, rfl, ⟨fun x => (by cases x), fun x => absurd x HF.out⟩, HB4.out⟩
        | true =>
          have h16 : (fhth r.fh 0).f.bs.length ≤ 16 := (okB_lens ((H1.out.1 (by first | rfl | trivial)).1 0 (by rw [HM.out]; exact hp)).1).2.2.1
          have C4a := Lib.hid (C4.out hp h16 w4 HB4.out)
          clear h16
          go_wp2_with fail
          refine C4a.out.mono ?_
          rintro e w5 ⟨b4, rfl, h4, hb5⟩
          have HR : Hid (b4 = true ↔ OkW (dataW sec bad r ls)) := ⟨fun x => HALL.out.2 ⟨(by first | rfl | trivial), H1.out.1 (by first | rfl | trivial), (by first | rfl | trivial), H3.out.1 (by first | rfl | trivial), h4.1 x⟩, fun x => h4.2 (HALL.out.1 x).2.2.2.2⟩
          have HB5 : Hid (Below w.heap.size w w5) := HB4.out.trans (hb5.mono (by omega))
          clear h4 hb5
          go_wp2
          go_ret
          exact ⟨b4, rfl, HR.out, HB5.out⟩
end Go.Proofs.Ytkmebilhbjcfpaa
