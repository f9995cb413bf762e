/- The walk of FnHeadCodes: it returns true and changes nothing that was there. Conditions: the codes' bytes lie in memory; the globals hold four different errors. -/
import Derived.Test.YtlpdoieiiadhhaaDoorHeadOut
namespace Go.Proofs.YtlpdoieiiadhhaaDoor
open Go.RowKit
set_option linter.unusedVariables false

set_option maxHeartbeats 8000000 in
set_option maxRecDepth 100000 in
theorem walkHeadCodes {a0 a1 a2 a3 : Addr} (A : Option Addr) (len cap : Nat) (w : World) (hI : In w A len cap) (hE : Errs w a0 a1 a2 a3) :
    Calls Tryd.prog 5 #[.slice A len cap] w fun e w' => e = .returned (.bool true) ∧ Below w.heap.size w w' := by
  have hm := hI.len_le
  unfold maxLen at hm
  have HI := Lib.hid hI
  have HE := Lib.hid hE
  clear hI hE
  by_cases hlen : len ≤ 1048576
  · go_enter Tryd.func5, Tryd.ntmps5
    go_wp2_with fail
    refine (drawFeedHead_any A len cap _ HI.out).mono ?_
    rintro e w1 ⟨p, l, d, s, A1, c1, A2, c2, bs, hs, hl, hd, ht, G, cg, zs, rfl, ho, hog, hlb, hlh, hb1⟩
    have HB1 := Lib.hid hb1
    have HE1 : Hid (Errs w1 a0 a1 a2 a3) := HE.out.below hb1
    have HF := Lib.hid ho.at_
    have HNC := Lib.hid (own_nil_cap ho)
    have HG : Hid (GrowthAt w1 G cg zs) := ⟨hog.ints, hog.le.1, hog.le.2⟩
    have HLB := Lib.hid hlb
    have HLH := Lib.hid hlh
    clear ho hog hb1 hlb hlh
    obtain ⟨C, HC⟩ : ∃ C, Hid (codeZ ⟨p, l, d, s, bs, hs⟩ hl hd ht zs = C) := ⟨_, rfl⟩
    obtain ⟨op, ol, od, os, obs, ohs, HO⟩ : ∃ op ol od os obs ohs, Hid (headF ⟨p, l, d, s, bs, hs⟩ hl hd ht zs = ⟨op, ol, od, os, obs, ohs⟩) := ⟨_, _, _, _, _, _, rfl⟩
    obtain ⟨nb, HNB⟩ : ∃ n, Hid (bs.length = n) := ⟨_, rfl⟩
    obtain ⟨nh, HNH⟩ : ∃ n, Hid (hs.length = n) := ⟨_, rfl⟩
    obtain ⟨ng, HNG⟩ : ∃ n, Hid (zs.length = n) := ⟨_, rfl⟩
    obtain ⟨mb, HMB⟩ : ∃ n, Hid (obs.length = n) := ⟨_, rfl⟩
    obtain ⟨mh, HMH⟩ : ∃ n, Hid (ohs.length = n) := ⟨_, rfl⟩
    rw [HNB.out, HNH.out, HNG.out]
    obtain ⟨V, HV⟩ : ∃ V, Hid ((w1.alloc (.cells (feedC p l d s A1 nb c1 A2 nh c2) 28)).alloc (.cells #[.int .i64 hl, .int .i64 hd, .int .i64 ht] 24) = V) := ⟨_, rfl⟩
    have KF : Hid (Blk V w1.heap.size 28 (feedC p l d s A1 nb c1 A2 nh c2)) := by rw [← HV.out]; exact (Blk.new w1 _ _).alloc _
    have KH : Hid (Blk V (w1.heap.size + 1) 24 #[.int .i64 hl, .int .i64 hd, .int .i64 ht]) := by
      rw [← HV.out]
      have h := Blk.new (w1.alloc (.cells (feedC p l d s A1 nb c1 A2 nh c2) 28)) 24 #[.int .i64 hl, .int .i64 hd, .int .i64 ht]
      rw [World.size_alloc] at h
      exact h
    have HBV : Hid (Below w1.heap.size w1 V) := by rw [← HV.out]; exact ((Below.refl _ w1).alloc (Nat.le_refl _) _).alloc (by simp) _
    go_wp2_with fail
    rw [HV.out]
    refine (feedHead_n p l d s A1 c1 A2 c2 bs hs hl hd ht G cg zs V (HE1.out.below HBV.out) (HG.out.below HBV.out) (HF.out.belowS HBV.out) HNB.out HNH.out HNG.out HO.out HMB.out HMH.out HC.out).mono ?_
    rintro e w2 ⟨A3, c3, A4, c4, rfl, ho2, hb2⟩
    have HO2 := Lib.hid ho2
    have KF2 := Lib.hid (KF.out.below hb2 KF.out.lt)
    have KH2 := Lib.hid (KH.out.below hb2 KH.out.lt)
    have HB2 : Hid (Below w1.heap.size w1 w2) := HBV.out.trans (hb2.mono HBV.out.size)
    have hz12 : w1.heap.size + 1 < w2.heap.size := KH2.out.lt
    have hz12a : w1.heap.size < w2.heap.size := KF2.out.lt
    clear ho2 hb2
    obtain ⟨U2, HU2⟩ : ∃ U, Hid (w2.alloc (.cells (feedC op ol od os A3 mb c3 A4 mh c4) 28) = U) := ⟨_, rfl⟩
    have KFU := Lib.hid (KF2.out.alloc (.cells (feedC op ol od os A3 mb c3 A4 mh c4) 28))
    have KHU := Lib.hid (KH2.out.alloc (.cells (feedC op ol od os A3 mb c3 A4 mh c4) 28))
    have KOU := Lib.hid (Blk.new w2 28 (feedC op ol od os A3 mb c3 A4 mh c4))
    have HOU := Lib.hid (HO2.out.alloc (.cells (feedC op ol od os A3 mb c3 A4 mh c4) 28))
    have HBU : Hid (Below w1.heap.size w1 (w2.alloc (.cells (feedC op ol od os A3 mb c3 A4 mh c4) 28))) := HB2.out.alloc HB2.out.size _
    rw [HU2.out] at KFU KHU KOU HBU HOU
    obtain ⟨f0, f1, f2, f3, f4, f5⟩ := feed_cells KF2.out
    obtain ⟨h0, h1, h2⟩ := head_cells KH2.out
    go_wp2_with fail
    rw [HU2.out]
    refine (sfeedHead_n p l d s A1 c1 A2 c2 bs hs hl hd ht G cg zs U2 (HG.out.below HBU.out) (HF.out.belowS HBU.out) HNC.out.1 HNC.out.2 HNB.out HNH.out HNG.out HO.out HMB.out HMH.out HC.out).mono ?_
    rintro e w3 ⟨A5, c5, A6, c6, rfl, ho3, hb3⟩
    have HO3 := Lib.hid ho3
    have HO23 := Lib.hid (HOU.out.below hb3)
    have KF3 := Lib.hid (KFU.out.below hb3 KFU.out.lt)
    have KH3 := Lib.hid (KHU.out.below hb3 KHU.out.lt)
    have KO3 := Lib.hid (KOU.out.below hb3 KOU.out.lt)
    have HB3 : Hid (Below w1.heap.size w1 w3) := HBU.out.trans (hb3.mono HBU.out.size)
    have HB3w : Hid (Below w.heap.size w w3) := HB1.out.trans (HB3.out.mono HB1.out.size)
    have hz23 : w2.heap.size < w3.heap.size := KO3.out.lt
    have hz13 : w1.heap.size + 1 < w3.heap.size := KH3.out.lt
    have hz13a : w1.heap.size < w3.heap.size := KF3.out.lt
    clear ho3 hb3 f0 f1 f2 f3 f4 f5 h0 h1 h2
    obtain ⟨U3, HU3⟩ : ∃ U, Hid (w3.alloc (.cells (feedC op ol od os A5 mb c5 A6 mh c6) 28) = U) := ⟨_, rfl⟩
    have JF := Lib.hid (KF3.out.alloc (.cells (feedC op ol od os A5 mb c5 A6 mh c6) 28))
    have JH := Lib.hid (KH3.out.alloc (.cells (feedC op ol od os A5 mb c5 A6 mh c6) 28))
    have JO := Lib.hid (KO3.out.alloc (.cells (feedC op ol od os A5 mb c5 A6 mh c6) 28))
    have JW := Lib.hid (Blk.new w3 28 (feedC op ol od os A5 mb c5 A6 mh c6))
    have OO := Lib.hid (HO23.out.alloc (.cells (feedC op ol od os A5 mb c5 A6 mh c6) 28))
    have OW := Lib.hid (HO3.out.alloc (.cells (feedC op ol od os A5 mb c5 A6 mh c6) 28))
    have HBT : Hid (Below w1.heap.size w1 (w3.alloc (.cells (feedC op ol od os A5 mb c5 A6 mh c6) 28))) := HB3.out.alloc HB3.out.size _
    rw [HU3.out] at JF JH JO JW HBT OO OW
    obtain ⟨f0, f1, f2, f3, f4, f5⟩ := feed_cells KF3.out
    obtain ⟨h0, h1, h2⟩ := head_cells KH3.out
    obtain ⟨o0, o1, o2, o3, o4, o5⟩ := feed_cells KO3.out
    have hne : (C != C) = false := by simp
    have heq : (C == C) = true := by simp
    go_wp2_with fail
    rw [HU3.out]
    refine (sameFeed_n op ol od os A3 c3 A4 c4 A5 c5 A6 c6 obs ohs U3 OO.out.at_ OW.out.at_ HMB.out HMH.out).mono ?_
    rintro e w4 ⟨rfl, hb4⟩
    have LF4 := Lib.hid (JF.out.below hb4 JF.out.lt)
    have LH4 := Lib.hid (JH.out.below hb4 JH.out.lt)
    have LO4 := Lib.hid (JO.out.below hb4 JO.out.lt)
    have LW4 := Lib.hid (JW.out.below hb4 JW.out.lt)
    have PO4 := Lib.hid (OO.out.below hb4)
    have PW4 := Lib.hid (OW.out.below hb4)
    have HB4 : Hid (Below w1.heap.size w1 w4) := HBT.out.trans (hb4.mono HBT.out.size)
    clear hb4 f0 f1 f2 f3 f4 f5 h0 h1 h2 o0 o1 o2 o3 o4 o5
    obtain ⟨f0, f1, f2, f3, f4, f5⟩ := feed_cells LF4.out
    obtain ⟨h0, h1, h2⟩ := head_cells LH4.out
    obtain ⟨o0, o1, o2, o3, o4, o5⟩ := feed_cells LO4.out
    obtain ⟨q0, q1, q2, q3, q4, q5⟩ := feed_cells LW4.out
    by_cases hC : C = 5
    · have hC1 := eqb hC
      go_wp2_with fail
      refine (sameFeed_n op ol od os A3 c3 A4 c4 A5 c5 A6 c6 obs ohs w4 PO4.out.at_ PW4.out.at_ HMB.out HMH.out).mono ?_
      rintro e w5 ⟨rfl, hb5⟩
      go_wp2
      go_ret
      exact ⟨rfl, HB1.out.trans ((HB4.out.trans (hb5.mono HB4.out.size)).mono HB1.out.size)⟩
    · have hC1 := neb' hC
      go_wp2_with fail
      refine (scheck_any p hl hd ht _).mono ?_
      rintro e w5 ⟨rfl, hb5⟩
      have LF5 := Lib.hid (LF4.out.below hb5 LF4.out.lt)
      have LH5 := Lib.hid (LH4.out.below hb5 LH4.out.lt)
      have LO5 := Lib.hid (LO4.out.below hb5 LO4.out.lt)
      have LW5 := Lib.hid (LW4.out.below hb5 LW4.out.lt)
      have PO5 := Lib.hid (PO4.out.below hb5)
      have PW5 := Lib.hid (PW4.out.below hb5)
      have HB5 : Hid (Below w1.heap.size w1 w5) := HB4.out.trans (hb5.mono HB4.out.size)
      clear hb5 f0 f1 f2 f3 f4 f5 h0 h1 h2 o0 o1 o2 o3 o4 o5 q0 q1 q2 q3 q4 q5
      obtain ⟨f0, f1, f2, f3, f4, f5⟩ := feed_cells LF5.out
      obtain ⟨h0, h1, h2⟩ := head_cells LH5.out
      obtain ⟨o0, o1, o2, o3, o4, o5⟩ := feed_cells LO5.out
      obtain ⟨q0, q1, q2, q3, q4, q5⟩ := feed_cells LW5.out
      cases hu : signedB p hl hd ht with
      | false =>
        go_wp2_with fail
        refine (sameFeed_n op ol od os A3 c3 A4 c4 A5 c5 A6 c6 obs ohs w5 PO5.out.at_ PW5.out.at_ HMB.out HMH.out).mono ?_
        rintro e w6 ⟨rfl, hb6⟩
        go_wp2
        go_ret
        exact ⟨rfl, HB1.out.trans ((HB5.out.trans (hb6.mono HB5.out.size)).mono HB1.out.size)⟩
      | true =>
        by_cases hZ : hl = 0
        · have hZ1 := eqb hZ
          go_wp2_with fail
          refine (sameFeed_n op ol od os A3 c3 A4 c4 A5 c5 A6 c6 obs ohs w5 PO5.out.at_ PW5.out.at_ HMB.out HMH.out).mono ?_
          rintro e w6 ⟨rfl, hb6⟩
          go_wp2
          go_ret
          exact ⟨rfl, HB1.out.trans ((HB5.out.trans (hb6.mono HB5.out.size)).mono HB1.out.size)⟩
        · have hZ1 := neb' hZ
          have hcs := code_compare HC.out hC hu hZ
          rcases hcs with ⟨e1, e2, e3, hCk⟩ | ⟨hlt, hCk⟩ | ⟨e1, hne, hCk⟩ | ⟨hlt, hCk⟩ | ⟨hlt, hCk⟩
          · have b1 := eqb e1
            have b2 := eqb e2
            have b3 := eqb e3
            have b4 := eqb hCk
            have HOF : Hid ((⟨op, ol, od, os, obs, ohs⟩ : FD) = ⟨p, l, d, s, bs, hs⟩) := by
              show _ = _
              rw [← HO.out]
              exact headF_1 (HC.out.trans hCk)
            go_wp2_with fail
            refine (sameFeed_eq op ol od os A3 c3 A4 c4 p l d s A1 c1 A2 c2 w5 HOF.out PO5.out.at_ (HF.out.belowS HB5.out) HMB.out HMH.out HNB.out HNH.out).mono ?_
            rintro e w6 ⟨rfl, hb6⟩
            go_wp2
            go_ret
            exact ⟨rfl, HB1.out.trans ((HB5.out.trans (hb6.mono HB5.out.size)).mono HB1.out.size)⟩
          · have b1 := neb' (Int.ne_of_lt hlt)
            have b4 := eqb hCk
            have HOF : Hid ((⟨op, ol, od, os, obs, ohs⟩ : FD) = ⟨p, l, d, s, bs, hs⟩) := by
              show _ = _
              rw [← HO.out]
              exact headF_2 (HC.out.trans hCk)
            go_wp2_with fail
            refine (sameFeed_eq op ol od os A3 c3 A4 c4 p l d s A1 c1 A2 c2 w5 HOF.out PO5.out.at_ (HF.out.belowS HB5.out) HMB.out HMH.out HNB.out HNH.out).mono ?_
            rintro e w6 ⟨rfl, hb6⟩
            go_wp2
            go_ret
            exact ⟨rfl, HB1.out.trans ((HB5.out.trans (hb6.mono HB5.out.size)).mono HB1.out.size)⟩
          · have b1 := eqb e1
            have b4 := eqb hCk
            have bz : ¬ hl < l := by omega
            have HOF : Hid ((⟨op, ol, od, os, obs, ohs⟩ : FD) = ⟨p, l, d, s, bs, hs⟩) := by
              show _ = _
              rw [← HO.out]
              exact headF_3 (HC.out.trans hCk)
            by_cases hq : hd = d
            · have b2 := eqb hq
              have b3 : (ht == s) = false := neb' fun k => hne ⟨hq, k⟩
              go_wp2_with fail
              refine (sameFeed_eq op ol od os A3 c3 A4 c4 p l d s A1 c1 A2 c2 w5 HOF.out PO5.out.at_ (HF.out.belowS HB5.out) HMB.out HMH.out HNB.out HNH.out).mono ?_
              rintro e w6 ⟨rfl, hb6⟩
              go_wp2
              go_ret
              exact ⟨rfl, HB1.out.trans ((HB5.out.trans (hb6.mono HB5.out.size)).mono HB1.out.size)⟩
            · have b2 := neb' hq
              go_wp2_with fail
              refine (sameFeed_eq op ol od os A3 c3 A4 c4 p l d s A1 c1 A2 c2 w5 HOF.out PO5.out.at_ (HF.out.belowS HB5.out) HMB.out HMH.out HNB.out HNH.out).mono ?_
              rintro e w6 ⟨rfl, hb6⟩
              go_wp2
              go_ret
              exact ⟨rfl, HB1.out.trans ((HB5.out.trans (hb6.mono HB5.out.size)).mono HB1.out.size)⟩
          · have b1 : (hl == l) = false := neb' (by omega)
            have b2 : ¬ hl < l := by omega
            have b4 := eqb hCk
            have b5 : (C == 0) = false := neb' (by omega)
            have HOF : Hid ((⟨op, ol, od, os, obs, ohs⟩ : FD) = ⟨p, l, d, s, bs, hs⟩) := by
              show _ = _
              rw [← HO.out]
              exact headF_4 (HC.out.trans hCk)
            go_wp2_with fail
            refine (sameFeed_eq op ol od os A3 c3 A4 c4 p l d s A1 c1 A2 c2 w5 HOF.out PO5.out.at_ (HF.out.belowS HB5.out) HMB.out HMH.out HNB.out HNH.out).mono ?_
            rintro e w6 ⟨rfl, hb6⟩
            go_wp2
            go_ret
            exact ⟨rfl, HB1.out.trans ((HB5.out.trans (hb6.mono HB5.out.size)).mono HB1.out.size)⟩
          · have b1 : (hl == l) = false := neb' (by omega)
            have b2 : ¬ hl < l := by omega
            have b4 := eqb hCk
            go_wp2
            go_ret
            exact ⟨rfl, HB1.out.trans (HB5.out.mono HB1.out.size)⟩
  · have h9 : 1048576 < len := by omega
    clear hlen
    go_enter Tryd.func5, Tryd.ntmps5
    go_wp2
    go_ret
    exact ⟨rfl, Below.refl _ _⟩

end Go.Proofs.YtlpdoieiiadhhaaDoor
