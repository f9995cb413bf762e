/- The walk of FnHeadDone: it returns true and changes nothing that was there. Conditions: the codes' bytes lie in memory; the globals hold four different errors. -/
import Derived.Test.YtlpdoieiiadhhaaDoorHeadOut
import Derived.Test.YtlpdoieiiadhhaaDoorBaseD
import Derived.Test.YtlpdoieiiadhhaaDoorFeedValid
namespace Go.Proofs.YtlpdoieiiadhhaaDoor
open Go.RowKit
set_option linter.unusedVariables false

set_option maxHeartbeats 8000000 in
set_option maxRecDepth 100000 in
theorem walkHeadDone {a0 a1 a2 a3 : Addr} (A : Option Addr) (len cap : Nat) (w : World) (hI : In w A len cap) (hE : Errs w a0 a1 a2 a3) :
    Calls Tryd.prog 3 #[.slice A len cap] w fun e w' => e = .returned (.bool true) ∧ Below w.heap.size w w' := by
  have hm := hI.len_le
  unfold maxLen at hm
  have HI := Lib.hid hI
  have HE := Lib.hid hE
  clear hI hE
  by_cases hlen : len ≤ 1048576
  · go_enter Tryd.func3, Tryd.ntmps3
    go_wp2_with fail
    refine (drawFeedHead_any A len cap _ HI.out).mono ?_
    rintro e w1 ⟨p, l, d, s, A1, c1, A2, c2, bs, hs, hl, hd, ht, G, cg, zs, rfl, ho, hog, hlb, hlh, hb1⟩
    have HB1 := Lib.hid hb1
    have HE1 : Hid (Errs w1 a0 a1 a2 a3) := HE.out.below hb1
    have HF := Lib.hid ho.at_
    have HNC := Lib.hid (own_nil_cap ho)
    have HG : Hid (GrowthAt w1 G cg zs) := ⟨hog.ints, hog.le.1, hog.le.2⟩
    have HLB := Lib.hid hlb
    have HLH := Lib.hid hlh
    clear ho hog hb1 hlb hlh
    obtain ⟨C, HC⟩ : ∃ C, Hid (codeZ ⟨p, l, d, s, bs, hs⟩ hl hd ht zs = C) := ⟨_, rfl⟩
    obtain ⟨op, ol, od, os, obs, ohs, HO⟩ : ∃ op ol od os obs ohs, Hid (headF ⟨p, l, d, s, bs, hs⟩ hl hd ht zs = ⟨op, ol, od, os, obs, ohs⟩) := ⟨_, _, _, _, _, _, rfl⟩
    obtain ⟨nb, HNB⟩ : ∃ n, Hid (bs.length = n) := ⟨_, rfl⟩
    obtain ⟨nh, HNH⟩ : ∃ n, Hid (hs.length = n) := ⟨_, rfl⟩
    obtain ⟨ng, HNG⟩ : ∃ n, Hid (zs.length = n) := ⟨_, rfl⟩
    obtain ⟨mb, HMB⟩ : ∃ n, Hid (obs.length = n) := ⟨_, rfl⟩
    obtain ⟨mh, HMH⟩ : ∃ n, Hid (ohs.length = n) := ⟨_, rfl⟩
    rw [HNB.out, HNH.out, HNG.out]
    obtain ⟨V, HV⟩ : ∃ V, Hid ((w1.alloc (.cells (feedC p l d s A1 nb c1 A2 nh c2) 28)).alloc (.cells #[.int .i64 hl, .int .i64 hd, .int .i64 ht] 24) = V) := ⟨_, rfl⟩
    have KF : Hid (Blk V w1.heap.size 28 (feedC p l d s A1 nb c1 A2 nh c2)) := by rw [← HV.out]; exact (Blk.new w1 _ _).alloc _
    have KH : Hid (Blk V (w1.heap.size + 1) 24 #[.int .i64 hl, .int .i64 hd, .int .i64 ht]) := by
      rw [← HV.out]
      have h := Blk.new (w1.alloc (.cells (feedC p l d s A1 nb c1 A2 nh c2) 28)) 24 #[.int .i64 hl, .int .i64 hd, .int .i64 ht]
      rw [World.size_alloc] at h
      exact h
    have HBV : Hid (Below w1.heap.size w1 V) := by rw [← HV.out]; exact ((Below.refl _ w1).alloc (Nat.le_refl _) _).alloc (by simp) _
    go_wp2_with fail
    rw [HV.out]
    refine (feedHead_n p l d s A1 c1 A2 c2 bs hs hl hd ht G cg zs V (HE1.out.below HBV.out) (HG.out.below HBV.out) (HF.out.belowS HBV.out) HNB.out HNH.out HNG.out HO.out HMB.out HMH.out HC.out).mono ?_
    rintro e w2 ⟨A3, c3, A4, c4, rfl, ho2, hb2⟩
    have HO2 := Lib.hid ho2
    have KF2 := Lib.hid (KF.out.below hb2 KF.out.lt)
    have KH2 := Lib.hid (KH.out.below hb2 KH.out.lt)
    have HB2 : Hid (Below w1.heap.size w1 w2) := HBV.out.trans (hb2.mono HBV.out.size)
    have hz12 : w1.heap.size + 1 < w2.heap.size := KH2.out.lt
    have hz12a : w1.heap.size < w2.heap.size := KF2.out.lt
    clear ho2 hb2
    obtain ⟨U2, HU2⟩ : ∃ U, Hid (w2.alloc (.cells (feedC op ol od os A3 mb c3 A4 mh c4) 28) = U) := ⟨_, rfl⟩
    have KFU := Lib.hid (KF2.out.alloc (.cells (feedC op ol od os A3 mb c3 A4 mh c4) 28))
    have KHU := Lib.hid (KH2.out.alloc (.cells (feedC op ol od os A3 mb c3 A4 mh c4) 28))
    have KOU := Lib.hid (Blk.new w2 28 (feedC op ol od os A3 mb c3 A4 mh c4))
    have HOU := Lib.hid (HO2.out.alloc (.cells (feedC op ol od os A3 mb c3 A4 mh c4) 28))
    have HBU : Hid (Below w1.heap.size w1 (w2.alloc (.cells (feedC op ol od os A3 mb c3 A4 mh c4) 28))) := HB2.out.alloc HB2.out.size _
    rw [HU2.out] at KFU KHU KOU HBU HOU
    obtain ⟨f0, f1, f2, f3, f4, f5⟩ := feed_cells KF2.out
    obtain ⟨h0, h1, h2⟩ := head_cells KH2.out
    go_wp2_with fail
    rw [HU2.out]
    refine (sfeedHead_n p l d s A1 c1 A2 c2 bs hs hl hd ht G cg zs U2 (HG.out.below HBU.out) (HF.out.belowS HBU.out) HNC.out.1 HNC.out.2 HNB.out HNH.out HNG.out HO.out HMB.out HMH.out HC.out).mono ?_
    rintro e w3 ⟨A5, c5, A6, c6, rfl, ho3, hb3⟩
    have HO3 := Lib.hid ho3
    have HO23 := Lib.hid (HOU.out.below hb3)
    have KF3 := Lib.hid (KFU.out.below hb3 KFU.out.lt)
    have KH3 := Lib.hid (KHU.out.below hb3 KHU.out.lt)
    have KO3 := Lib.hid (KOU.out.below hb3 KOU.out.lt)
    have HB3 : Hid (Below w1.heap.size w1 w3) := HBU.out.trans (hb3.mono HBU.out.size)
    have HB3w : Hid (Below w.heap.size w w3) := HB1.out.trans (HB3.out.mono HB1.out.size)
    have hz23 : w2.heap.size < w3.heap.size := KO3.out.lt
    have hz13 : w1.heap.size + 1 < w3.heap.size := KH3.out.lt
    have hz13a : w1.heap.size < w3.heap.size := KF3.out.lt
    clear ho3 hb3 f0 f1 f2 f3 f4 f5 h0 h1 h2
    obtain ⟨U3, HU3⟩ : ∃ U, Hid (w3.alloc (.cells (feedC op ol od os A5 mb c5 A6 mh c6) 28) = U) := ⟨_, rfl⟩
    have JF := Lib.hid (KF3.out.alloc (.cells (feedC op ol od os A5 mb c5 A6 mh c6) 28))
    have JH := Lib.hid (KH3.out.alloc (.cells (feedC op ol od os A5 mb c5 A6 mh c6) 28))
    have JO := Lib.hid (KO3.out.alloc (.cells (feedC op ol od os A5 mb c5 A6 mh c6) 28))
    have JW := Lib.hid (Blk.new w3 28 (feedC op ol od os A5 mb c5 A6 mh c6))
    have OO := Lib.hid (HO23.out.alloc (.cells (feedC op ol od os A5 mb c5 A6 mh c6) 28))
    have OW := Lib.hid (HO3.out.alloc (.cells (feedC op ol od os A5 mb c5 A6 mh c6) 28))
    have HBT : Hid (Below w1.heap.size w1 (w3.alloc (.cells (feedC op ol od os A5 mb c5 A6 mh c6) 28))) := HB3.out.alloc HB3.out.size _
    rw [HU3.out] at JF JH JO JW HBT OO OW
    obtain ⟨f0, f1, f2, f3, f4, f5⟩ := feed_cells KF3.out
    obtain ⟨h0, h1, h2⟩ := head_cells KH3.out
    obtain ⟨o0, o1, o2, o3, o4, o5⟩ := feed_cells KO3.out
    have hne : (C != C) = false := by simp
    have heq : (C == C) = true := by simp
    go_wp2_with fail
    rw [HU3.out]
    refine (sameFeed_n op ol od os A3 c3 A4 c4 A5 c5 A6 c6 obs ohs U3 OO.out.at_ OW.out.at_ HMB.out HMH.out).mono ?_
    rintro e w4 ⟨rfl, hb4⟩
    have LF4 := Lib.hid (JF.out.below hb4 JF.out.lt)
    have LH4 := Lib.hid (JH.out.below hb4 JH.out.lt)
    have LO4 := Lib.hid (JO.out.below hb4 JO.out.lt)
    have LW4 := Lib.hid (JW.out.below hb4 JW.out.lt)
    have PO4 := Lib.hid (OO.out.below hb4)
    have PW4 := Lib.hid (OW.out.below hb4)
    have HB4 : Hid (Below w1.heap.size w1 w4) := HBT.out.trans (hb4.mono HBT.out.size)
    clear hb4 f0 f1 f2 f3 f4 f5 h0 h1 h2 o0 o1 o2 o3 o4 o5
    obtain ⟨f0, f1, f2, f3, f4, f5⟩ := feed_cells LF4.out
    obtain ⟨h0, h1, h2⟩ := head_cells LH4.out
    obtain ⟨o0, o1, o2, o3, o4, o5⟩ := feed_cells LO4.out
    obtain ⟨q0, q1, q2, q3, q4, q5⟩ := feed_cells LW4.out
    by_cases hC : C = 0
    · have hC1 := eqb' hC
      have h00 := HC.out.trans hC
      obtain ⟨hok, hsg, hlt, -⟩ := code0_facts h00
      simp only at hsg hlt
      have hO := (headF_0 h00).symm.trans HO.out
      unfold nextF at hO
      injection hO with e1 e2 e3 e4 e5 e6
      simp only at e1 e5 e6
      subst e1; subst e2; subst e3; subst e4
      have hnv : okB ⟨p, hl, hd, ht, obs, ohs⟩ = true := by
        have h := next_ok hok hsg hlt
        unfold nextF at h
        simp only at h
        rw [e5, e6] at h
        exact h
      have hfl := (okB_iff _).1 hok
      have hlb := hfl.2.2.1.1
      have hlh := hfl.2.2.1.2
      simp only at hlb hlh
      have hgl := ((signedB_iff _ _ _ _).1 hsg).2.1
      have hl16 : hl.toNat ≤ 16 := by omega
      have hbl : bs.length ≤ hl.toNat := by omega
      have hhl : hs.length ≤ hl.toNat := by omega
      have e7 : obs.length = hl.toNat := by rw [← e5]; exact longS_length hbl
      have e8 : ohs.length = hl.toNat := by rw [← e6]; exact longB_length hhl
      have HTK : Hid (obs.take nb = bs) := by
        show _ = _
        rw [← HNB.out, ← e5]; exact longS_take bs _
      have HCN : Hid (countOr ohs = countOr hs) := by
        show _ = _
        rw [countOr_yes (by omega), countOr_yes (by omega), ← e6, cnt_longB]
      obtain ⟨N, HN⟩ : ∃ N, Hid (countOr hs = N) := ⟨_, rfl⟩
      have hmb : 0 < obs.length := by omega
      obtain ⟨y, hy⟩ := owns_at PO4.out.strs hmb
      subst hy
      have hcap := PO4.out.strs.le
      have hnbm : nb ≤ mb := by rw [← HNB.out, ← HMB.out]; omega
      rw [HMB.out] at hcap
      have s0 : (0 : Int) ≤ (nb : Int) := by omega
      have s1 : (nb : Int) ≤ (c3 : Int) := by omega
      have s2 : (nb : Int) ≤ (mb : Int) := by omega
      have HSG := Lib.hid hsg
      have ST : Hid (∀ U, Below w1.heap.size w1 U → OwnFeed U V.heap.size (some ⟨y, 0, none⟩) c3 A4 c4 obs ohs → Calls Tryd.prog 16 #[.slice (some ⟨y, 0, none⟩) nb c3, .slice A1 nb c1] U fun e w' => e = .returned (.bool true) ∧ ∃ q, w' = U.drewN q) := fun U hU hO => by
        have h := sames_any (some ⟨y, 0, none⟩) c3 bs A1 c1 bs U (by have k := hO.strs.ints.first nb; rw [HTK.out] at k; exact k) (HF.out.belowS hU).strs HF.out.lb HF.out.lb
        rw [decide_eq_true rfl, HNB.out] at h
        exact h
      have B1 : Hid (∀ U, OwnFeed U V.heap.size (some ⟨y, 0, none⟩) c3 A4 c4 obs ohs → Calls Tryd.prog 17 #[.slice A4 mh c4] U fun e w' => e = .returned (.int .i64 N) ∧ Below U.heap.size U w') := fun U hO => by
        have h := bitsCount_any A4 c4 ohs U hO.bits.ints
        rw [HCN.out, HN.out, HMH.out] at h
        exact h
      have B2 : Hid (∀ U, Below w1.heap.size w1 U → Calls Tryd.prog 17 #[.slice A2 nh c2] U fun e w' => e = .returned (.int .i64 N) ∧ Below U.heap.size U w') := fun U hU => by
        have h := bitsCount_any A2 c2 hs U (HF.out.belowS hU).bits
        rw [HN.out, HNH.out] at h
        exact h
      have FV : Hid (∀ U, OwnFeed U V.heap.size (some ⟨y, 0, none⟩) c3 A4 c4 obs ohs → Calls Tryd.prog 18 #[feedV p hl hd ht (some ⟨y, 0, none⟩) mb c3 A4 mh c4] U fun e w' => e = .returned (.bool true) ∧ Below U.heap.size U w') := fun U hO => by
        have h := feedValid_any p hl hd ht (some ⟨y, 0, none⟩) c3 A4 c4 obs ohs U hO.at_
        rw [hnv, HMB.out, HMH.out] at h
        exact h
      clear h00 hok hsg e5 e6 e7 e8 hnv hfl hlb hlh hgl hl16 hbl hhl hmb hcap hnbm
      have hnn : ((N == N) : Bool) = true := by simp
      go_wp2_with fail
      refine wp_region_held_drew (S := (fun w' => w'.cell? ⟨w1.heap.size, 0, none⟩ = some (.int .i64 p) ∧ w'.cell? ⟨w1.heap.size, 1, none⟩ = some (.int .i64 l) ∧ w'.cell? ⟨w1.heap.size, 2, none⟩ = some (.int .i64 d) ∧ w'.cell? ⟨w1.heap.size, 3, none⟩ = some (.int .i64 s) ∧ w'.cell? ⟨w1.heap.size, 4, none⟩ = some (.slice A1 nb c1) ∧ w'.cell? ⟨w1.heap.size, 5, none⟩ = some (.slice A2 nh c2) ∧ w'.cell? ⟨w1.heap.size + 1, 0, none⟩ = some (.int .i64 hl) ∧ w'.cell? ⟨w1.heap.size + 1, 1, none⟩ = some (.int .i64 hd) ∧ w'.cell? ⟨w1.heap.size + 1, 2, none⟩ = some (.int .i64 ht) ∧ w'.cell? ⟨w2.heap.size, 0, none⟩ = some (.int .i64 p) ∧ w'.cell? ⟨w2.heap.size, 1, none⟩ = some (.int .i64 hl) ∧ w'.cell? ⟨w2.heap.size, 2, none⟩ = some (.int .i64 hd) ∧ w'.cell? ⟨w2.heap.size, 3, none⟩ = some (.int .i64 ht) ∧ w'.cell? ⟨w2.heap.size, 4, none⟩ = some (.slice (some ⟨y, 0, none⟩) mb c3) ∧ w'.cell? ⟨w2.heap.size, 5, none⟩ = some (.slice A4 mh c4))) (by kernel_rfl) (⟨f0, f1, f2, f3, f4, f5, h0, h1, h2, o0, o1, o2, o3, o4, o5⟩) (fun hHeld => ?_)
      refine wpAnyH_take (i := 0) (v := ?zv1) rfl (by kernel_rfl) (by kernel_rfl) (by kernel_rfl) (fun _ _ _ h => h) (Or.inl ⟨by kernel_rfl, ?zy1⟩) (by assumption) ?zr1
      case zy1 => (intro w hSw; (try dsimp only at hSw); go_simp; try with_reducible rfl)
      change wpAnyH _ _ _ _ _ _ _ (Act.put _ (some 54) _) _
      simp only [Act.put, List.setIfInBounds_toArray, List.set_cons_zero, List.set_cons_succ]
      refine wpAnyH_take (i := 1) (v := ?zv2) rfl (by kernel_rfl) (by kernel_rfl) (by kernel_rfl) (fun _ _ _ h => h) (Or.inl ⟨by kernel_rfl, ?zy2⟩) (by assumption) ?zr2
      case zy2 => (intro w hSw; (try dsimp only at hSw); go_simp; try with_reducible rfl)
      change wpAnyH _ _ _ _ _ _ _ (Act.put _ (some 55) _) _
      simp only [Act.put, List.setIfInBounds_toArray, List.set_cons_zero, List.set_cons_succ]
      refine wpAnyH_take (i := 2) (v := ?zv3) rfl (by kernel_rfl) (by kernel_rfl) (by kernel_rfl) (fun _ _ _ h => h) (Or.inl ⟨by kernel_rfl, ?zy3⟩) (by assumption) ?zr3
      case zy3 => (intro w hSw; (try dsimp only at hSw); go_simp; try with_reducible rfl)
      change wpAnyH _ _ _ _ _ _ _ (Act.put _ (some 56) _) _
      simp only [Act.put, List.setIfInBounds_toArray, List.set_cons_zero, List.set_cons_succ]
      refine wpAnyH_ready (rs := [3]) (by kernel_rfl) (by simp) (AllReadyH.cons rfl (fun K hK => ?_) AllReadyH.nil)
      go_simp
      go_at_call 15
      refine (check_any p hl hd ht _).mono ?_
      rintro e w5 ⟨rfl, hb5d⟩
      rw [HSG.out]
      have hb5 : Below w4.heap.size w4 w5 := below_drew_l hb5d
      clear hb5d
      have LF5 := Lib.hid (LF4.out.below hb5 LF4.out.lt)
      have LH5 := Lib.hid (LH4.out.below hb5 LH4.out.lt)
      have LO5 := Lib.hid (LO4.out.below hb5 LO4.out.lt)
      have LW5 := Lib.hid (LW4.out.below hb5 LW4.out.lt)
      have PO5 := Lib.hid (PO4.out.below hb5)
      have PW5 := Lib.hid (PW4.out.below hb5)
      have HB5 : Hid (Below w1.heap.size w1 w5) := HB4.out.trans (hb5.mono HB4.out.size)
      clear hb5 f0 f1 f2 f3 f4 f5 h0 h1 h2 o0 o1 o2 o3 o4 o5 q0 q1 q2 q3 q4 q5
      obtain ⟨f0, f1, f2, f3, f4, f5⟩ := feed_cells LF5.out
      obtain ⟨h0, h1, h2⟩ := head_cells LH5.out
      obtain ⟨o0, o1, o2, o3, o4, o5⟩ := feed_cells LO5.out
      obtain ⟨q0, q1, q2, q3, q4, q5⟩ := feed_cells LW5.out
      refine hK.out _ _ (⟨f0, f1, f2, f3, f4, f5, h0, h1, h2, o0, o1, o2, o3, o4, o5⟩) (fun hHeld => ?_)
      clear hK K
      (try simp only [Act.put, List.setIfInBounds_toArray, List.set_cons_zero, List.set_cons_succ])
      refine wpAnyH_take (i := 4) (v := ?zv4) rfl (by kernel_rfl) (by kernel_rfl) (by kernel_rfl) (fun _ _ _ h => h) (Or.inl ⟨by kernel_rfl, ?zy4⟩) (by assumption) ?zr4
      case zy4 => (intro w hSw; (try dsimp only at hSw); go_simp; try with_reducible rfl)
      change wpAnyH _ _ _ _ _ _ _ (Act.put _ (some 58) _) _
      simp only [Act.put, List.setIfInBounds_toArray, List.set_cons_zero, List.set_cons_succ]
      refine wpAnyH_take (i := 5) (v := ?zv5) rfl (by kernel_rfl) (by kernel_rfl) (by kernel_rfl) (fun _ _ _ h => h) (Or.inl ⟨by kernel_rfl, ?zy5⟩) (by assumption) ?zr5
      case zy5 => (intro w hSw; (try dsimp only at hSw); go_simp; try with_reducible rfl)
      change wpAnyH _ _ _ _ _ _ _ (Act.put _ (some 59) _) _
      simp only [Act.put, List.setIfInBounds_toArray, List.set_cons_zero, List.set_cons_succ]
      refine wpAnyH_take (i := 6) (v := ?zv6) rfl (by kernel_rfl) (by kernel_rfl) (by kernel_rfl) (fun _ _ _ h => h) (Or.inl ⟨by kernel_rfl, ?zy6⟩) (by assumption) ?zr6
      case zy6 => (intro w hSw; (try dsimp only at hSw); go_simp; try with_reducible rfl)
      change wpAnyH _ _ _ _ _ _ _ (Act.put _ (some 60) _) _
      simp only [Act.put, List.setIfInBounds_toArray, List.set_cons_zero, List.set_cons_succ]
      refine wpAnyH_take (i := 7) (v := ?zv7) rfl (by kernel_rfl) (by kernel_rfl) (by kernel_rfl) (fun _ _ _ h => h) (Or.inl ⟨by kernel_rfl, ?zy7⟩) (by assumption) ?zr7
      case zy7 => (intro w hSw; (try dsimp only at hSw); go_simp; try with_reducible rfl)
      change wpAnyH _ _ _ _ _ _ _ (Act.put _ (some 61) _) _
      simp only [Act.put, List.setIfInBounds_toArray, List.set_cons_zero, List.set_cons_succ]
      refine wpAnyH_take (i := 8) (v := ?zv8) rfl (by kernel_rfl) (by kernel_rfl) (by kernel_rfl) (fun _ _ _ h => h) (Or.inl ⟨by kernel_rfl, ?zy8⟩) (by assumption) ?zr8
      case zy8 => (intro w hSw; (try dsimp only at hSw); go_simp; try with_reducible rfl)
      change wpAnyH _ _ _ _ _ _ _ (Act.put _ (some 62) _) _
      simp only [Act.put, List.setIfInBounds_toArray, List.set_cons_zero, List.set_cons_succ]
      refine wpAnyH_take (i := 9) (v := ?zv9) rfl (by kernel_rfl) (by kernel_rfl) (by kernel_rfl) (fun _ _ _ h => h) (Or.inl ⟨by kernel_rfl, ?zy9⟩) (by assumption) ?zr9
      case zy9 => (intro w hSw; (try dsimp only at hSw); go_simp; try with_reducible rfl)
      change wpAnyH _ _ _ _ _ _ _ (Act.put _ (some 63) _) _
      simp only [Act.put, List.setIfInBounds_toArray, List.set_cons_zero, List.set_cons_succ]
      refine wpAnyH_take (i := 10) (v := ?zv10) rfl (by kernel_rfl) (by kernel_rfl) (by kernel_rfl) (fun _ _ _ h => h) (Or.inl ⟨by kernel_rfl, ?zy10⟩) (by assumption) ?zr10
      case zy10 => (intro w hSw; (try dsimp only at hSw); go_simp; try with_reducible rfl)
      change wpAnyH _ _ _ _ _ _ _ (Act.put _ (some 64) _) _
      simp only [Act.put, List.setIfInBounds_toArray, List.set_cons_zero, List.set_cons_succ]
      refine wpAnyH_take (i := 11) (v := ?zv11) rfl (by kernel_rfl) (by kernel_rfl) (by kernel_rfl) (fun _ _ _ h => h) (Or.inl ⟨by kernel_rfl, ?zy11⟩) (by assumption) ?zr11
      case zy11 => (intro w hSw; (try dsimp only at hSw); go_simp; try with_reducible rfl)
      change wpAnyH _ _ _ _ _ _ _ (Act.put _ (some 65) _) _
      simp only [Act.put, List.setIfInBounds_toArray, List.set_cons_zero, List.set_cons_succ]
      refine wpAnyH_take (i := 12) (v := ?zv12) rfl (by kernel_rfl) (by kernel_rfl) (by kernel_rfl) (fun _ _ _ h => h) (Or.inl ⟨by kernel_rfl, ?zy12⟩) (by assumption) ?zr12
      case zy12 => (intro w hSw; (try dsimp only at hSw); go_simp; try with_reducible rfl)
      change wpAnyH _ _ _ _ _ _ _ (Act.put _ (some 66) _) _
      simp only [Act.put, List.setIfInBounds_toArray, List.set_cons_zero, List.set_cons_succ]
      refine wpAnyH_take (i := 13) (v := ?zv13) rfl (by kernel_rfl) (by kernel_rfl) (by kernel_rfl) (fun _ _ _ h => h) (Or.inl ⟨by kernel_rfl, ?zy13⟩) (by assumption) ?zr13
      case zy13 => (intro w hSw; (try dsimp only at hSw); go_simp; try with_reducible rfl)
      change wpAnyH _ _ _ _ _ _ _ (Act.put _ (some 67) _) _
      simp only [Act.put, List.setIfInBounds_toArray, List.set_cons_zero, List.set_cons_succ]
      refine wpAnyH_take (i := 14) (v := ?zv14) rfl (by kernel_rfl) (by kernel_rfl) (by kernel_rfl) (fun _ _ _ h => h) (Or.inl ⟨by kernel_rfl, ?zy14⟩) (by assumption) ?zr14
      case zy14 => (intro w hSw; (try dsimp only at hSw); go_simp; try with_reducible rfl)
      change wpAnyH _ _ _ _ _ _ _ (Act.put _ (some 68) _) _
      simp only [Act.put, List.setIfInBounds_toArray, List.set_cons_zero, List.set_cons_succ]
      refine wpAnyH_take (i := 15) (v := ?zv15) rfl (by kernel_rfl) (by kernel_rfl) (by kernel_rfl) (fun _ _ _ h => h) (Or.inl ⟨by kernel_rfl, ?zy15⟩) (by assumption) ?zr15
      case zy15 => (intro w hSw; (try dsimp only at hSw); go_simp; try with_reducible rfl)
      change wpAnyH _ _ _ _ _ _ _ (Act.put _ (some 69) _) _
      simp only [Act.put, List.setIfInBounds_toArray, List.set_cons_zero, List.set_cons_succ]
      refine wpAnyH_take (i := 16) (v := ?zv16) rfl (by kernel_rfl) (by kernel_rfl) (by kernel_rfl) (fun _ _ _ h => h) (Or.inl ⟨by kernel_rfl, ?zy16⟩) (by assumption) ?zr16
      case zy16 => (intro w hSw; (try dsimp only at hSw); go_simp; try with_reducible rfl)
      change wpAnyH _ _ _ _ _ _ _ (Act.put _ (some 70) _) _
      simp only [Act.put, List.setIfInBounds_toArray, List.set_cons_zero, List.set_cons_succ]
      refine wpAnyH_take (i := 17) (v := ?zv17) rfl (by kernel_rfl) (by kernel_rfl) (by kernel_rfl) (fun _ _ _ h => h) (Or.inl ⟨by kernel_rfl, ?zy17⟩) (by assumption) ?zr17
      case zy17 => (intro w hSw; (try dsimp only at hSw); go_simp; try with_reducible rfl)
      change wpAnyH _ _ _ _ _ _ _ (Act.put _ (some 71) _) _
      simp only [Act.put, List.setIfInBounds_toArray, List.set_cons_zero, List.set_cons_succ]
      refine wpAnyH_take (i := 18) (v := ?zv18) rfl (by kernel_rfl) (by kernel_rfl) (by kernel_rfl) (fun _ _ _ h => h) (Or.inl ⟨by kernel_rfl, ?zy18⟩) (by assumption) ?zr18
      case zy18 => (intro w hSw; (try dsimp only at hSw); go_simp; try with_reducible rfl)
      change wpAnyH _ _ _ _ _ _ _ (Act.put _ (some 72) _) _
      simp only [Act.put, List.setIfInBounds_toArray, List.set_cons_zero, List.set_cons_succ]
      refine wpAnyH_take (i := 19) (v := ?zv19) rfl (by kernel_rfl) (by kernel_rfl) (by kernel_rfl) (fun _ _ _ h => h) (Or.inl ⟨by kernel_rfl, ?zy19⟩) (by assumption) ?zr19
      case zy19 => (intro w hSw; (try dsimp only at hSw); go_simp; try with_reducible rfl)
      change wpAnyH _ _ _ _ _ _ _ (Act.put _ (some 73) _) _
      simp only [Act.put, List.setIfInBounds_toArray, List.set_cons_zero, List.set_cons_succ]
      refine wpAnyH_take (i := 20) (v := ?zv20) rfl (by kernel_rfl) (by kernel_rfl) (by kernel_rfl) (fun _ _ _ h => h) (Or.inl ⟨by kernel_rfl, ?zy20⟩) (by assumption) ?zr20
      case zy20 => (intro w hSw; (try dsimp only at hSw); go_simp; try with_reducible rfl)
      change wpAnyH _ _ _ _ _ _ _ (Act.put _ (some 74) _) _
      simp only [Act.put, List.setIfInBounds_toArray, List.set_cons_zero, List.set_cons_succ]
      refine wpAnyH_take (i := 21) (v := ?zv21) rfl (by kernel_rfl) (by kernel_rfl) (by kernel_rfl) (fun _ _ _ h => h) (Or.inl ⟨by kernel_rfl, ?zy21⟩) (by assumption) ?zr21
      case zy21 => (intro w hSw; (try dsimp only at hSw); go_simp; try with_reducible rfl)
      change wpAnyH _ _ _ _ _ _ _ (Act.put _ (some 75) _) _
      simp only [Act.put, List.setIfInBounds_toArray, List.set_cons_zero, List.set_cons_succ]
      refine wpAnyH_take (i := 22) (v := ?zv22) rfl (by kernel_rfl) (by kernel_rfl) (by kernel_rfl) (fun _ _ _ h => h) (Or.inl ⟨by kernel_rfl, ?zy22⟩) (by assumption) ?zr22
      case zy22 => (intro w hSw; (try dsimp only at hSw); go_simp; try with_reducible rfl)
      change wpAnyH _ _ _ _ _ _ _ (Act.put _ (some 76) _) _
      simp only [Act.put, List.setIfInBounds_toArray, List.set_cons_zero, List.set_cons_succ]
      refine wpAnyH_take (i := 23) (v := ?zv23) rfl (by kernel_rfl) (by kernel_rfl) (by kernel_rfl) (fun _ _ _ h => h) (Or.inl ⟨by kernel_rfl, ?zy23⟩) (by assumption) ?zr23
      case zy23 => (intro w hSw; (try dsimp only at hSw); go_simp; try with_reducible rfl)
      change wpAnyH _ _ _ _ _ _ _ (Act.put _ (some 77) _) _
      simp only [Act.put, List.setIfInBounds_toArray, List.set_cons_zero, List.set_cons_succ]
      refine wpAnyH_take (i := 24) (v := ?zv24) rfl (by kernel_rfl) (by kernel_rfl) (by kernel_rfl) (fun _ _ _ h => h) (Or.inl ⟨by kernel_rfl, ?zy24⟩) (by assumption) ?zr24
      case zy24 => (intro w hSw; (try dsimp only at hSw); go_simp; try with_reducible rfl)
      change wpAnyH _ _ _ _ _ _ _ (Act.put _ (some 78) _) _
      simp only [Act.put, List.setIfInBounds_toArray, List.set_cons_zero, List.set_cons_succ]
      refine wpAnyH_take (i := 25) (v := ?zv25) rfl (by kernel_rfl) (by kernel_rfl) (by kernel_rfl) (fun _ _ _ h => h) (Or.inl ⟨by kernel_rfl, ?zy25⟩) (by assumption) ?zr25
      case zy25 => (intro w hSw; (try dsimp only at hSw); go_simp; try with_reducible rfl)
      change wpAnyH _ _ _ _ _ _ _ (Act.put _ (some 79) _) _
      simp only [Act.put, List.setIfInBounds_toArray, List.set_cons_zero, List.set_cons_succ]
      refine wpAnyH_take (i := 26) (v := ?zv26) rfl (by kernel_rfl) (by kernel_rfl) (by kernel_rfl) (fun _ _ _ h => h) (Or.inl ⟨by kernel_rfl, ?zy26⟩) (by assumption) ?zr26
      case zy26 => (intro w hSw; (try dsimp only at hSw); go_simp; try with_reducible rfl)
      change wpAnyH _ _ _ _ _ _ _ (Act.put _ (some 80) _) _
      simp only [Act.put, List.setIfInBounds_toArray, List.set_cons_zero, List.set_cons_succ]
      refine wpAnyH_ready (rs := [27]) (by kernel_rfl) (by simp) (AllReadyH.cons rfl (fun K hK => ?_) AllReadyH.nil)
      go_simp
      go_at_call 16
      refine (ST.out w5 HB5.out PO5.out).mono ?_
      rintro e w6 ⟨rfl, q6, rfl⟩
      have hb6 : Below w5.heap.size w5 (w5.drewN q6) := below_drewN (Below.refl _ _) q6
      obtain ⟨w6, HW6⟩ : ∃ W, Hid (w5.drewN q6 = W) := ⟨_, rfl⟩
      rw [HW6.out] at hb6 ⊢
      have LF6 := Lib.hid (LF5.out.below hb6 LF5.out.lt)
      have LH6 := Lib.hid (LH5.out.below hb6 LH5.out.lt)
      have LO6 := Lib.hid (LO5.out.below hb6 LO5.out.lt)
      have LW6 := Lib.hid (LW5.out.below hb6 LW5.out.lt)
      have PO6 := Lib.hid (PO5.out.below hb6)
      have PW6 := Lib.hid (PW5.out.below hb6)
      have HB6 : Hid (Below w1.heap.size w1 w6) := HB5.out.trans (hb6.mono HB5.out.size)
      clear hb6 f0 f1 f2 f3 f4 f5 h0 h1 h2 o0 o1 o2 o3 o4 o5 q0 q1 q2 q3 q4 q5
      obtain ⟨f0, f1, f2, f3, f4, f5⟩ := feed_cells LF6.out
      obtain ⟨h0, h1, h2⟩ := head_cells LH6.out
      obtain ⟨o0, o1, o2, o3, o4, o5⟩ := feed_cells LO6.out
      obtain ⟨q0, q1, q2, q3, q4, q5⟩ := feed_cells LW6.out
      refine hK.out _ _ (⟨f0, f1, f2, f3, f4, f5, h0, h1, h2, o0, o1, o2, o3, o4, o5⟩) (fun hHeld => ?_)
      clear hK K
      (try simp only [Act.put, List.setIfInBounds_toArray, List.set_cons_zero, List.set_cons_succ])
      refine wpAnyH_take (i := 28) (v := ?zv27) rfl (by kernel_rfl) (by kernel_rfl) (by kernel_rfl) (fun _ _ _ h => h) (Or.inl ⟨by kernel_rfl, ?zy27⟩) (by assumption) ?zr27
      case zy27 => (intro w hSw; (try dsimp only at hSw); go_simp; try with_reducible rfl)
      change wpAnyH _ _ _ _ _ _ _ (Act.put _ (some 82) _) _
      simp only [Act.put, List.setIfInBounds_toArray, List.set_cons_zero, List.set_cons_succ]
      refine wpAnyH_take (i := 29) (v := ?zv28) rfl (by kernel_rfl) (by kernel_rfl) (by kernel_rfl) (fun _ _ _ h => h) (Or.inl ⟨by kernel_rfl, ?zy28⟩) (by assumption) ?zr28
      case zy28 => (intro w hSw; (try dsimp only at hSw); go_simp; try with_reducible rfl)
      change wpAnyH _ _ _ _ _ _ _ (Act.put _ (some 83) _) _
      simp only [Act.put, List.setIfInBounds_toArray, List.set_cons_zero, List.set_cons_succ]
      refine wpAnyH_take (i := 30) (v := ?zv29) rfl (by kernel_rfl) (by kernel_rfl) (by kernel_rfl) (fun _ _ _ h => h) (Or.inl ⟨by kernel_rfl, ?zy29⟩) (by assumption) ?zr29
      case zy29 => (intro w hSw; (try dsimp only at hSw); go_simp; try with_reducible rfl)
      change wpAnyH _ _ _ _ _ _ _ (Act.put _ (some 84) _) _
      simp only [Act.put, List.setIfInBounds_toArray, List.set_cons_zero, List.set_cons_succ]
      refine wpAnyH_take (i := 31) (v := ?zv30) rfl (by kernel_rfl) (by kernel_rfl) (by kernel_rfl) (fun _ _ _ h => h) (Or.inl ⟨by kernel_rfl, ?zy30⟩) (by assumption) ?zr30
      case zy30 => (intro w hSw; (try dsimp only at hSw); go_simp; try with_reducible rfl)
      change wpAnyH _ _ _ _ _ _ _ (Act.put _ (some 85) _) _
      simp only [Act.put, List.setIfInBounds_toArray, List.set_cons_zero, List.set_cons_succ]
      refine wpAnyH_take (i := 33) (v := ?zv31) rfl (by kernel_rfl) (by kernel_rfl) (by kernel_rfl) (fun _ _ _ h => h) (Or.inl ⟨by kernel_rfl, ?zy31⟩) (by assumption) ?zr31
      case zy31 => (intro w hSw; (try dsimp only at hSw); go_simp; try with_reducible rfl)
      change wpAnyH _ _ _ _ _ _ _ (Act.put _ (some 87) _) _
      simp only [Act.put, List.setIfInBounds_toArray, List.set_cons_zero, List.set_cons_succ]
      refine wpAnyH_take (i := 34) (v := ?zv32) rfl (by kernel_rfl) (by kernel_rfl) (by kernel_rfl) (fun _ _ _ h => h) (Or.inl ⟨by kernel_rfl, ?zy32⟩) (by assumption) ?zr32
      case zy32 => (intro w hSw; (try dsimp only at hSw); go_simp; try with_reducible rfl)
      change wpAnyH _ _ _ _ _ _ _ (Act.put _ (some 88) _) _
      simp only [Act.put, List.setIfInBounds_toArray, List.set_cons_zero, List.set_cons_succ]
      refine wpAnyH_ready (rs := [32]) (by kernel_rfl) (by simp) (AllReadyH.cons rfl (fun K hK => ?_) AllReadyH.nil)
      go_simp
      go_at_call 17
      refine (B1.out w6 PO6.out).mono ?_
      rintro e w7 ⟨rfl, hb7⟩
      have LF7 := Lib.hid (LF6.out.below hb7 LF6.out.lt)
      have LH7 := Lib.hid (LH6.out.below hb7 LH6.out.lt)
      have LO7 := Lib.hid (LO6.out.below hb7 LO6.out.lt)
      have LW7 := Lib.hid (LW6.out.below hb7 LW6.out.lt)
      have PO7 := Lib.hid (PO6.out.below hb7)
      have PW7 := Lib.hid (PW6.out.below hb7)
      have HB7 : Hid (Below w1.heap.size w1 w7) := HB6.out.trans (hb7.mono HB6.out.size)
      clear hb7 f0 f1 f2 f3 f4 f5 h0 h1 h2 o0 o1 o2 o3 o4 o5 q0 q1 q2 q3 q4 q5
      obtain ⟨f0, f1, f2, f3, f4, f5⟩ := feed_cells LF7.out
      obtain ⟨h0, h1, h2⟩ := head_cells LH7.out
      obtain ⟨o0, o1, o2, o3, o4, o5⟩ := feed_cells LO7.out
      obtain ⟨q0, q1, q2, q3, q4, q5⟩ := feed_cells LW7.out
      refine hK.out _ _ (⟨f0, f1, f2, f3, f4, f5, h0, h1, h2, o0, o1, o2, o3, o4, o5⟩) (fun hHeld => ?_)
      clear hK K
      (try simp only [Act.put, List.setIfInBounds_toArray, List.set_cons_zero, List.set_cons_succ])
      refine wpAnyH_ready (rs := [35]) (by kernel_rfl) (by simp) (AllReadyH.cons rfl (fun K hK => ?_) AllReadyH.nil)
      go_simp
      go_at_call 17
      refine (B2.out w7 HB7.out).mono ?_
      rintro e w8 ⟨rfl, hb8⟩
      have LF8 := Lib.hid (LF7.out.below hb8 LF7.out.lt)
      have LH8 := Lib.hid (LH7.out.below hb8 LH7.out.lt)
      have LO8 := Lib.hid (LO7.out.below hb8 LO7.out.lt)
      have LW8 := Lib.hid (LW7.out.below hb8 LW7.out.lt)
      have PO8 := Lib.hid (PO7.out.below hb8)
      have PW8 := Lib.hid (PW7.out.below hb8)
      have HB8 : Hid (Below w1.heap.size w1 w8) := HB7.out.trans (hb8.mono HB7.out.size)
      clear hb8 f0 f1 f2 f3 f4 f5 h0 h1 h2 o0 o1 o2 o3 o4 o5 q0 q1 q2 q3 q4 q5
      obtain ⟨f0, f1, f2, f3, f4, f5⟩ := feed_cells LF8.out
      obtain ⟨h0, h1, h2⟩ := head_cells LH8.out
      obtain ⟨o0, o1, o2, o3, o4, o5⟩ := feed_cells LO8.out
      obtain ⟨q0, q1, q2, q3, q4, q5⟩ := feed_cells LW8.out
      refine hK.out _ _ (⟨f0, f1, f2, f3, f4, f5, h0, h1, h2, o0, o1, o2, o3, o4, o5⟩) (fun hHeld => ?_)
      clear hK K
      (try simp only [Act.put, List.setIfInBounds_toArray, List.set_cons_zero, List.set_cons_succ])
      refine wpAnyH_take (i := 36) (v := ?zv33) rfl (by kernel_rfl) (by kernel_rfl) (by kernel_rfl) (fun _ _ _ h => h) (Or.inl ⟨by kernel_rfl, ?zy33⟩) (by assumption) ?zr33
      case zy33 => (intro w hSw; (try dsimp only at hSw); go_simp; try with_reducible rfl)
      change wpAnyH _ _ _ _ _ _ _ (Act.put _ (some 90) _) _
      simp only [Act.put, List.setIfInBounds_toArray, List.set_cons_zero, List.set_cons_succ]
      refine wpAnyH_take (i := 37) (v := ?zv34) rfl (by kernel_rfl) (by kernel_rfl) (by kernel_rfl) (fun _ _ _ h => h) (Or.inl ⟨by kernel_rfl, ?zy34⟩) (by assumption) ?zr34
      case zy34 => (intro w hSw; (try dsimp only at hSw); go_simp; try with_reducible rfl)
      change wpAnyH _ _ _ _ _ _ _ (Act.put _ (some 91) _) _
      simp only [Act.put, List.setIfInBounds_toArray, List.set_cons_zero, List.set_cons_succ]
      refine wpAnyH_take (i := 38) (v := ?zv35) rfl (by kernel_rfl) (by kernel_rfl) (by kernel_rfl) (fun _ _ _ h => h) (Or.inl ⟨by kernel_rfl, ?zy35⟩) (by assumption) ?zr35
      case zy35 => (intro w hSw; (try dsimp only at hSw); go_simp; try with_reducible rfl)
      change wpAnyH _ _ _ _ _ _ _ (Act.put _ (some 92) _) _
      simp only [Act.put, List.setIfInBounds_toArray, List.set_cons_zero, List.set_cons_succ]
      refine wpAnyH_take (i := 39) (v := ?zv36) rfl (by kernel_rfl) (by kernel_rfl) (by kernel_rfl) (fun _ _ _ h => h) (Or.inl ⟨by kernel_rfl, ?zy36⟩) (by assumption) ?zr36
      case zy36 => (intro w hSw; (try dsimp only at hSw); go_simp; try with_reducible rfl)
      change wpAnyH _ _ _ _ _ _ _ (Act.put _ (some 93) _) _
      simp only [Act.put, List.setIfInBounds_toArray, List.set_cons_zero, List.set_cons_succ]
      refine wpAnyH_ready (rs := [40]) (by kernel_rfl) (by simp) (AllReadyH.cons rfl (fun K hK => ?_) AllReadyH.nil)
      go_simp
      go_at_call 18
      refine (FV.out w8 PO8.out).mono ?_
      rintro e w9 ⟨rfl, hb9⟩
      have LF9 := Lib.hid (LF8.out.below hb9 LF8.out.lt)
      have LH9 := Lib.hid (LH8.out.below hb9 LH8.out.lt)
      have LO9 := Lib.hid (LO8.out.below hb9 LO8.out.lt)
      have LW9 := Lib.hid (LW8.out.below hb9 LW8.out.lt)
      have PO9 := Lib.hid (PO8.out.below hb9)
      have PW9 := Lib.hid (PW8.out.below hb9)
      have HB9 : Hid (Below w1.heap.size w1 w9) := HB8.out.trans (hb9.mono HB8.out.size)
      clear hb9 f0 f1 f2 f3 f4 f5 h0 h1 h2 o0 o1 o2 o3 o4 o5 q0 q1 q2 q3 q4 q5
      obtain ⟨f0, f1, f2, f3, f4, f5⟩ := feed_cells LF9.out
      obtain ⟨h0, h1, h2⟩ := head_cells LH9.out
      obtain ⟨o0, o1, o2, o3, o4, o5⟩ := feed_cells LO9.out
      obtain ⟨q0, q1, q2, q3, q4, q5⟩ := feed_cells LW9.out
      refine hK.out _ _ (⟨f0, f1, f2, f3, f4, f5, h0, h1, h2, o0, o1, o2, o3, o4, o5⟩) (fun hHeld => ?_)
      clear hK K
      (try simp only [Act.put, List.setIfInBounds_toArray, List.set_cons_zero, List.set_cons_succ])
      refine wpAnyH_take (i := 41) (v := ?zv37) rfl (by kernel_rfl) (by kernel_rfl) (by kernel_rfl) (fun _ _ _ h => h) (Or.inl ⟨by kernel_rfl, ?zy37⟩) (by assumption) ?zr37
      case zy37 => (intro w hSw; (try dsimp only at hSw); go_simp; try with_reducible rfl)
      change wpAnyH _ _ _ _ _ _ _ (Act.put _ (some 95) _) _
      simp only [Act.put, List.setIfInBounds_toArray, List.set_cons_zero, List.set_cons_succ]
      refine wpAnyH_take (i := 42) (v := ?zv38) rfl (by kernel_rfl) (by kernel_rfl) (by kernel_rfl) (fun _ _ _ h => h) (Or.inl ⟨by kernel_rfl, ?zy38⟩) (by assumption) ?zr38
      case zy38 => (intro w hSw; (try dsimp only at hSw); go_simp; try with_reducible rfl)
      change wpAnyH _ _ _ _ _ _ _ (Act.put _ (some 2) _) _
      simp only [Act.put, List.setIfInBounds_toArray, List.set_cons_zero, List.set_cons_succ]
      refine wpAnyH_done (by kernel_rfl) ?_ _
      go_wp2
      go_ret
      exact ⟨rfl, HB1.out.trans (HB9.out.mono HB1.out.size)⟩
    · have hC1 := neb hC
      go_wp2_with fail
      refine (sameFeed_n op ol od os A3 c3 A4 c4 A5 c5 A6 c6 obs ohs w4 PO4.out.at_ PW4.out.at_ HMB.out HMH.out).mono ?_
      rintro e w5 ⟨rfl, hb5⟩
      go_wp2
      go_ret
      exact ⟨rfl, HB1.out.trans ((HB4.out.trans (hb5.mono HB4.out.size)).mono HB1.out.size)⟩
  · have h9 : 1048576 < len := by omega
    clear hlen
    go_enter Tryd.func3, Tryd.ntmps3
    go_wp2
    go_ret
    exact ⟨rfl, Below.refl _ _⟩

end Go.Proofs.YtlpdoieiiadhhaaDoor
