/- Contracts of l11Grown and of the model of FeedHead: the code that answers a head, and the feed that comes of it, in memory of its own; nothing that was there is changed. Conditions: the feed and the proof lie in memory; a slice that is nil has no room. -/
import Derived.Test.YtlpdoieiiadhhaaDoorFeedHead
import Derived.Test.YtlpdoieiiadhhaaDoorBaseG
import Derived.Deep.LoopGhost
namespace Go.Proofs.YtlpdoieiiadhhaaDoor
open Go.RowKit
set_option linter.unusedVariables false

def grownB (l d hl hd : Int) (zs : List Int) : Bool := decide (l = 0) || growOkB l d hl hd zs

set_option maxHeartbeats 4000000 in
set_option maxRecDepth 100000 in
theorem grown_any (p l d s : Int) (A1 : Option Addr) (c1 : Nat) (A2 : Option Addr) (c2 : Nat) (bs : List ByteArray) (hs : List Bool) (hl hd ht : Int) (X : Option Addr) (cz : Nat) (zs : List Int) (w : World) (hG : GrowthAt w X cz zs) :
    Calls Tryd.prog 48 #[feedV p l d s A1 bs.length c1 A2 hs.length c2, headV hl hd ht, .slice X zs.length cz] w fun e w' => e = .returned (.bool (grownB l d hl hd zs)) ∧ Below w.heap.size w w' := by
  have HG := Lib.hid hG
  have CG : Hid (∀ U, Below w.heap.size w U → Calls Tryd.prog 92 #[.int .i64 l, .int .i64 d, .int .i64 hl, .int .i64 hd, .slice X zs.length cz] U fun e w' => e = .returned (.bool (growOkB l d hl hd zs)) ∧ Below U.heap.size U w') := fun U hU => sgcheck_any zs l d hl hd X cz U (HG.out.below hU).ints hG.le hG.most
  obtain ⟨W, HW⟩ : ∃ W, Hid ((w.alloc (.cells (feedC p l d s A1 bs.length c1 A2 hs.length c2) 28)).alloc (.cells #[.int .i64 hl, .int .i64 hd, .int .i64 ht] 24) = W) := ⟨_, rfl⟩
  have HB : Hid (Below w.heap.size w W) := by rw [← HW.out]; exact ((Below.refl _ w).alloc (Nat.le_refl _) _).alloc (by simp) _
  clear hG
  by_cases hl0 : l = 0
  · have HE : Hid (grownB l d hl hd zs = true) := by show _ = _; unfold grownB; rw [decide_eq_true hl0]; rfl
    have hz : (l == 0) = true := by rw [hl0]; rfl
    rw [HE.out]
    clear hl0
    go_enter Tryd.func48, Tryd.ntmps48
    go_wp2_with fail
    rw [HW.out]
    go_ret
    exact ⟨rfl, HB.out⟩
  · have HE : Hid (grownB l d hl hd zs = growOkB l d hl hd zs) := by show _ = _; unfold grownB; rw [decide_eq_false hl0]; rfl
    have hz : (l == 0) = false := beq_eq_false_iff_ne.2 hl0
    obtain ⟨Q, HQ⟩ : ∃ Q, Hid (growOkB l d hl hd zs = Q) := ⟨_, rfl⟩
    rw [HE.out, HQ.out]
    rw [HQ.out] at CG
    go_enter Tryd.func48, Tryd.ntmps48
    go_wp2_with fail
    rw [HW.out]
    refine (CG.out _ HB.out).mono ?_
    rintro e w1 ⟨rfl, hb1⟩
    have HB1 : Hid (Below w.heap.size w w1) := HB.out.trans (hb1.mono HB.out.size)
    clear hb1
    go_wp2
    go_ret
    exact ⟨rfl, HB1.out⟩

theorem noS_snoc (k : Nat) : noS k ++ [ByteArray.empty] = noS (k + 1) := by unfold noS; exact List.replicate_succ'.symm
theorem noB_snoc (k : Nat) : noB k ++ [false] = noB (k + 1) := by unfold noB; exact List.replicate_succ'.symm

set_option maxHeartbeats 8000000 in
set_option maxRecDepth 100000 in
theorem sfeedHead_any (p l d s : Int) (A1 : Option Addr) (c1 : Nat) (A2 : Option Addr) (c2 : Nat) (bs : List ByteArray) (hs : List Bool) (hl hd ht : Int) (X : Option Addr) (cz : Nat) (zs : List Int) (w : World) (hG : GrowthAt w X cz zs) (hF : FeedAt w w.heap.size A1 A2 bs hs) (hn1 : A1 = none → c1 = 0) (hn2 : A2 = none → c2 = 0) :
    Calls Tryd.prog 13 #[feedV p l d s A1 bs.length c1 A2 hs.length c2, headV hl hd ht, .slice X zs.length cz] w (HeadRet w (headF ⟨p, l, d, s, bs, hs⟩ hl hd ht zs) (codeZ ⟨p, l, d, s, bs, hs⟩ hl hd ht zs)) := by
  have HG := Lib.hid hG
  have HF := Lib.hid hF
  have HFIT := Lib.hid hF.fit
  obtain ⟨C, HC⟩ : ∃ C, Hid (codeZ ⟨p, l, d, s, bs, hs⟩ hl hd ht zs = C) := ⟨_, rfl⟩
  have CV : Hid (∀ U, Below w.heap.size w U → Calls Tryd.prog 46 #[feedV p l d s A1 bs.length c1 A2 hs.length c2] U fun e w' => e = .returned (.bool (okB ⟨p, l, d, s, bs, hs⟩)) ∧ Below U.heap.size U w') := fun U hU => sfeedValid_any p l d s A1 c1 A2 c2 bs hs U (HF.out.belowS hU)
  have CC : Hid (bs.length ≤ 1048576 → hs.length ≤ 1048576 → ∀ U, Below w.heap.size w U → Calls Tryd.prog 47 #[feedV p l d s A1 bs.length c1 A2 hs.length c2] U (FeedMade U p l d s bs hs)) := fun q1 q2 U hU => copyFeed_any p l d s A1 c1 A2 c2 bs hs U (HF.out.belowS hU) hn1 hn2 q1 q2
  have CK : Hid (∀ U, Calls Tryd.prog 19 #[.int .i64 p, .agg #[.int .i64 hl, .int .i64 hd, .int .i64 ht]] U fun e w' => e = .returned (.bool (signedB p hl hd ht)) ∧ Below U.heap.size U w') := scheck_any p hl hd ht
  have CG : Hid (∀ U, Below w.heap.size w U → Calls Tryd.prog 48 #[feedV p l d s A1 bs.length c1 A2 hs.length c2, headV hl hd ht, .slice X zs.length cz] U fun e w' => e = .returned (.bool (grownB l d hl hd zs)) ∧ Below U.heap.size U w') := fun U hU => grown_any p l d s A1 c1 A2 c2 bs hs hl hd ht X cz zs U (HG.out.below hU)
  rw [HC.out]
  obtain ⟨nb, HNB⟩ : ∃ n, Hid (bs.length = n) := ⟨_, rfl⟩
  obtain ⟨nh, HNH⟩ : ∃ n, Hid (hs.length = n) := ⟨_, rfl⟩
  obtain ⟨nz, HNZ⟩ : ∃ n, Hid (zs.length = n) := ⟨_, rfl⟩
  rw [HNB.out, HNH.out] at CV CC
  rw [HNB.out, HNH.out, HNZ.out] at CG
  rw [HNB.out, HNH.out, HNZ.out]
  obtain ⟨W, HW⟩ : ∃ W, Hid (((w.alloc (.cells (feedC p l d s A1 nb c1 A2 nh c2) 28)).alloc (.cells #[.int .i64 hl, .int .i64 hd, .int .i64 ht] 24)).alloc (.cells (feedC 0 0 0 0 none 0 0 none 0 0) 28) = W) := ⟨_, rfl⟩
  have KF : Hid (Blk W w.heap.size 28 (feedC p l d s A1 nb c1 A2 nh c2)) := by rw [← HW.out]; exact ((Blk.new w _ _).alloc _).alloc _
  have KH : Hid (Blk W (w.heap.size + 1) 24 #[.int .i64 hl, .int .i64 hd, .int .i64 ht]) := by
    rw [← HW.out]
    have h := (Blk.new (w.alloc (.cells (feedC p l d s A1 nb c1 A2 nh c2) 28)) 24 #[.int .i64 hl, .int .i64 hd, .int .i64 ht]).alloc (.cells (feedC 0 0 0 0 none 0 0 none 0 0) 28)
    rw [World.size_alloc] at h
    exact h
  have KZ : Hid (Blk W (w.heap.size + 1 + 1) 28 (feedC 0 0 0 0 none 0 0 none 0 0)) := by
    rw [← HW.out]
    have h := Blk.new ((w.alloc (.cells (feedC p l d s A1 nb c1 A2 nh c2) 28)).alloc (.cells #[.int .i64 hl, .int .i64 hd, .int .i64 ht] 24)) 28 (feedC 0 0 0 0 none 0 0 none 0 0)
    rw [World.size_alloc, World.size_alloc] at h
    exact h
  have HB : Hid (Below w.heap.size w W) := by rw [← HW.out]; exact (((Below.refl _ w).alloc (Nat.le_refl _) _).alloc (by simp) _).alloc (by simp; omega) _
  clear hG hF hn1 hn2
  cases hO : okB ⟨p, l, d, s, bs, hs⟩ with
  | false =>
    have hC : C = 5 := by rw [← HC.out]; exact code5 hO
    have HFZ : Hid (headF ⟨p, l, d, s, bs, hs⟩ hl hd ht zs = zeroF) := headF_5 (by rw [HC.out]; exact hC)
    rw [hO] at CV
    subst hC
    clear hO CC CG
    go_enter Tryd.func13, Tryd.ntmps13
    go_wp2_with fail
    rw [HW.out]
    refine (CV.out _ HB.out).mono ?_
    rintro e w1 ⟨rfl, hb1⟩
    have KF1 := Lib.hid (KF.out.below hb1 KF.out.lt)
    have KH1 := Lib.hid (KH.out.below hb1 KH.out.lt)
    have KZ1 := Lib.hid (KZ.out.below hb1 KZ.out.lt)
    have HB1 : Hid (Below w.heap.size w w1) := HB.out.trans (hb1.mono HB.out.size)
    clear hb1
    obtain ⟨r0, r1, r2, r3, r4, r5⟩ := feed_cells KZ1.out
    have rf := blk_frozen KZ1.out
    go_wp2
    obtain ⟨Y, HY⟩ : ∃ Y, Hid (((((((w1.setCell ⟨w.heap.size + 1 + 1, 0, none⟩ (.int .i64 0)).setCell ⟨w.heap.size + 1 + 1, 1, none⟩ (.int .i64 0)).setCell ⟨w.heap.size + 1 + 1, 2, none⟩ (.int .i64 0)).setCell ⟨w.heap.size + 1 + 1, 3, none⟩ (.int .i64 0)).setCell ⟨w.heap.size + 1 + 1, 4, none⟩ (.slice none 0 0)).setCell ⟨w.heap.size + 1 + 1, 5, none⟩ (.slice none 0 0)) = Y) := ⟨_, rfl⟩
    have HBY : Hid (Below w.heap.size w Y) := by rw [← HY.out]; exact below_six HB1.out (by omega) _ _ _ _ _ _
    have KRY : Hid (Blk Y (w.heap.size + 1 + 1) 28 (feedC 0 0 0 0 none 0 0 none 0 0)) := by rw [← HY.out]; exact blk_six KZ1.out _ _ _ _ _ _
    have hoF := own_zero Y w.heap.size
    rw [HY.out]
    obtain ⟨y0, y1, y2, y3, y4, y5⟩ := feed_cells KRY.out
    exact bodyPost_ret (v := .tuple #[feedV 0 0 0 0 none 0 0 none 0 0, .int .i64 5]) (by simp [results, Tryd.results13, go_sem, y0, y1, y2, y3, y4, y5]) rfl (⟨none, 0, none, 0, by rw [HFZ.out]; rfl, by rw [HFZ.out]; exact hoF, HBY.out⟩)
  | true =>
    have hok := (okB_iff _).1 hO
    have hlen := hok.len
    simp only at hlen
    have hl0 : 0 ≤ l := hok.2.1.len.1
    have hbl : (nb : Int) = l := by have h := hok.2.2.1.1; simp only at h; rw [HNB.out] at h; exact h
    have hhl : nh = nb := by have h := hlen.2; rw [HNB.out, HNH.out] at h; exact h
    have hn16 : nb ≤ 16 := by have h := hlen.1; rw [HNB.out] at h; exact h
    have CC2 := Lib.hid (CC.out (by omega) (by omega))
    have hcs := code_cases ⟨p, l, d, s, bs, hs⟩ hl hd ht zs
    rw [HC.out] at hcs
    rw [hO] at CV
    have HBL := Lib.hid hbl
    have HHL := Lib.hid hhl
    have HN16 := Lib.hid hn16
    clear hlen CC hok hbl hhl hn16
    rcases hcs with k | ⟨-, k, hC⟩ | ⟨-, hu, hln, e1, e2, e3, hC⟩ | ⟨-, hu, hln, hlt, hC⟩ | ⟨-, hu, hln, e1, hne, hC⟩ | ⟨-, hu, hln, hlt, hp0, hg, hC⟩ | ⟨-, hu, hln, hlt, hg, hC⟩
    · exact absurd hO (by rw [k.1]; decide)
    · subst hC
      have HFN : Hid (headF ⟨p, l, d, s, bs, hs⟩ hl hd ht zs = ⟨p, l, d, s, bs, hs⟩) := headF_same (by rw [HC.out]; decide) (by rw [HC.out]; decide)
      cases hu : signedB p hl hd ht with
      | false =>
        rw [hu] at CK
        clear k hu hO CG
        go_enter Tryd.func13, Tryd.ntmps13
        go_wp2_with fail
        rw [HW.out]
        refine (CV.out _ HB.out).mono ?_
        rintro e w1 ⟨rfl, hb1⟩
        have KF1 := Lib.hid (KF.out.below hb1 KF.out.lt)
        have KH1 := Lib.hid (KH.out.below hb1 KH.out.lt)
        have KZ1 := Lib.hid (KZ.out.below hb1 KZ.out.lt)
        have HB1 : Hid (Below w.heap.size w w1) := HB.out.trans (hb1.mono HB.out.size)
        clear hb1
        obtain ⟨k0, k1, k2, k3, k4, k5⟩ := feed_cells KF1.out
        go_wp2_with fail
        refine (CC2.out _ HB1.out).mono ?_
        rintro e w2 ⟨X1, e1, X2, e2, rfl, ho2, hb2⟩
        rw [HNB.out, HNH.out]
        obtain ⟨V, HV⟩ : ∃ V, Hid (w2.alloc (.cells (feedC p l d s X1 nb e1 X2 nh e2) 28) = V) := ⟨_, rfl⟩
        have KF2 := Lib.hid ((KF1.out.below hb2 KF1.out.lt).alloc (.cells (feedC p l d s X1 nb e1 X2 nh e2) 28))
        have KH2 := Lib.hid ((KH1.out.below hb2 KH1.out.lt).alloc (.cells (feedC p l d s X1 nb e1 X2 nh e2) 28))
        have KZ2 := Lib.hid ((KZ1.out.below hb2 KZ1.out.lt).alloc (.cells (feedC p l d s X1 nb e1 X2 nh e2) 28))
        have KX2 := Lib.hid (Blk.new w2 28 (feedC p l d s X1 nb e1 X2 nh e2))
        have hz12 : w1.heap.size ≤ w2.heap.size := hb2.size
        have hzZ : w.heap.size + 1 + 1 < w1.heap.size := KZ1.out.lt
        have HB2 : Hid (Below w.heap.size w (w2.alloc (.cells (feedC p l d s X1 nb e1 X2 nh e2) 28))) := (HB1.out.trans (hb2.mono HB1.out.size)).alloc (by omega) _
        have HO2 : Hid (OwnFeed (w2.alloc (.cells (feedC p l d s X1 nb e1 X2 nh e2) 28)) (w.heap.size + 1 + 1 + 1) X1 e1 X2 e2 bs hs) := (ho2.alloc _).base_le (by omega)
        rw [HV.out] at KF2 KH2 KZ2 KX2 HB2 HO2
        clear hb2 ho2 k0 k1 k2 k3 k4 k5
        obtain ⟨k0, k1, k2, k3, k4, k5⟩ := feed_cells KF2.out
        have h0 : V.cell? ⟨w.heap.size + 1, 0, none⟩ = some (.int .i64 hl) := KH2.out.cell 0
        have h1 : V.cell? ⟨w.heap.size + 1, 1, none⟩ = some (.int .i64 hd) := KH2.out.cell 1
        have h2 : V.cell? ⟨w.heap.size + 1, 2, none⟩ = some (.int .i64 ht) := KH2.out.cell 2
        go_upto_region 4 with fail
        rw [HV.out]
        go_wp2_with fail
        refine (CK.out _).mono ?_
        rintro e w3 ⟨rfl, hb3⟩
        have KF3 := Lib.hid (KF2.out.below hb3 KF2.out.lt)
        have KH3 := Lib.hid (KH2.out.below hb3 KH2.out.lt)
        have KZ3 := Lib.hid (KZ2.out.below hb3 KZ2.out.lt)
        have KX3 := Lib.hid (KX2.out.below hb3 KX2.out.lt)
        have HO3 := Lib.hid (HO2.out.below hb3)
        have HB3 : Hid (Below w.heap.size w w3) := HB2.out.trans (hb3.mono HB2.out.size)
        have hz3 : w2.heap.size < w3.heap.size := KX3.out.lt
        clear hb3 k0 k1 k2 k3 k4 k5 h0 h1 h2
        obtain ⟨k0, k1, k2, k3, k4, k5⟩ := feed_cells KF3.out
        obtain ⟨x0, x1, x2, x3, x4, x5⟩ := feed_cells KX3.out
        have h0 : w3.cell? ⟨w.heap.size + 1, 0, none⟩ = some (.int .i64 hl) := KH3.out.cell 0
        have h1 : w3.cell? ⟨w.heap.size + 1, 1, none⟩ = some (.int .i64 hd) := KH3.out.cell 1
        have h2 : w3.cell? ⟨w.heap.size + 1, 2, none⟩ = some (.int .i64 ht) := KH3.out.cell 2
        obtain ⟨r0, r1, r2, r3, r4, r5⟩ := feed_cells KZ3.out
        have rf := blk_frozen KZ3.out
        go_wp2
        obtain ⟨Y, HY⟩ : ∃ Y, Hid (((((((w3.setCell ⟨w.heap.size + 1 + 1, 0, none⟩ (.int .i64 p)).setCell ⟨w.heap.size + 1 + 1, 1, none⟩ (.int .i64 l)).setCell ⟨w.heap.size + 1 + 1, 2, none⟩ (.int .i64 d)).setCell ⟨w.heap.size + 1 + 1, 3, none⟩ (.int .i64 s)).setCell ⟨w.heap.size + 1 + 1, 4, none⟩ (.slice X1 nb e1)).setCell ⟨w.heap.size + 1 + 1, 5, none⟩ (.slice X2 nh e2)) = Y) := ⟨_, rfl⟩
        have HBY : Hid (Below w.heap.size w Y) := by rw [← HY.out]; exact below_six HB3.out (by omega) _ _ _ _ _ _
        have KRY : Hid (Blk Y (w.heap.size + 1 + 1) 28 (feedC p l d s X1 nb e1 X2 nh e2)) := by rw [← HY.out]; exact blk_six KZ3.out _ _ _ _ _ _
        have hoF : OwnFeed Y w.heap.size X1 e1 X2 e2 bs hs := by rw [← HY.out]; exact (own_six HO3.out KZ3.out _ _ _ _ _ _).base_le (by omega)
        rw [HY.out]
        obtain ⟨y0, y1, y2, y3, y4, y5⟩ := feed_cells KRY.out
        exact bodyPost_ret (v := .tuple #[feedV p l d s X1 nb e1 X2 nh e2, .int .i64 4]) (by simp [results, Tryd.results13, go_sem, y0, y1, y2, y3, y4, y5]) rfl (⟨X1, e1, X2, e2, by rw [HFN.out]; show _ = Ending.returned (.tuple #[feedV p l d s X1 bs.length e1 X2 hs.length e2, .int .i64 4]); rw [HNB.out, HNH.out], by rw [HFN.out]; exact hoF, HBY.out⟩)
      | true =>
        rw [hu] at CK
        have hz : hl = 0 := by
          rcases k with k | k
          · have : signedB p hl hd ht = false := k
            rw [hu] at this; cases this
          · exact k
        have hl1 : (hl == 0) = true := by rw [hz]; rfl
        clear k hu hz hO CG
        go_enter Tryd.func13, Tryd.ntmps13
        go_wp2_with fail
        rw [HW.out]
        refine (CV.out _ HB.out).mono ?_
        rintro e w1 ⟨rfl, hb1⟩
        have KF1 := Lib.hid (KF.out.below hb1 KF.out.lt)
        have KH1 := Lib.hid (KH.out.below hb1 KH.out.lt)
        have KZ1 := Lib.hid (KZ.out.below hb1 KZ.out.lt)
        have HB1 : Hid (Below w.heap.size w w1) := HB.out.trans (hb1.mono HB.out.size)
        clear hb1
        obtain ⟨k0, k1, k2, k3, k4, k5⟩ := feed_cells KF1.out
        go_wp2_with fail
        refine (CC2.out _ HB1.out).mono ?_
        rintro e w2 ⟨X1, e1, X2, e2, rfl, ho2, hb2⟩
        rw [HNB.out, HNH.out]
        obtain ⟨V, HV⟩ : ∃ V, Hid (w2.alloc (.cells (feedC p l d s X1 nb e1 X2 nh e2) 28) = V) := ⟨_, rfl⟩
        have KF2 := Lib.hid ((KF1.out.below hb2 KF1.out.lt).alloc (.cells (feedC p l d s X1 nb e1 X2 nh e2) 28))
        have KH2 := Lib.hid ((KH1.out.below hb2 KH1.out.lt).alloc (.cells (feedC p l d s X1 nb e1 X2 nh e2) 28))
        have KZ2 := Lib.hid ((KZ1.out.below hb2 KZ1.out.lt).alloc (.cells (feedC p l d s X1 nb e1 X2 nh e2) 28))
        have KX2 := Lib.hid (Blk.new w2 28 (feedC p l d s X1 nb e1 X2 nh e2))
        have hz12 : w1.heap.size ≤ w2.heap.size := hb2.size
        have hzZ : w.heap.size + 1 + 1 < w1.heap.size := KZ1.out.lt
        have HB2 : Hid (Below w.heap.size w (w2.alloc (.cells (feedC p l d s X1 nb e1 X2 nh e2) 28))) := (HB1.out.trans (hb2.mono HB1.out.size)).alloc (by omega) _
        have HO2 : Hid (OwnFeed (w2.alloc (.cells (feedC p l d s X1 nb e1 X2 nh e2) 28)) (w.heap.size + 1 + 1 + 1) X1 e1 X2 e2 bs hs) := (ho2.alloc _).base_le (by omega)
        rw [HV.out] at KF2 KH2 KZ2 KX2 HB2 HO2
        clear hb2 ho2 k0 k1 k2 k3 k4 k5
        obtain ⟨k0, k1, k2, k3, k4, k5⟩ := feed_cells KF2.out
        have h0 : V.cell? ⟨w.heap.size + 1, 0, none⟩ = some (.int .i64 hl) := KH2.out.cell 0
        have h1 : V.cell? ⟨w.heap.size + 1, 1, none⟩ = some (.int .i64 hd) := KH2.out.cell 1
        have h2 : V.cell? ⟨w.heap.size + 1, 2, none⟩ = some (.int .i64 ht) := KH2.out.cell 2
        go_upto_region 4 with fail
        rw [HV.out]
        go_wp2_with fail
        refine (CK.out _).mono ?_
        rintro e w3 ⟨rfl, hb3⟩
        have KF3 := Lib.hid (KF2.out.below hb3 KF2.out.lt)
        have KH3 := Lib.hid (KH2.out.below hb3 KH2.out.lt)
        have KZ3 := Lib.hid (KZ2.out.below hb3 KZ2.out.lt)
        have KX3 := Lib.hid (KX2.out.below hb3 KX2.out.lt)
        have HO3 := Lib.hid (HO2.out.below hb3)
        have HB3 : Hid (Below w.heap.size w w3) := HB2.out.trans (hb3.mono HB2.out.size)
        have hz3 : w2.heap.size < w3.heap.size := KX3.out.lt
        clear hb3 k0 k1 k2 k3 k4 k5 h0 h1 h2
        obtain ⟨k0, k1, k2, k3, k4, k5⟩ := feed_cells KF3.out
        obtain ⟨x0, x1, x2, x3, x4, x5⟩ := feed_cells KX3.out
        have h0 : w3.cell? ⟨w.heap.size + 1, 0, none⟩ = some (.int .i64 hl) := KH3.out.cell 0
        have h1 : w3.cell? ⟨w.heap.size + 1, 1, none⟩ = some (.int .i64 hd) := KH3.out.cell 1
        have h2 : w3.cell? ⟨w.heap.size + 1, 2, none⟩ = some (.int .i64 ht) := KH3.out.cell 2
        obtain ⟨r0, r1, r2, r3, r4, r5⟩ := feed_cells KZ3.out
        have rf := blk_frozen KZ3.out
        go_wp2
        obtain ⟨Y, HY⟩ : ∃ Y, Hid (((((((w3.setCell ⟨w.heap.size + 1 + 1, 0, none⟩ (.int .i64 p)).setCell ⟨w.heap.size + 1 + 1, 1, none⟩ (.int .i64 l)).setCell ⟨w.heap.size + 1 + 1, 2, none⟩ (.int .i64 d)).setCell ⟨w.heap.size + 1 + 1, 3, none⟩ (.int .i64 s)).setCell ⟨w.heap.size + 1 + 1, 4, none⟩ (.slice X1 nb e1)).setCell ⟨w.heap.size + 1 + 1, 5, none⟩ (.slice X2 nh e2)) = Y) := ⟨_, rfl⟩
        have HBY : Hid (Below w.heap.size w Y) := by rw [← HY.out]; exact below_six HB3.out (by omega) _ _ _ _ _ _
        have KRY : Hid (Blk Y (w.heap.size + 1 + 1) 28 (feedC p l d s X1 nb e1 X2 nh e2)) := by rw [← HY.out]; exact blk_six KZ3.out _ _ _ _ _ _
        have hoF : OwnFeed Y w.heap.size X1 e1 X2 e2 bs hs := by rw [← HY.out]; exact (own_six HO3.out KZ3.out _ _ _ _ _ _).base_le (by omega)
        rw [HY.out]
        obtain ⟨y0, y1, y2, y3, y4, y5⟩ := feed_cells KRY.out
        exact bodyPost_ret (v := .tuple #[feedV p l d s X1 nb e1 X2 nh e2, .int .i64 4]) (by simp [results, Tryd.results13, go_sem, y0, y1, y2, y3, y4, y5]) rfl (⟨X1, e1, X2, e2, by rw [HFN.out]; show _ = Ending.returned (.tuple #[feedV p l d s X1 bs.length e1 X2 hs.length e2, .int .i64 4]); rw [HNB.out, HNH.out], by rw [HFN.out]; exact hoF, HBY.out⟩)
    · subst hC
      have HFN : Hid (headF ⟨p, l, d, s, bs, hs⟩ hl hd ht zs = ⟨p, l, d, s, bs, hs⟩) := headF_same (by rw [HC.out]; decide) (by rw [HC.out]; decide)
      have e1' : (hl == l) = true := by rw [show hl = l from e1]; exact beq_self_eq_true l
      have e2' : (hd == d) = true := by rw [show hd = d from e2]; exact beq_self_eq_true d
      have e3' : (ht == s) = true := by rw [show ht = s from e3]; exact beq_self_eq_true s
      have hu' : signedB p hl hd ht = true := hu
      rw [hu'] at CK
      have hl1 : (hl == 0) = false := beq_eq_false_iff_ne.2 hln
      clear hu hu' e1 e2 e3 hO CG
      go_enter Tryd.func13, Tryd.ntmps13
      go_wp2_with fail
      rw [HW.out]
      refine (CV.out _ HB.out).mono ?_
      rintro e w1 ⟨rfl, hb1⟩
      have KF1 := Lib.hid (KF.out.below hb1 KF.out.lt)
      have KH1 := Lib.hid (KH.out.below hb1 KH.out.lt)
      have KZ1 := Lib.hid (KZ.out.below hb1 KZ.out.lt)
      have HB1 : Hid (Below w.heap.size w w1) := HB.out.trans (hb1.mono HB.out.size)
      clear hb1
      obtain ⟨k0, k1, k2, k3, k4, k5⟩ := feed_cells KF1.out
      go_wp2_with fail
      refine (CC2.out _ HB1.out).mono ?_
      rintro e w2 ⟨X1, e1, X2, e2, rfl, ho2, hb2⟩
      rw [HNB.out, HNH.out]
      obtain ⟨V, HV⟩ : ∃ V, Hid (w2.alloc (.cells (feedC p l d s X1 nb e1 X2 nh e2) 28) = V) := ⟨_, rfl⟩
      have KF2 := Lib.hid ((KF1.out.below hb2 KF1.out.lt).alloc (.cells (feedC p l d s X1 nb e1 X2 nh e2) 28))
      have KH2 := Lib.hid ((KH1.out.below hb2 KH1.out.lt).alloc (.cells (feedC p l d s X1 nb e1 X2 nh e2) 28))
      have KZ2 := Lib.hid ((KZ1.out.below hb2 KZ1.out.lt).alloc (.cells (feedC p l d s X1 nb e1 X2 nh e2) 28))
      have KX2 := Lib.hid (Blk.new w2 28 (feedC p l d s X1 nb e1 X2 nh e2))
      have hz12 : w1.heap.size ≤ w2.heap.size := hb2.size
      have hzZ : w.heap.size + 1 + 1 < w1.heap.size := KZ1.out.lt
      have HB2 : Hid (Below w.heap.size w (w2.alloc (.cells (feedC p l d s X1 nb e1 X2 nh e2) 28))) := (HB1.out.trans (hb2.mono HB1.out.size)).alloc (by omega) _
      have HO2 : Hid (OwnFeed (w2.alloc (.cells (feedC p l d s X1 nb e1 X2 nh e2) 28)) (w.heap.size + 1 + 1 + 1) X1 e1 X2 e2 bs hs) := (ho2.alloc _).base_le (by omega)
      rw [HV.out] at KF2 KH2 KZ2 KX2 HB2 HO2
      clear hb2 ho2 k0 k1 k2 k3 k4 k5
      obtain ⟨k0, k1, k2, k3, k4, k5⟩ := feed_cells KF2.out
      have h0 : V.cell? ⟨w.heap.size + 1, 0, none⟩ = some (.int .i64 hl) := KH2.out.cell 0
      have h1 : V.cell? ⟨w.heap.size + 1, 1, none⟩ = some (.int .i64 hd) := KH2.out.cell 1
      have h2 : V.cell? ⟨w.heap.size + 1, 2, none⟩ = some (.int .i64 ht) := KH2.out.cell 2
      go_upto_region 4 with fail
      rw [HV.out]
      go_wp2_with fail
      refine (CK.out _).mono ?_
      rintro e w3 ⟨rfl, hb3⟩
      have KF3 := Lib.hid (KF2.out.below hb3 KF2.out.lt)
      have KH3 := Lib.hid (KH2.out.below hb3 KH2.out.lt)
      have KZ3 := Lib.hid (KZ2.out.below hb3 KZ2.out.lt)
      have KX3 := Lib.hid (KX2.out.below hb3 KX2.out.lt)
      have HO3 := Lib.hid (HO2.out.below hb3)
      have HB3 : Hid (Below w.heap.size w w3) := HB2.out.trans (hb3.mono HB2.out.size)
      have hz3 : w2.heap.size < w3.heap.size := KX3.out.lt
      clear hb3 k0 k1 k2 k3 k4 k5 h0 h1 h2
      obtain ⟨k0, k1, k2, k3, k4, k5⟩ := feed_cells KF3.out
      obtain ⟨x0, x1, x2, x3, x4, x5⟩ := feed_cells KX3.out
      have h0 : w3.cell? ⟨w.heap.size + 1, 0, none⟩ = some (.int .i64 hl) := KH3.out.cell 0
      have h1 : w3.cell? ⟨w.heap.size + 1, 1, none⟩ = some (.int .i64 hd) := KH3.out.cell 1
      have h2 : w3.cell? ⟨w.heap.size + 1, 2, none⟩ = some (.int .i64 ht) := KH3.out.cell 2
      obtain ⟨r0, r1, r2, r3, r4, r5⟩ := feed_cells KZ3.out
      have rf := blk_frozen KZ3.out
      go_wp2
      obtain ⟨Y, HY⟩ : ∃ Y, Hid (((((((w3.setCell ⟨w.heap.size + 1 + 1, 0, none⟩ (.int .i64 p)).setCell ⟨w.heap.size + 1 + 1, 1, none⟩ (.int .i64 l)).setCell ⟨w.heap.size + 1 + 1, 2, none⟩ (.int .i64 d)).setCell ⟨w.heap.size + 1 + 1, 3, none⟩ (.int .i64 s)).setCell ⟨w.heap.size + 1 + 1, 4, none⟩ (.slice X1 nb e1)).setCell ⟨w.heap.size + 1 + 1, 5, none⟩ (.slice X2 nh e2)) = Y) := ⟨_, rfl⟩
      have HBY : Hid (Below w.heap.size w Y) := by rw [← HY.out]; exact below_six HB3.out (by omega) _ _ _ _ _ _
      have KRY : Hid (Blk Y (w.heap.size + 1 + 1) 28 (feedC p l d s X1 nb e1 X2 nh e2)) := by rw [← HY.out]; exact blk_six KZ3.out _ _ _ _ _ _
      have hoF : OwnFeed Y w.heap.size X1 e1 X2 e2 bs hs := by rw [← HY.out]; exact (own_six HO3.out KZ3.out _ _ _ _ _ _).base_le (by omega)
      rw [HY.out]
      obtain ⟨y0, y1, y2, y3, y4, y5⟩ := feed_cells KRY.out
      exact bodyPost_ret (v := .tuple #[feedV p l d s X1 nb e1 X2 nh e2, .int .i64 1]) (by simp [results, Tryd.results13, go_sem, y0, y1, y2, y3, y4, y5]) rfl (⟨X1, e1, X2, e2, by rw [HFN.out]; show _ = Ending.returned (.tuple #[feedV p l d s X1 bs.length e1 X2 hs.length e2, .int .i64 1]); rw [HNB.out, HNH.out], by rw [HFN.out]; exact hoF, HBY.out⟩)
    · subst hC
      have HFN : Hid (headF ⟨p, l, d, s, bs, hs⟩ hl hd ht zs = ⟨p, l, d, s, bs, hs⟩) := headF_same (by rw [HC.out]; decide) (by rw [HC.out]; decide)
      have hlt' : hl < l := hlt
      have hu' : signedB p hl hd ht = true := hu
      rw [hu'] at CK
      have hl1 : (hl == 0) = false := beq_eq_false_iff_ne.2 hln
      have hl2 : (hl == l) = false := beq_eq_false_iff_ne.2 (by omega)
      clear hu hu' hlt hO CG
      go_enter Tryd.func13, Tryd.ntmps13
      go_wp2_with fail
      rw [HW.out]
      refine (CV.out _ HB.out).mono ?_
      rintro e w1 ⟨rfl, hb1⟩
      have KF1 := Lib.hid (KF.out.below hb1 KF.out.lt)
      have KH1 := Lib.hid (KH.out.below hb1 KH.out.lt)
      have KZ1 := Lib.hid (KZ.out.below hb1 KZ.out.lt)
      have HB1 : Hid (Below w.heap.size w w1) := HB.out.trans (hb1.mono HB.out.size)
      clear hb1
      obtain ⟨k0, k1, k2, k3, k4, k5⟩ := feed_cells KF1.out
      go_wp2_with fail
      refine (CC2.out _ HB1.out).mono ?_
      rintro e w2 ⟨X1, e1, X2, e2, rfl, ho2, hb2⟩
      rw [HNB.out, HNH.out]
      obtain ⟨V, HV⟩ : ∃ V, Hid (w2.alloc (.cells (feedC p l d s X1 nb e1 X2 nh e2) 28) = V) := ⟨_, rfl⟩
      have KF2 := Lib.hid ((KF1.out.below hb2 KF1.out.lt).alloc (.cells (feedC p l d s X1 nb e1 X2 nh e2) 28))
      have KH2 := Lib.hid ((KH1.out.below hb2 KH1.out.lt).alloc (.cells (feedC p l d s X1 nb e1 X2 nh e2) 28))
      have KZ2 := Lib.hid ((KZ1.out.below hb2 KZ1.out.lt).alloc (.cells (feedC p l d s X1 nb e1 X2 nh e2) 28))
      have KX2 := Lib.hid (Blk.new w2 28 (feedC p l d s X1 nb e1 X2 nh e2))
      have hz12 : w1.heap.size ≤ w2.heap.size := hb2.size
      have hzZ : w.heap.size + 1 + 1 < w1.heap.size := KZ1.out.lt
      have HB2 : Hid (Below w.heap.size w (w2.alloc (.cells (feedC p l d s X1 nb e1 X2 nh e2) 28))) := (HB1.out.trans (hb2.mono HB1.out.size)).alloc (by omega) _
      have HO2 : Hid (OwnFeed (w2.alloc (.cells (feedC p l d s X1 nb e1 X2 nh e2) 28)) (w.heap.size + 1 + 1 + 1) X1 e1 X2 e2 bs hs) := (ho2.alloc _).base_le (by omega)
      rw [HV.out] at KF2 KH2 KZ2 KX2 HB2 HO2
      clear hb2 ho2 k0 k1 k2 k3 k4 k5
      obtain ⟨k0, k1, k2, k3, k4, k5⟩ := feed_cells KF2.out
      have h0 : V.cell? ⟨w.heap.size + 1, 0, none⟩ = some (.int .i64 hl) := KH2.out.cell 0
      have h1 : V.cell? ⟨w.heap.size + 1, 1, none⟩ = some (.int .i64 hd) := KH2.out.cell 1
      have h2 : V.cell? ⟨w.heap.size + 1, 2, none⟩ = some (.int .i64 ht) := KH2.out.cell 2
      go_upto_region 4 with fail
      rw [HV.out]
      go_wp2_with fail
      refine (CK.out _).mono ?_
      rintro e w3 ⟨rfl, hb3⟩
      have KF3 := Lib.hid (KF2.out.below hb3 KF2.out.lt)
      have KH3 := Lib.hid (KH2.out.below hb3 KH2.out.lt)
      have KZ3 := Lib.hid (KZ2.out.below hb3 KZ2.out.lt)
      have KX3 := Lib.hid (KX2.out.below hb3 KX2.out.lt)
      have HO3 := Lib.hid (HO2.out.below hb3)
      have HB3 : Hid (Below w.heap.size w w3) := HB2.out.trans (hb3.mono HB2.out.size)
      have hz3 : w2.heap.size < w3.heap.size := KX3.out.lt
      clear hb3 k0 k1 k2 k3 k4 k5 h0 h1 h2
      obtain ⟨k0, k1, k2, k3, k4, k5⟩ := feed_cells KF3.out
      obtain ⟨x0, x1, x2, x3, x4, x5⟩ := feed_cells KX3.out
      have h0 : w3.cell? ⟨w.heap.size + 1, 0, none⟩ = some (.int .i64 hl) := KH3.out.cell 0
      have h1 : w3.cell? ⟨w.heap.size + 1, 1, none⟩ = some (.int .i64 hd) := KH3.out.cell 1
      have h2 : w3.cell? ⟨w.heap.size + 1, 2, none⟩ = some (.int .i64 ht) := KH3.out.cell 2
      obtain ⟨r0, r1, r2, r3, r4, r5⟩ := feed_cells KZ3.out
      have rf := blk_frozen KZ3.out
      go_wp2
      obtain ⟨Y, HY⟩ : ∃ Y, Hid (((((((w3.setCell ⟨w.heap.size + 1 + 1, 0, none⟩ (.int .i64 p)).setCell ⟨w.heap.size + 1 + 1, 1, none⟩ (.int .i64 l)).setCell ⟨w.heap.size + 1 + 1, 2, none⟩ (.int .i64 d)).setCell ⟨w.heap.size + 1 + 1, 3, none⟩ (.int .i64 s)).setCell ⟨w.heap.size + 1 + 1, 4, none⟩ (.slice X1 nb e1)).setCell ⟨w.heap.size + 1 + 1, 5, none⟩ (.slice X2 nh e2)) = Y) := ⟨_, rfl⟩
      have HBY : Hid (Below w.heap.size w Y) := by rw [← HY.out]; exact below_six HB3.out (by omega) _ _ _ _ _ _
      have KRY : Hid (Blk Y (w.heap.size + 1 + 1) 28 (feedC p l d s X1 nb e1 X2 nh e2)) := by rw [← HY.out]; exact blk_six KZ3.out _ _ _ _ _ _
      have hoF : OwnFeed Y w.heap.size X1 e1 X2 e2 bs hs := by rw [← HY.out]; exact (own_six HO3.out KZ3.out _ _ _ _ _ _).base_le (by omega)
      rw [HY.out]
      obtain ⟨y0, y1, y2, y3, y4, y5⟩ := feed_cells KRY.out
      exact bodyPost_ret (v := .tuple #[feedV p l d s X1 nb e1 X2 nh e2, .int .i64 2]) (by simp [results, Tryd.results13, go_sem, y0, y1, y2, y3, y4, y5]) rfl (⟨X1, e1, X2, e2, by rw [HFN.out]; show _ = Ending.returned (.tuple #[feedV p l d s X1 bs.length e1 X2 hs.length e2, .int .i64 2]); rw [HNB.out, HNH.out], by rw [HFN.out]; exact hoF, HBY.out⟩)
    · subst hC
      have HFN : Hid (headF ⟨p, l, d, s, bs, hs⟩ hl hd ht zs = ⟨p, l, d, s, bs, hs⟩) := headF_same (by rw [HC.out]; decide) (by rw [HC.out]; decide)
      have e1' : (hl == l) = true := by rw [show hl = l from e1]; exact beq_self_eq_true l
      have e1n : ¬ hl < l := by have h : hl = l := e1; omega
      have hne' : ¬ (hd = d ∧ ht = s) := hne
      have hu' : signedB p hl hd ht = true := hu
      rw [hu'] at CK
      have hl1 : (hl == 0) = false := beq_eq_false_iff_ne.2 hln
      clear hu hu' e1 hne hO CG
      by_cases e2 : hd = d
      · have e3 : (ht == s) = false := beq_eq_false_iff_ne.2 fun e => hne' ⟨e2, e⟩
        have e2' : (hd == d) = true := by rw [e2]; exact beq_self_eq_true d
        clear hne' e2
        go_enter Tryd.func13, Tryd.ntmps13
        go_wp2_with fail
        rw [HW.out]
        refine (CV.out _ HB.out).mono ?_
        rintro e w1 ⟨rfl, hb1⟩
        have KF1 := Lib.hid (KF.out.below hb1 KF.out.lt)
        have KH1 := Lib.hid (KH.out.below hb1 KH.out.lt)
        have KZ1 := Lib.hid (KZ.out.below hb1 KZ.out.lt)
        have HB1 : Hid (Below w.heap.size w w1) := HB.out.trans (hb1.mono HB.out.size)
        clear hb1
        obtain ⟨k0, k1, k2, k3, k4, k5⟩ := feed_cells KF1.out
        go_wp2_with fail
        refine (CC2.out _ HB1.out).mono ?_
        rintro e w2 ⟨X1, e1, X2, e2, rfl, ho2, hb2⟩
        rw [HNB.out, HNH.out]
        obtain ⟨V, HV⟩ : ∃ V, Hid (w2.alloc (.cells (feedC p l d s X1 nb e1 X2 nh e2) 28) = V) := ⟨_, rfl⟩
        have KF2 := Lib.hid ((KF1.out.below hb2 KF1.out.lt).alloc (.cells (feedC p l d s X1 nb e1 X2 nh e2) 28))
        have KH2 := Lib.hid ((KH1.out.below hb2 KH1.out.lt).alloc (.cells (feedC p l d s X1 nb e1 X2 nh e2) 28))
        have KZ2 := Lib.hid ((KZ1.out.below hb2 KZ1.out.lt).alloc (.cells (feedC p l d s X1 nb e1 X2 nh e2) 28))
        have KX2 := Lib.hid (Blk.new w2 28 (feedC p l d s X1 nb e1 X2 nh e2))
        have hz12 : w1.heap.size ≤ w2.heap.size := hb2.size
        have hzZ : w.heap.size + 1 + 1 < w1.heap.size := KZ1.out.lt
        have HB2 : Hid (Below w.heap.size w (w2.alloc (.cells (feedC p l d s X1 nb e1 X2 nh e2) 28))) := (HB1.out.trans (hb2.mono HB1.out.size)).alloc (by omega) _
        have HO2 : Hid (OwnFeed (w2.alloc (.cells (feedC p l d s X1 nb e1 X2 nh e2) 28)) (w.heap.size + 1 + 1 + 1) X1 e1 X2 e2 bs hs) := (ho2.alloc _).base_le (by omega)
        rw [HV.out] at KF2 KH2 KZ2 KX2 HB2 HO2
        clear hb2 ho2 k0 k1 k2 k3 k4 k5
        obtain ⟨k0, k1, k2, k3, k4, k5⟩ := feed_cells KF2.out
        have h0 : V.cell? ⟨w.heap.size + 1, 0, none⟩ = some (.int .i64 hl) := KH2.out.cell 0
        have h1 : V.cell? ⟨w.heap.size + 1, 1, none⟩ = some (.int .i64 hd) := KH2.out.cell 1
        have h2 : V.cell? ⟨w.heap.size + 1, 2, none⟩ = some (.int .i64 ht) := KH2.out.cell 2
        go_upto_region 4 with fail
        rw [HV.out]
        go_wp2_with fail
        refine (CK.out _).mono ?_
        rintro e w3 ⟨rfl, hb3⟩
        have KF3 := Lib.hid (KF2.out.below hb3 KF2.out.lt)
        have KH3 := Lib.hid (KH2.out.below hb3 KH2.out.lt)
        have KZ3 := Lib.hid (KZ2.out.below hb3 KZ2.out.lt)
        have KX3 := Lib.hid (KX2.out.below hb3 KX2.out.lt)
        have HO3 := Lib.hid (HO2.out.below hb3)
        have HB3 : Hid (Below w.heap.size w w3) := HB2.out.trans (hb3.mono HB2.out.size)
        have hz3 : w2.heap.size < w3.heap.size := KX3.out.lt
        clear hb3 k0 k1 k2 k3 k4 k5 h0 h1 h2
        obtain ⟨k0, k1, k2, k3, k4, k5⟩ := feed_cells KF3.out
        obtain ⟨x0, x1, x2, x3, x4, x5⟩ := feed_cells KX3.out
        have h0 : w3.cell? ⟨w.heap.size + 1, 0, none⟩ = some (.int .i64 hl) := KH3.out.cell 0
        have h1 : w3.cell? ⟨w.heap.size + 1, 1, none⟩ = some (.int .i64 hd) := KH3.out.cell 1
        have h2 : w3.cell? ⟨w.heap.size + 1, 2, none⟩ = some (.int .i64 ht) := KH3.out.cell 2
        obtain ⟨r0, r1, r2, r3, r4, r5⟩ := feed_cells KZ3.out
        have rf := blk_frozen KZ3.out
        go_wp2
        obtain ⟨Y, HY⟩ : ∃ Y, Hid (((((((w3.setCell ⟨w.heap.size + 1 + 1, 0, none⟩ (.int .i64 p)).setCell ⟨w.heap.size + 1 + 1, 1, none⟩ (.int .i64 l)).setCell ⟨w.heap.size + 1 + 1, 2, none⟩ (.int .i64 d)).setCell ⟨w.heap.size + 1 + 1, 3, none⟩ (.int .i64 s)).setCell ⟨w.heap.size + 1 + 1, 4, none⟩ (.slice X1 nb e1)).setCell ⟨w.heap.size + 1 + 1, 5, none⟩ (.slice X2 nh e2)) = Y) := ⟨_, rfl⟩
        have HBY : Hid (Below w.heap.size w Y) := by rw [← HY.out]; exact below_six HB3.out (by omega) _ _ _ _ _ _
        have KRY : Hid (Blk Y (w.heap.size + 1 + 1) 28 (feedC p l d s X1 nb e1 X2 nh e2)) := by rw [← HY.out]; exact blk_six KZ3.out _ _ _ _ _ _
        have hoF : OwnFeed Y w.heap.size X1 e1 X2 e2 bs hs := by rw [← HY.out]; exact (own_six HO3.out KZ3.out _ _ _ _ _ _).base_le (by omega)
        rw [HY.out]
        obtain ⟨y0, y1, y2, y3, y4, y5⟩ := feed_cells KRY.out
        exact bodyPost_ret (v := .tuple #[feedV p l d s X1 nb e1 X2 nh e2, .int .i64 3]) (by simp [results, Tryd.results13, go_sem, y0, y1, y2, y3, y4, y5]) rfl (⟨X1, e1, X2, e2, by rw [HFN.out]; show _ = Ending.returned (.tuple #[feedV p l d s X1 bs.length e1 X2 hs.length e2, .int .i64 3]); rw [HNB.out, HNH.out], by rw [HFN.out]; exact hoF, HBY.out⟩)
      · have e3 : (hd == d) = false := beq_eq_false_iff_ne.2 e2
        clear hne' e2
        go_enter Tryd.func13, Tryd.ntmps13
        go_wp2_with fail
        rw [HW.out]
        refine (CV.out _ HB.out).mono ?_
        rintro e w1 ⟨rfl, hb1⟩
        have KF1 := Lib.hid (KF.out.below hb1 KF.out.lt)
        have KH1 := Lib.hid (KH.out.below hb1 KH.out.lt)
        have KZ1 := Lib.hid (KZ.out.below hb1 KZ.out.lt)
        have HB1 : Hid (Below w.heap.size w w1) := HB.out.trans (hb1.mono HB.out.size)
        clear hb1
        obtain ⟨k0, k1, k2, k3, k4, k5⟩ := feed_cells KF1.out
        go_wp2_with fail
        refine (CC2.out _ HB1.out).mono ?_
        rintro e w2 ⟨X1, e1, X2, e2, rfl, ho2, hb2⟩
        rw [HNB.out, HNH.out]
        obtain ⟨V, HV⟩ : ∃ V, Hid (w2.alloc (.cells (feedC p l d s X1 nb e1 X2 nh e2) 28) = V) := ⟨_, rfl⟩
        have KF2 := Lib.hid ((KF1.out.below hb2 KF1.out.lt).alloc (.cells (feedC p l d s X1 nb e1 X2 nh e2) 28))
        have KH2 := Lib.hid ((KH1.out.below hb2 KH1.out.lt).alloc (.cells (feedC p l d s X1 nb e1 X2 nh e2) 28))
        have KZ2 := Lib.hid ((KZ1.out.below hb2 KZ1.out.lt).alloc (.cells (feedC p l d s X1 nb e1 X2 nh e2) 28))
        have KX2 := Lib.hid (Blk.new w2 28 (feedC p l d s X1 nb e1 X2 nh e2))
        have hz12 : w1.heap.size ≤ w2.heap.size := hb2.size
        have hzZ : w.heap.size + 1 + 1 < w1.heap.size := KZ1.out.lt
        have HB2 : Hid (Below w.heap.size w (w2.alloc (.cells (feedC p l d s X1 nb e1 X2 nh e2) 28))) := (HB1.out.trans (hb2.mono HB1.out.size)).alloc (by omega) _
        have HO2 : Hid (OwnFeed (w2.alloc (.cells (feedC p l d s X1 nb e1 X2 nh e2) 28)) (w.heap.size + 1 + 1 + 1) X1 e1 X2 e2 bs hs) := (ho2.alloc _).base_le (by omega)
        rw [HV.out] at KF2 KH2 KZ2 KX2 HB2 HO2
        clear hb2 ho2 k0 k1 k2 k3 k4 k5
        obtain ⟨k0, k1, k2, k3, k4, k5⟩ := feed_cells KF2.out
        have h0 : V.cell? ⟨w.heap.size + 1, 0, none⟩ = some (.int .i64 hl) := KH2.out.cell 0
        have h1 : V.cell? ⟨w.heap.size + 1, 1, none⟩ = some (.int .i64 hd) := KH2.out.cell 1
        have h2 : V.cell? ⟨w.heap.size + 1, 2, none⟩ = some (.int .i64 ht) := KH2.out.cell 2
        go_upto_region 4 with fail
        rw [HV.out]
        go_wp2_with fail
        refine (CK.out _).mono ?_
        rintro e w3 ⟨rfl, hb3⟩
        have KF3 := Lib.hid (KF2.out.below hb3 KF2.out.lt)
        have KH3 := Lib.hid (KH2.out.below hb3 KH2.out.lt)
        have KZ3 := Lib.hid (KZ2.out.below hb3 KZ2.out.lt)
        have KX3 := Lib.hid (KX2.out.below hb3 KX2.out.lt)
        have HO3 := Lib.hid (HO2.out.below hb3)
        have HB3 : Hid (Below w.heap.size w w3) := HB2.out.trans (hb3.mono HB2.out.size)
        have hz3 : w2.heap.size < w3.heap.size := KX3.out.lt
        clear hb3 k0 k1 k2 k3 k4 k5 h0 h1 h2
        obtain ⟨k0, k1, k2, k3, k4, k5⟩ := feed_cells KF3.out
        obtain ⟨x0, x1, x2, x3, x4, x5⟩ := feed_cells KX3.out
        have h0 : w3.cell? ⟨w.heap.size + 1, 0, none⟩ = some (.int .i64 hl) := KH3.out.cell 0
        have h1 : w3.cell? ⟨w.heap.size + 1, 1, none⟩ = some (.int .i64 hd) := KH3.out.cell 1
        have h2 : w3.cell? ⟨w.heap.size + 1, 2, none⟩ = some (.int .i64 ht) := KH3.out.cell 2
        obtain ⟨r0, r1, r2, r3, r4, r5⟩ := feed_cells KZ3.out
        have rf := blk_frozen KZ3.out
        go_wp2
        obtain ⟨Y, HY⟩ : ∃ Y, Hid (((((((w3.setCell ⟨w.heap.size + 1 + 1, 0, none⟩ (.int .i64 p)).setCell ⟨w.heap.size + 1 + 1, 1, none⟩ (.int .i64 l)).setCell ⟨w.heap.size + 1 + 1, 2, none⟩ (.int .i64 d)).setCell ⟨w.heap.size + 1 + 1, 3, none⟩ (.int .i64 s)).setCell ⟨w.heap.size + 1 + 1, 4, none⟩ (.slice X1 nb e1)).setCell ⟨w.heap.size + 1 + 1, 5, none⟩ (.slice X2 nh e2)) = Y) := ⟨_, rfl⟩
        have HBY : Hid (Below w.heap.size w Y) := by rw [← HY.out]; exact below_six HB3.out (by omega) _ _ _ _ _ _
        have KRY : Hid (Blk Y (w.heap.size + 1 + 1) 28 (feedC p l d s X1 nb e1 X2 nh e2)) := by rw [← HY.out]; exact blk_six KZ3.out _ _ _ _ _ _
        have hoF : OwnFeed Y w.heap.size X1 e1 X2 e2 bs hs := by rw [← HY.out]; exact (own_six HO3.out KZ3.out _ _ _ _ _ _).base_le (by omega)
        rw [HY.out]
        obtain ⟨y0, y1, y2, y3, y4, y5⟩ := feed_cells KRY.out
        exact bodyPost_ret (v := .tuple #[feedV p l d s X1 nb e1 X2 nh e2, .int .i64 3]) (by simp [results, Tryd.results13, go_sem, y0, y1, y2, y3, y4, y5]) rfl (⟨X1, e1, X2, e2, by rw [HFN.out]; show _ = Ending.returned (.tuple #[feedV p l d s X1 bs.length e1 X2 hs.length e2, .int .i64 3]); rw [HNB.out, HNH.out], by rw [HFN.out]; exact hoF, HBY.out⟩)
    · subst hC
      have HFN : Hid (headF ⟨p, l, d, s, bs, hs⟩ hl hd ht zs = ⟨p, l, d, s, bs, hs⟩) := headF_same (by rw [HC.out]; decide) (by rw [HC.out]; decide)
      have hlt' : l < hl := hlt
      have hp0' : 0 < l := hp0
      have hu' : signedB p hl hd ht = true := hu
      have hg' : grownB l d hl hd zs = false := by
        unfold grownB
        rw [decide_eq_false (by omega : ¬ l = 0), show growOkB l d hl hd zs = false from hg]; rfl
      rw [hu'] at CK
      rw [hg'] at CG
      have hl1 : (hl == 0) = false := beq_eq_false_iff_ne.2 hln
      have hl2 : (hl == l) = false := beq_eq_false_iff_ne.2 (by omega)
      have hl3 : ¬ hl < l := by omega
      clear hu hu' hlt hp0 hp0' hg hg' hO
      go_enter Tryd.func13, Tryd.ntmps13
      go_wp2_with fail
      rw [HW.out]
      refine (CV.out _ HB.out).mono ?_
      rintro e w1 ⟨rfl, hb1⟩
      have KF1 := Lib.hid (KF.out.below hb1 KF.out.lt)
      have KH1 := Lib.hid (KH.out.below hb1 KH.out.lt)
      have KZ1 := Lib.hid (KZ.out.below hb1 KZ.out.lt)
      have HB1 : Hid (Below w.heap.size w w1) := HB.out.trans (hb1.mono HB.out.size)
      clear hb1
      obtain ⟨k0, k1, k2, k3, k4, k5⟩ := feed_cells KF1.out
      go_wp2_with fail
      refine (CC2.out _ HB1.out).mono ?_
      rintro e w2 ⟨X1, e1, X2, e2, rfl, ho2, hb2⟩
      rw [HNB.out, HNH.out]
      obtain ⟨V, HV⟩ : ∃ V, Hid (w2.alloc (.cells (feedC p l d s X1 nb e1 X2 nh e2) 28) = V) := ⟨_, rfl⟩
      have KF2 := Lib.hid ((KF1.out.below hb2 KF1.out.lt).alloc (.cells (feedC p l d s X1 nb e1 X2 nh e2) 28))
      have KH2 := Lib.hid ((KH1.out.below hb2 KH1.out.lt).alloc (.cells (feedC p l d s X1 nb e1 X2 nh e2) 28))
      have KZ2 := Lib.hid ((KZ1.out.below hb2 KZ1.out.lt).alloc (.cells (feedC p l d s X1 nb e1 X2 nh e2) 28))
      have KX2 := Lib.hid (Blk.new w2 28 (feedC p l d s X1 nb e1 X2 nh e2))
      have hz12 : w1.heap.size ≤ w2.heap.size := hb2.size
      have hzZ : w.heap.size + 1 + 1 < w1.heap.size := KZ1.out.lt
      have HB2 : Hid (Below w.heap.size w (w2.alloc (.cells (feedC p l d s X1 nb e1 X2 nh e2) 28))) := (HB1.out.trans (hb2.mono HB1.out.size)).alloc (by omega) _
      have HO2 : Hid (OwnFeed (w2.alloc (.cells (feedC p l d s X1 nb e1 X2 nh e2) 28)) (w.heap.size + 1 + 1 + 1) X1 e1 X2 e2 bs hs) := (ho2.alloc _).base_le (by omega)
      rw [HV.out] at KF2 KH2 KZ2 KX2 HB2 HO2
      clear hb2 ho2 k0 k1 k2 k3 k4 k5
      obtain ⟨k0, k1, k2, k3, k4, k5⟩ := feed_cells KF2.out
      have h0 : V.cell? ⟨w.heap.size + 1, 0, none⟩ = some (.int .i64 hl) := KH2.out.cell 0
      have h1 : V.cell? ⟨w.heap.size + 1, 1, none⟩ = some (.int .i64 hd) := KH2.out.cell 1
      have h2 : V.cell? ⟨w.heap.size + 1, 2, none⟩ = some (.int .i64 ht) := KH2.out.cell 2
      go_upto_region 4 with fail
      rw [HV.out]
      go_wp2_with fail
      refine (CK.out _).mono ?_
      rintro e w3 ⟨rfl, hb3⟩
      have KF3 := Lib.hid (KF2.out.below hb3 KF2.out.lt)
      have KH3 := Lib.hid (KH2.out.below hb3 KH2.out.lt)
      have KZ3 := Lib.hid (KZ2.out.below hb3 KZ2.out.lt)
      have KX3 := Lib.hid (KX2.out.below hb3 KX2.out.lt)
      have HO3 := Lib.hid (HO2.out.below hb3)
      have HB3 : Hid (Below w.heap.size w w3) := HB2.out.trans (hb3.mono HB2.out.size)
      have hz3 : w2.heap.size < w3.heap.size := KX3.out.lt
      clear hb3 k0 k1 k2 k3 k4 k5 h0 h1 h2
      obtain ⟨k0, k1, k2, k3, k4, k5⟩ := feed_cells KF3.out
      obtain ⟨x0, x1, x2, x3, x4, x5⟩ := feed_cells KX3.out
      have h0 : w3.cell? ⟨w.heap.size + 1, 0, none⟩ = some (.int .i64 hl) := KH3.out.cell 0
      have h1 : w3.cell? ⟨w.heap.size + 1, 1, none⟩ = some (.int .i64 hd) := KH3.out.cell 1
      have h2 : w3.cell? ⟨w.heap.size + 1, 2, none⟩ = some (.int .i64 ht) := KH3.out.cell 2
      go_wp2_with fail
      refine (CG.out _ HB3.out).mono ?_
      rintro e w4 ⟨rfl, hb4⟩
      have KF4 := Lib.hid (KF3.out.below hb4 KF3.out.lt)
      have KH4 := Lib.hid (KH3.out.below hb4 KH3.out.lt)
      have KZ4 := Lib.hid (KZ3.out.below hb4 KZ3.out.lt)
      have KX4 := Lib.hid (KX3.out.below hb4 KX3.out.lt)
      have HO4 := Lib.hid (HO3.out.below hb4)
      have HB4 : Hid (Below w.heap.size w w4) := HB3.out.trans (hb4.mono HB3.out.size)
      have hz4 : w2.heap.size < w4.heap.size := KX4.out.lt
      clear hb4 k0 k1 k2 k3 k4 k5 h0 h1 h2 x0 x1 x2 x3 x4 x5
      obtain ⟨x0, x1, x2, x3, x4, x5⟩ := feed_cells KX4.out
      have h0 : w4.cell? ⟨w.heap.size + 1, 0, none⟩ = some (.int .i64 hl) := KH4.out.cell 0
      have h1 : w4.cell? ⟨w.heap.size + 1, 1, none⟩ = some (.int .i64 hd) := KH4.out.cell 1
      have h2 : w4.cell? ⟨w.heap.size + 1, 2, none⟩ = some (.int .i64 ht) := KH4.out.cell 2
      obtain ⟨r0, r1, r2, r3, r4, r5⟩ := feed_cells KZ4.out
      have rf := blk_frozen KZ4.out
      go_wp2
      obtain ⟨Y, HY⟩ : ∃ Y, Hid (((((((w4.setCell ⟨w.heap.size + 1 + 1, 0, none⟩ (.int .i64 p)).setCell ⟨w.heap.size + 1 + 1, 1, none⟩ (.int .i64 l)).setCell ⟨w.heap.size + 1 + 1, 2, none⟩ (.int .i64 d)).setCell ⟨w.heap.size + 1 + 1, 3, none⟩ (.int .i64 s)).setCell ⟨w.heap.size + 1 + 1, 4, none⟩ (.slice X1 nb e1)).setCell ⟨w.heap.size + 1 + 1, 5, none⟩ (.slice X2 nh e2)) = Y) := ⟨_, rfl⟩
      have HBY : Hid (Below w.heap.size w Y) := by rw [← HY.out]; exact below_six HB4.out (by omega) _ _ _ _ _ _
      have KRY : Hid (Blk Y (w.heap.size + 1 + 1) 28 (feedC p l d s X1 nb e1 X2 nh e2)) := by rw [← HY.out]; exact blk_six KZ4.out _ _ _ _ _ _
      have hoF : OwnFeed Y w.heap.size X1 e1 X2 e2 bs hs := by rw [← HY.out]; exact (own_six HO4.out KZ4.out _ _ _ _ _ _).base_le (by omega)
      rw [HY.out]
      obtain ⟨y0, y1, y2, y3, y4, y5⟩ := feed_cells KRY.out
      exact bodyPost_ret (v := .tuple #[feedV p l d s X1 nb e1 X2 nh e2, .int .i64 4]) (by simp [results, Tryd.results13, go_sem, y0, y1, y2, y3, y4, y5]) rfl (⟨X1, e1, X2, e2, by rw [HFN.out]; show _ = Ending.returned (.tuple #[feedV p l d s X1 bs.length e1 X2 hs.length e2, .int .i64 4]); rw [HNB.out, HNH.out], by rw [HFN.out]; exact hoF, HBY.out⟩)
    · have hlt' : l < hl := hlt
      have hu' : signedB p hl hd ht = true := hu
      have hsg := (signedB_iff _ _ _ _).1 hu'
      have hg' : grownB l d hl hd zs = true := by
        unfold grownB
        rcases hg with k | k
        · rw [decide_eq_true (by have k' : l ≤ 0 := k; omega : l = 0)]; rfl
        · rw [show growOkB l d hl hd zs = true from k, Bool.or_true]
      rw [hu'] at CK
      rw [hg'] at CG
      have hl1 : (hl == 0) = false := beq_eq_false_iff_ne.2 hln
      have hl2 : (hl == l) = false := beq_eq_false_iff_ne.2 (by omega)
      have hl3 : ¬ hl < l := by omega
      obtain ⟨m, hm⟩ : ∃ m : Nat, hl = (m : Int) := ⟨hl.toNat, by have := hsg.2.1; omega⟩
      have HHM := Lib.hid hm
      have HM16 : Hid (m ≤ 16) := by show _ ≤ _; have := hsg.2.1; omega
      have HNM : Hid (nb ≤ m) := by show _ ≤ _; have := HBL.out; omega
      have HFN : Hid (headF ⟨p, l, d, s, bs, hs⟩ hl hd ht zs = ⟨p, hl, hd, ht, longS bs m, longB hs m⟩) := by
        have h := headF_0 (HC.out.trans hC)
        unfold nextF at h
        rw [show hl.toNat = m by omega] at h
        exact h
      subst hC
      clear hu hu' hlt hg hg' hO hsg hm
      go_enter Tryd.func13, Tryd.ntmps13
      go_wp2_with fail
      rw [HW.out]
      refine (CV.out _ HB.out).mono ?_
      rintro e w1 ⟨rfl, hb1⟩
      have KF1 := Lib.hid (KF.out.below hb1 KF.out.lt)
      have KH1 := Lib.hid (KH.out.below hb1 KH.out.lt)
      have KZ1 := Lib.hid (KZ.out.below hb1 KZ.out.lt)
      have HB1 : Hid (Below w.heap.size w w1) := HB.out.trans (hb1.mono HB.out.size)
      clear hb1
      obtain ⟨k0, k1, k2, k3, k4, k5⟩ := feed_cells KF1.out
      go_wp2_with fail
      refine (CC2.out _ HB1.out).mono ?_
      rintro e w2 ⟨X1, e1, X2, e2, rfl, ho2, hb2⟩
      rw [HNB.out, HNH.out]
      obtain ⟨V, HV⟩ : ∃ V, Hid (w2.alloc (.cells (feedC p l d s X1 nb e1 X2 nh e2) 28) = V) := ⟨_, rfl⟩
      have KF2 := Lib.hid ((KF1.out.below hb2 KF1.out.lt).alloc (.cells (feedC p l d s X1 nb e1 X2 nh e2) 28))
      have KH2 := Lib.hid ((KH1.out.below hb2 KH1.out.lt).alloc (.cells (feedC p l d s X1 nb e1 X2 nh e2) 28))
      have KZ2 := Lib.hid ((KZ1.out.below hb2 KZ1.out.lt).alloc (.cells (feedC p l d s X1 nb e1 X2 nh e2) 28))
      have KX2 := Lib.hid (Blk.new w2 28 (feedC p l d s X1 nb e1 X2 nh e2))
      have hz12 : w1.heap.size ≤ w2.heap.size := hb2.size
      have hzZ : w.heap.size + 1 + 1 < w1.heap.size := KZ1.out.lt
      have HB2 : Hid (Below w.heap.size w (w2.alloc (.cells (feedC p l d s X1 nb e1 X2 nh e2) 28))) := (HB1.out.trans (hb2.mono HB1.out.size)).alloc (by omega) _
      have HO2 : Hid (OwnFeed (w2.alloc (.cells (feedC p l d s X1 nb e1 X2 nh e2) 28)) (w.heap.size + 1 + 1 + 1) X1 e1 X2 e2 bs hs) := (ho2.alloc _).base_le (by omega)
      rw [HV.out] at KF2 KH2 KZ2 KX2 HB2 HO2
      clear hb2 ho2 k0 k1 k2 k3 k4 k5
      obtain ⟨k0, k1, k2, k3, k4, k5⟩ := feed_cells KF2.out
      have h0 : V.cell? ⟨w.heap.size + 1, 0, none⟩ = some (.int .i64 hl) := KH2.out.cell 0
      have h1 : V.cell? ⟨w.heap.size + 1, 1, none⟩ = some (.int .i64 hd) := KH2.out.cell 1
      have h2 : V.cell? ⟨w.heap.size + 1, 2, none⟩ = some (.int .i64 ht) := KH2.out.cell 2
      go_upto_region 4 with fail
      rw [HV.out]
      go_wp2_with fail
      refine (CK.out _).mono ?_
      rintro e w3 ⟨rfl, hb3⟩
      have KF3 := Lib.hid (KF2.out.below hb3 KF2.out.lt)
      have KH3 := Lib.hid (KH2.out.below hb3 KH2.out.lt)
      have KZ3 := Lib.hid (KZ2.out.below hb3 KZ2.out.lt)
      have KX3 := Lib.hid (KX2.out.below hb3 KX2.out.lt)
      have HO3 := Lib.hid (HO2.out.below hb3)
      have HB3 : Hid (Below w.heap.size w w3) := HB2.out.trans (hb3.mono HB2.out.size)
      have hz3 : w2.heap.size < w3.heap.size := KX3.out.lt
      clear hb3 k0 k1 k2 k3 k4 k5 h0 h1 h2
      obtain ⟨k0, k1, k2, k3, k4, k5⟩ := feed_cells KF3.out
      obtain ⟨x0, x1, x2, x3, x4, x5⟩ := feed_cells KX3.out
      have h0 : w3.cell? ⟨w.heap.size + 1, 0, none⟩ = some (.int .i64 hl) := KH3.out.cell 0
      have h1 : w3.cell? ⟨w.heap.size + 1, 1, none⟩ = some (.int .i64 hd) := KH3.out.cell 1
      have h2 : w3.cell? ⟨w.heap.size + 1, 2, none⟩ = some (.int .i64 ht) := KH3.out.cell 2
      go_wp2_with fail
      refine (CG.out _ HB3.out).mono ?_
      rintro e w4 ⟨rfl, hb4⟩
      have KF4 := Lib.hid (KF3.out.below hb4 KF3.out.lt)
      have KH4 := Lib.hid (KH3.out.below hb4 KH3.out.lt)
      have KZ4 := Lib.hid (KZ3.out.below hb4 KZ3.out.lt)
      have KX4 := Lib.hid (KX3.out.below hb4 KX3.out.lt)
      have HO4 := Lib.hid (HO3.out.below hb4)
      have HB4 : Hid (Below w.heap.size w w4) := HB3.out.trans (hb4.mono HB3.out.size)
      have hz4 : w2.heap.size < w4.heap.size := KX4.out.lt
      clear hb4 k0 k1 k2 k3 k4 k5 h0 h1 h2 x0 x1 x2 x3 x4 x5
      obtain ⟨x0, x1, x2, x3, x4, x5⟩ := feed_cells KX4.out
      have h0 : w4.cell? ⟨w.heap.size + 1, 0, none⟩ = some (.int .i64 hl) := KH4.out.cell 0
      have h1 : w4.cell? ⟨w.heap.size + 1, 1, none⟩ = some (.int .i64 hd) := KH4.out.cell 1
      have h2 : w4.cell? ⟨w.heap.size + 1, 2, none⟩ = some (.int .i64 ht) := KH4.out.cell 2
      have xf := blk_frozen KX4.out
      have HFD : Hid (Fd (((w4.setCell ⟨w2.heap.size, 1, none⟩ (.int .i64 hl)).setCell ⟨w2.heap.size, 2, none⟩ (.int .i64 hd)).setCell ⟨w2.heap.size, 3, none⟩ (.int .i64 ht)) (w.heap.size + 1 + 1 + 1) w2.heap.size p hl hd ht X1 e1 X2 e2 bs hs) := by
        have hne : ∀ i, i ≠ w2.heap.size → (((w4.setCell ⟨w2.heap.size, 1, none⟩ (.int .i64 hl)).setCell ⟨w2.heap.size, 2, none⟩ (.int .i64 hd)).setCell ⟨w2.heap.size, 3, none⟩ (.int .i64 ht)).heap[i]? = w4.heap[i]? := fun i hi => by
          rw [Below.heap_setCell _ ⟨w2.heap.size, 3, none⟩ _ i hi, Below.heap_setCell _ ⟨w2.heap.size, 2, none⟩ _ i hi, Below.heap_setCell _ ⟨w2.heap.size, 1, none⟩ _ i hi]
        refine ⟨owns_block HO4.out.strs fun x hx => hne x (strs_ne_blk HO4.out.strs KX4.out x hx), ownb_block HO4.out.bits fun x hx => hne x (bits_ne_blk HO4.out.bits KX4.out x hx), ?_, by omega⟩
        rw [HNB.out, HNH.out]
        exact ((KX4.out.setOwn 1 _).setOwn 2 _).setOwn 3 _
      have HBD : Hid (Below (w.heap.size + 1 + 1 + 1) w4 (((w4.setCell ⟨w2.heap.size, 1, none⟩ (.int .i64 hl)).setCell ⟨w2.heap.size, 2, none⟩ (.int .i64 hd)).setCell ⟨w2.heap.size, 3, none⟩ (.int .i64 ht))) := (((Below.refl _ w4).setCell (p := ⟨w2.heap.size, 1, none⟩) (by show _ ≤ w2.heap.size; omega) _).setCell (p := ⟨w2.heap.size, 2, none⟩) (by show _ ≤ w2.heap.size; omega) _).setCell (p := ⟨w2.heap.size, 3, none⟩) (by show _ ≤ w2.heap.size; omega) _
      obtain ⟨D, HD⟩ : ∃ D, Hid (((w4.setCell ⟨w2.heap.size, 1, none⟩ (.int .i64 hl)).setCell ⟨w2.heap.size, 2, none⟩ (.int .i64 hd)).setCell ⟨w2.heap.size, 3, none⟩ (.int .i64 ht) = D) := ⟨_, rfl⟩
      rw [HD.out] at HFD HBD
      have KHD := Lib.hid (KH4.out.below HBD.out (by omega))
      have KZD := Lib.hid (KZ4.out.below HBD.out (by omega))
      have HBw : Hid (Below w.heap.size w D) := HB4.out.trans (HBD.out.mono (by omega))
      go_wp2_with fail
      rw [HD.out]
      clear h0 h1 h2 x0 x1 x2 x3 x4 x5 xf
      go_loopg [] (m - nb) (fun g wr => g ≤ m - nb ∧ ∃ (X1 X2 : Option Addr) (e1 e2 : Nat), Hid (Fd wr (w.heap.size + 1 + 1 + 1) w2.heap.size p hl hd ht X1 e1 X2 e2 (bs ++ noS (m - nb - g)) (hs ++ noB (m - nb - g))) ∧ Hid (Blk wr (w.heap.size + 1) 24 #[.int .i64 hl, .int .i64 hd, .int .i64 ht]) ∧ Hid (Blk wr (w.heap.size + 1 + 1) 28 (feedC 0 0 0 0 none 0 0 none 0 0)) ∧ Hid (Below w.heap.size w wr))
      case atStart => exact ⟨Nat.le_refl _, _, _, _, _, by show Fd _ _ _ _ _ _ _ _ _ _ _ _ _; rw [Nat.sub_self]; simpa [noS, noB] using HFD.out, KHD, KZD, HBw⟩
      case round =>
        obtain ⟨hgk, Y1, Y2, f1, f2, HR, KHr, KZr, HBr⟩ := hrel
        obtain ⟨k, HKK⟩ : ∃ k, Hid (nb + (m - nb - gk) = k) := ⟨_, rfl⟩
        have HL1 : Hid ((bs ++ noS (m - nb - gk)).length = k) := by show _ = _; rw [List.length_append, noS_length, HNB.out]; exact HKK.out
        have HL2 : Hid ((hs ++ noB (m - nb - gk)).length = k) := by show _ = _; rw [List.length_append, noB_length, HNH.out, HHL.out]; exact HKK.out
        obtain ⟨us, HUS⟩ : ∃ us, Hid (bs ++ noS (m - nb - gk) = us) := ⟨_, rfl⟩
        obtain ⟨vs, HVS⟩ : ∃ vs, Hid (hs ++ noB (m - nb - gk) = vs) := ⟨_, rfl⟩
        rw [HUS.out] at HL1 HR
        rw [HVS.out] at HL2 HR
        have hkm : k + gk = m := by have := HKK.out; have := HNM.out; omega
        have h0 : wr.cell? ⟨w.heap.size + 1, 0, none⟩ = some (.int .i64 hl) := KHr.out.cell 0
        have hkD := HR.out.blk
        rw [HL1.out, HL2.out] at hkD
        obtain ⟨x0, x1, x2, x3, x4, x5⟩ := feed_cells hkD
        have xf := blk_frozen hkD
        have hwz : w.heap.size + 1 + 1 + 1 ≤ wr.heap.size := by have := HR.out.blk.lt; have := HR.out.big; omega
        have hk31 : k ≤ 16 := by have := HM16.out; omega
        by_cases hg0 : gk = 0
        · have hnl : ¬ (k : Int) < hl := by have := HHM.out; omega
          have HUE : Hid (us = longS bs m) := by show _ = _; rw [← HUS.out, hg0, Nat.sub_zero, ← HNB.out]; rfl
          have HVE : Hid (vs = longB hs m) := by show _ = _; rw [← HVS.out, hg0, Nat.sub_zero, ← HHL.out, ← HNH.out]; rfl
          have HFU : Hid (Fit us) := by show Fit us; rw [HUE.out]; exact fun j => by rw [sth_longS]; exact HFIT.out j
          have HOF : Hid (OwnFeed wr (w.heap.size + 1 + 1 + 1) Y1 f1 Y2 f2 us vs) := ⟨HR.out.strs, HR.out.bits, HFU.out⟩
          clear hkm hg0
          obtain ⟨r0, r1, r2, r3, r4, r5⟩ := feed_cells KZr.out
          have rf := blk_frozen KZr.out
          go_wp2
          obtain ⟨Y, HY⟩ : ∃ Y, Hid (((((((wr.setCell ⟨w.heap.size + 1 + 1, 0, none⟩ (.int .i64 p)).setCell ⟨w.heap.size + 1 + 1, 1, none⟩ (.int .i64 hl)).setCell ⟨w.heap.size + 1 + 1, 2, none⟩ (.int .i64 hd)).setCell ⟨w.heap.size + 1 + 1, 3, none⟩ (.int .i64 ht)).setCell ⟨w.heap.size + 1 + 1, 4, none⟩ (.slice Y1 k f1)).setCell ⟨w.heap.size + 1 + 1, 5, none⟩ (.slice Y2 k f2)) = Y) := ⟨_, rfl⟩
          have HBY : Hid (Below w.heap.size w Y) := by rw [← HY.out]; exact below_six HBr.out (by omega) _ _ _ _ _ _
          have KRY : Hid (Blk Y (w.heap.size + 1 + 1) 28 (feedC p hl hd ht Y1 k f1 Y2 k f2)) := by rw [← HY.out]; exact blk_six KZr.out _ _ _ _ _ _
          have hoF : OwnFeed Y w.heap.size Y1 f1 Y2 f2 us vs := by rw [← HY.out]; exact (own_six HOF.out KZr.out _ _ _ _ _ _).base_le (by omega)
          rw [HY.out]
          obtain ⟨y0, y1, y2, y3, y4, y5⟩ := feed_cells KRY.out
          exact bodyPost_ret (v := .tuple #[feedV p hl hd ht Y1 k f1 Y2 k f2, .int .i64 0]) (by simp [results, Tryd.results13, go_sem, y0, y1, y2, y3, y4, y5]) rfl (⟨Y1, f1, Y2, f2, by rw [HFN.out, ← HUE.out, ← HVE.out]; show _ = Ending.returned (.tuple #[feedV p hl hd ht Y1 us.length f1 Y2 vs.length f2, .int .i64 0]); rw [HL1.out, HL2.out], by rw [HFN.out, ← HUE.out, ← HVE.out]; exact hoF, HBY.out⟩)
        · have hlt : (k : Int) < hl := by have := HHM.out; omega
          clear hkD
          go_wp2_with (first
            | (at_builtin
               refine wpList_app_strs rfl (.tmp 65) (.tmp 66) rfl _ (w.heap.size + 1 + 1 + 1) Y1 f1 us (by rw [HL1.out]; rfl) _ _ [ByteArray.empty] rfl (HR.out.strs.alloc _) (one_newS _ _) (by rw [HL1.out]; simp; omega) (by simp; omega) (by simp) ?_
               intro v w6 hA
               obtain ⟨Y1', f1', rfl, hk6, hD6, hb6⟩ := HR.out.text hwz _ _ hA
               rw [HL1.out, HL2.out] at hk6
               obtain ⟨m0, m1, m2, m3, m4, m5⟩ := feed_cells hk6
               have mf := blk_frozen hk6
               have HD6 := Lib.hid hD6
               have HB6 := Lib.hid hb6
               rw [HL1.out] at HD6 HB6
               rw [show us.length + 1 = k + 1 by rw [HL1.out]]
               clear hA hk6 hD6 hb6 x0 x1 x2 x3 x4 x5 xf)
            | (at_builtin
               obtain ⟨Q, HQ⟩ : ∃ Q, Hid (w6.setCell ⟨w2.heap.size, 4, none⟩ (.slice Y1' (k + 1) f1') = Q) := ⟨_, rfl⟩
               rw [HQ.out] at HD6 HB6 ⊢
               have hwZ : w.heap.size + 1 + 1 + 1 ≤ Q.heap.size := Nat.le_trans hwz HB6.out.size
               have HZs : Hid (Q.heap.size = w6.heap.size) := by show _ = _; rw [← HQ.out]; simp
               have HON : Hid (BoolsAt (Q.alloc (.cells #[.bool false] 4)) (Q.alloc (.cells #[.bool false] 4)).heap.size (some ⟨w6.heap.size, 0, none⟩) [false]) := by have h := one_newB Q false; rw [HZs.out] at h; exact h
               refine wpList_app_bools rfl (.tmp 70) (.tmp 71) rfl _ (w.heap.size + 1 + 1 + 1) Y2 f2 vs (by rw [HL2.out]; rfl) _ _ [false] rfl (HD6.out.bits.alloc _) HON.out (by rw [HL2.out]; simp; omega) (by simp; omega) (by simp) ?_
               intro v w8 hA
               obtain ⟨Y2', f2', rfl, hk8, hD8, hb8⟩ := HD6.out.bit hwZ _ _ hA
               rw [List.length_append, HL1.out, HL2.out] at hk8
               clear m0 m1 m2 m3 m4 m5 mf
               obtain ⟨m0, m1, m2, m3, m4, m5⟩ := feed_cells hk8
               have mf := blk_frozen hk8
               have HD8 := Lib.hid hD8
               have HB8 := Lib.hid hb8
               rw [HL2.out] at HD8 HB8
               rw [show vs.length + 1 = k + 1 by rw [HL2.out]]
               clear hA hk8 hD8 hb8))
          obtain ⟨T, HT⟩ : ∃ T, Hid (w8.setCell ⟨w2.heap.size, 5, none⟩ (.slice Y2' (k + 1) f2') = T) := ⟨_, rfl⟩
          rw [HT.out] at HD8 HB8 ⊢
          have KHn := Lib.hid ((KHr.out.below HB6.out (by omega)).below HB8.out (by omega))
          have KZn := Lib.hid ((KZr.out.below HB6.out (by omega)).below HB8.out (by omega))
          have HBn : Hid (Below w.heap.size w T) := (HBr.out.trans (HB6.out.mono (by omega))).trans (HB8.out.mono (by omega))
          have HUn : Hid (us ++ [ByteArray.empty] = bs ++ noS (m - nb - (gk - 1))) := by show _ = _; rw [← HUS.out, List.append_assoc, noS_snoc, show m - nb - (gk - 1) = m - nb - gk + 1 by omega]
          have HVn : Hid (vs ++ [false] = hs ++ noB (m - nb - (gk - 1))) := by show _ = _; rw [← HVS.out, List.append_assoc, noB_snoc, show m - nb - (gk - 1) = m - nb - gk + 1 by omega]
          rw [HUn.out, HVn.out] at HD8
          go_roundg (gk - 1)
          case measure => omega
          case rel => exact ⟨by omega, Y1', Y2', f1', f2', HD8, KHn, KZn, HBn⟩

end Go.Proofs.YtlpdoieiiadhhaaDoor
