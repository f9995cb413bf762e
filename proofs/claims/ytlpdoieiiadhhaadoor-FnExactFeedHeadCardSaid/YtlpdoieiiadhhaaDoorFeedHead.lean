/- Contract of FeedHead: the code that answers a head, and the feed that comes of it, in memory of its own; nothing that was there is changed. Conditions: the feed and the proof lie in memory; the globals hold four different errors. -/
import Derived.Test.YtlpdoieiiadhhaaDoorHeadRefuse
namespace Go.Proofs.YtlpdoieiiadhhaaDoor
open Go.RowKit
set_option linter.unusedVariables false

/-- What FeedHead hands back. -/
def HeadRet (w : World) (f : FD) (c : Int) (e : Ending) (w' : World) : Prop :=
  ∃ A1 c1 A2 c2, e = .returned (.tuple #[feedV f.p f.l f.d f.s A1 f.bs.length c1 A2 f.hs.length c2, .int .i64 c]) ∧ OwnFeed w' w.heap.size A1 c1 A2 c2 f.bs f.hs ∧ Below w.heap.size w w'
theorem own_zero (w : World) (base : Nat) : OwnFeed w base none 0 none 0 [] [] := ⟨⟨rfl, .inl ⟨rfl, rfl⟩⟩, ⟨rfl, .inl ⟨rfl, rfl⟩⟩, fun k => Nat.zero_le _⟩

set_option maxHeartbeats 8000000 in
set_option maxRecDepth 100000 in
theorem feedHead_any {a0 a1 a2 a3 : Addr} (p l d s : Int) (A1 : Option Addr) (c1 : Nat) (A2 : Option Addr) (c2 : Nat) (bs : List ByteArray) (hs : List Bool) (hl hd ht : Int) (X : Option Addr) (cz : Nat) (zs : List Int) (w : World) (hE : Errs w a0 a1 a2 a3) (hG : GrowthAt w X cz zs) (hF : FeedAt w w.heap.size A1 A2 bs hs) :
    Calls Tryd.prog 12 #[feedV p l d s A1 bs.length c1 A2 hs.length c2, headV hl hd ht, .slice X zs.length cz] w (HeadRet w (headF ⟨p, l, d, s, bs, hs⟩ hl hd ht zs) (codeZ ⟨p, l, d, s, bs, hs⟩ hl hd ht zs)) := by
  have HE := Lib.hid hE
  have HG := Lib.hid hG
  have HF := Lib.hid hF
  obtain ⟨C, HC⟩ : ∃ C, Hid (codeZ ⟨p, l, d, s, bs, hs⟩ hl hd ht zs = C) := ⟨_, rfl⟩
  have CV : Hid (∀ U, Below w.heap.size w U → Calls Tryd.prog 18 #[feedV p l d s A1 bs.length c1 A2 hs.length c2] U fun e w' => e = .returned (.bool (okB ⟨p, l, d, s, bs, hs⟩)) ∧ Below U.heap.size U w') := fun U hU => feedValid_any p l d s A1 c1 A2 c2 bs hs U (HF.out.belowS hU)
  have CR : Hid (okB ⟨p, l, d, s, bs, hs⟩ = true → ∀ U, Below w.heap.size w U → Calls Tryd.prog 44 #[feedV p l d s A1 bs.length c1 A2 hs.length c2, headV hl hd ht, .slice X zs.length cz] U fun e w' => e = .returned (refV a0 a1 a2 a3 C) ∧ Below U.heap.size U w') := fun hO U hU => by
    have h := headRefusal_any p l d s A1 c1 A2 c2 bs hs hl hd ht X cz zs U (HE.out.below hU) (HG.out.below hU) hO
    rw [HC.out] at h
    exact h
  have CW : Hid (∀ U, Below w.heap.size w U → ∀ (m : Nat) (md ms : Int), m ≤ 16 → bs.length ≤ m → hs.length ≤ m → Calls Tryd.prog 45 #[feedV p l d s A1 bs.length c1 A2 hs.length c2, headV (m : Int) md ms] U (FeedMade U p m md ms (longS bs m) (longB hs m))) := fun U hU m md ms h1 h2 h3 => withHead_any p l d s A1 c1 A2 c2 bs hs m md ms U (HF.out.belowS hU) h1 h2 h3
  rw [HC.out]
  obtain ⟨nb, HNB⟩ : ∃ n, Hid (bs.length = n) := ⟨_, rfl⟩
  obtain ⟨nh, HNH⟩ : ∃ n, Hid (hs.length = n) := ⟨_, rfl⟩
  obtain ⟨nz, HNZ⟩ : ∃ n, Hid (zs.length = n) := ⟨_, rfl⟩
  rw [HNB.out, HNH.out] at CV CW
  rw [HNB.out, HNH.out, HNZ.out] at CR
  rw [HNB.out, HNH.out, HNZ.out]
  obtain ⟨W, HW⟩ : ∃ W, Hid (((w.alloc (.cells (feedC p l d s A1 nb c1 A2 nh c2) 28)).alloc (.cells #[.int .i64 hl, .int .i64 hd, .int .i64 ht] 24)).alloc (.cells (feedC 0 0 0 0 none 0 0 none 0 0) 28) = W) := ⟨_, rfl⟩
  have KF : Hid (Blk W w.heap.size 28 (feedC p l d s A1 nb c1 A2 nh c2)) := by rw [← HW.out]; exact ((Blk.new w _ _).alloc _).alloc _
  have KH : Hid (Blk W (w.heap.size + 1) 24 #[.int .i64 hl, .int .i64 hd, .int .i64 ht]) := by
    rw [← HW.out]
    have h := (Blk.new (w.alloc (.cells (feedC p l d s A1 nb c1 A2 nh c2) 28)) 24 #[.int .i64 hl, .int .i64 hd, .int .i64 ht]).alloc (.cells (feedC 0 0 0 0 none 0 0 none 0 0) 28)
    rw [World.size_alloc] at h
    exact h
  have KZ : Hid (Blk W (w.heap.size + 1 + 1) 28 (feedC 0 0 0 0 none 0 0 none 0 0)) := by
    rw [← HW.out]
    have h := Blk.new ((w.alloc (.cells (feedC p l d s A1 nb c1 A2 nh c2) 28)).alloc (.cells #[.int .i64 hl, .int .i64 hd, .int .i64 ht] 24)) 28 (feedC 0 0 0 0 none 0 0 none 0 0)
    rw [World.size_alloc, World.size_alloc] at h
    exact h
  have HB : Hid (Below w.heap.size w W) := by rw [← HW.out]; exact (((Below.refl _ w).alloc (Nat.le_refl _) _).alloc (by simp) _).alloc (by simp; omega) _
  clear hE hG hF
  cases hO : okB ⟨p, l, d, s, bs, hs⟩ with
  | false =>
    have hC : C = 5 := by rw [← HC.out]; exact code5 hO
    have HFZ : Hid (headF ⟨p, l, d, s, bs, hs⟩ hl hd ht zs = zeroF) := headF_5 (by rw [HC.out]; exact hC)
    rw [hO] at CV
    subst hC
    clear hO CR CW
    go_enter Tryd.func12, Tryd.ntmps12
    go_wp2_with fail
    rw [HW.out]
    refine (CV.out _ HB.out).mono ?_
    rintro e w1 ⟨rfl, hb1⟩
    have KF1 := Lib.hid (KF.out.below hb1 KF.out.lt)
    have KH1 := Lib.hid (KH.out.below hb1 KH.out.lt)
    have KZ1 := Lib.hid (KZ.out.below hb1 KZ.out.lt)
    have HB1 : Hid (Below w.heap.size w w1) := HB.out.trans (hb1.mono HB.out.size)
    clear hb1
    obtain ⟨r0, r1, r2, r3, r4, r5⟩ := feed_cells KZ1.out
    have rf := blk_frozen KZ1.out
    go_wp2
    obtain ⟨Y, HY⟩ : ∃ Y, Hid (((((((w1.setCell ⟨w.heap.size + 1 + 1, 0, none⟩ (.int .i64 0)).setCell ⟨w.heap.size + 1 + 1, 1, none⟩ (.int .i64 0)).setCell ⟨w.heap.size + 1 + 1, 2, none⟩ (.int .i64 0)).setCell ⟨w.heap.size + 1 + 1, 3, none⟩ (.int .i64 0)).setCell ⟨w.heap.size + 1 + 1, 4, none⟩ (.slice none 0 0)).setCell ⟨w.heap.size + 1 + 1, 5, none⟩ (.slice none 0 0)) = Y) := ⟨_, rfl⟩
    have HBY : Hid (Below w.heap.size w Y) := by rw [← HY.out]; exact below_six HB1.out (by omega) _ _ _ _ _ _
    have KRY : Hid (Blk Y (w.heap.size + 1 + 1) 28 (feedC 0 0 0 0 none 0 0 none 0 0)) := by rw [← HY.out]; exact blk_six KZ1.out _ _ _ _ _ _
    have hoF := own_zero Y w.heap.size
    rw [HY.out]
    obtain ⟨y0, y1, y2, y3, y4, y5⟩ := feed_cells KRY.out
    exact bodyPost_ret (v := .tuple #[feedV 0 0 0 0 none 0 0 none 0 0, .int .i64 5]) (by simp [results, Tryd.results12, go_sem, y0, y1, y2, y3, y4, y5]) rfl (⟨none, 0, none, 0, by rw [HFZ.out]; rfl, by rw [HFZ.out]; exact hoF, HBY.out⟩)
  | true =>
    have CR2 := Lib.hid (CR.out hO)
    have hok := (okB_iff _).1 hO
    have hlen := hok.len
    simp only at hlen
    have hbl : (nb : Int) = l := by have h := hok.2.2.1.1; simp only at h; rw [HNB.out] at h; exact h
    have hhl : nh = nb := by have h := hlen.2; rw [HNB.out, HNH.out] at h; exact h
    have hn16 : nb ≤ 16 := by have h := hlen.1; rw [HNB.out] at h; exact h
    have hcs := code_cases ⟨p, l, d, s, bs, hs⟩ hl hd ht zs
    rw [HC.out] at hcs
    have hC0 : 0 ≤ C := by
      rcases hcs with k | k | k | k | k | k | k
      · have := k.2; omega
      · have := k.2.2; omega
      · have := k.2.2.2.2.2.2; omega
      · have := k.2.2.2.2; omega
      · have := k.2.2.2.2.2; omega
      · have := k.2.2.2.2.2.2; omega
      · have := k.2.2.2.2.2; omega
    have hC4 : C ≤ 4 := by
      rcases hcs with k | k | k | k | k | k | k
      · rw [hO] at k; cases k.1
      · have := k.2.2; omega
      · have := k.2.2.2.2.2.2; omega
      · have := k.2.2.2.2; omega
      · have := k.2.2.2.2.2; omega
      · have := k.2.2.2.2.2.2; omega
      · have := k.2.2.2.2.2; omega
    clear hcs hlen
    rw [hO] at CV
    clear CR
    by_cases hc : C = 0
    · have hfacts := code0_facts (HC.out.trans hc)
      have hsg := (signedB_iff _ _ _ _).1 hfacts.2.1
      have hlt : l < hl := hfacts.2.2.1
      obtain ⟨m, hm⟩ : ∃ m : Nat, hl = (m : Int) := ⟨hl.toNat, by have := hsg.2.1; omega⟩
      have hm16 : m ≤ 16 := by have := hsg.2.1; omega
      have hnm : nb ≤ m := by omega
      have CW2 : Hid (∀ U, Below w.heap.size w U → Calls Tryd.prog 45 #[feedV p l d s A1 nb c1 A2 nh c2, headV hl hd ht] U (FeedMade U p hl hd ht (longS bs m) (longB hs m))) := fun U hU => by
        have h := CW.out U hU m hd ht hm16 hnm (by omega)
        rw [← hm] at h
        exact h
      have HFN : Hid (headF ⟨p, l, d, s, bs, hs⟩ hl hd ht zs = ⟨p, hl, hd, ht, longS bs m, longB hs m⟩) := by
        have h := headF_0 (HC.out.trans hc)
        unfold nextF at h
        rw [show hl.toNat = m by omega] at h
        exact h
      subst hc
      clear hO hok hbl hhl hfacts hsg CW hm hm16 hnm hlt hn16
      go_enter Tryd.func12, Tryd.ntmps12
      go_wp2_with fail
      rw [HW.out]
      refine (CV.out _ HB.out).mono ?_
      rintro e w1 ⟨rfl, hb1⟩
      have KF1 := Lib.hid (KF.out.below hb1 KF.out.lt)
      have KH1 := Lib.hid (KH.out.below hb1 KH.out.lt)
      have KZ1 := Lib.hid (KZ.out.below hb1 KZ.out.lt)
      have HB1 : Hid (Below w.heap.size w w1) := HB.out.trans (hb1.mono HB.out.size)
      clear hb1
      obtain ⟨k0, k1, k2, k3, k4, k5⟩ := feed_cells KF1.out
      have h0 : w1.cell? ⟨w.heap.size + 1, 0, none⟩ = some (.int .i64 hl) := KH1.out.cell 0
      have h1 : w1.cell? ⟨w.heap.size + 1, 1, none⟩ = some (.int .i64 hd) := KH1.out.cell 1
      have h2 : w1.cell? ⟨w.heap.size + 1, 2, none⟩ = some (.int .i64 ht) := KH1.out.cell 2
      go_wp2_with fail
      refine (CR2.out _ HB1.out).mono ?_
      rintro e w2 ⟨rfl, hb2⟩
      have KF2 := Lib.hid (KF1.out.below hb2 KF1.out.lt)
      have KH2 := Lib.hid (KH1.out.below hb2 KH1.out.lt)
      have KZ2 := Lib.hid (KZ1.out.below hb2 KZ1.out.lt)
      have HB2 : Hid (Below w.heap.size w w2) := HB1.out.trans (hb2.mono HB1.out.size)
      clear hb2 k0 k1 k2 k3 k4 k5 h0 h1 h2
      obtain ⟨k0, k1, k2, k3, k4, k5⟩ := feed_cells KF2.out
      have h0 : w2.cell? ⟨w.heap.size + 1, 0, none⟩ = some (.int .i64 hl) := KH2.out.cell 0
      have h1 : w2.cell? ⟨w.heap.size + 1, 1, none⟩ = some (.int .i64 hd) := KH2.out.cell 1
      have h2 : w2.cell? ⟨w.heap.size + 1, 2, none⟩ = some (.int .i64 ht) := KH2.out.cell 2
      go_wp2_with fail
      refine (headCode_ref (HE.out.below HB2.out) _ hC0 hC4).mono ?_
      rintro e w' ⟨rfl, rfl⟩
      go_wp2_with fail
      refine (CW2.out _ HB2.out).mono ?_
      rintro e w3 ⟨X1, e1, X2, e2, rfl, ho3, hb3⟩
      have KZ3 := Lib.hid (KZ2.out.below hb3 KZ2.out.lt)
      have HB3 : Hid (Below w.heap.size w w3) := HB2.out.trans (hb3.mono HB2.out.size)
      have HO3 := Lib.hid (ho3.base_le HB2.out.size)
      clear ho3 hb3 k0 k1 k2 k3 k4 k5 h0 h1 h2
      obtain ⟨q1, HQ1⟩ : ∃ n, Hid ((longS bs m).length = n) := ⟨_, rfl⟩
      obtain ⟨q2, HQ2⟩ : ∃ n, Hid ((longB hs m).length = n) := ⟨_, rfl⟩
      rw [HQ1.out, HQ2.out]
      obtain ⟨r0, r1, r2, r3, r4, r5⟩ := feed_cells KZ3.out
      have rf := blk_frozen KZ3.out
      go_wp2
      obtain ⟨Y, HY⟩ : ∃ Y, Hid (((((((w3.setCell ⟨w.heap.size + 1 + 1, 0, none⟩ (.int .i64 p)).setCell ⟨w.heap.size + 1 + 1, 1, none⟩ (.int .i64 hl)).setCell ⟨w.heap.size + 1 + 1, 2, none⟩ (.int .i64 hd)).setCell ⟨w.heap.size + 1 + 1, 3, none⟩ (.int .i64 ht)).setCell ⟨w.heap.size + 1 + 1, 4, none⟩ (.slice X1 q1 e1)).setCell ⟨w.heap.size + 1 + 1, 5, none⟩ (.slice X2 q2 e2)) = Y) := ⟨_, rfl⟩
      have HBY : Hid (Below w.heap.size w Y) := by rw [← HY.out]; exact below_six HB3.out (by omega) _ _ _ _ _ _
      have KRY : Hid (Blk Y (w.heap.size + 1 + 1) 28 (feedC p hl hd ht X1 q1 e1 X2 q2 e2)) := by rw [← HY.out]; exact blk_six KZ3.out _ _ _ _ _ _
      have hoF : OwnFeed Y w.heap.size X1 e1 X2 e2 (longS bs m) (longB hs m) := by rw [← HY.out]; exact own_six HO3.out KZ3.out _ _ _ _ _ _
      rw [HY.out]
      obtain ⟨y0, y1, y2, y3, y4, y5⟩ := feed_cells KRY.out
      exact bodyPost_ret (v := .tuple #[feedV p hl hd ht X1 q1 e1 X2 q2 e2, .int .i64 0]) (by simp [results, Tryd.results12, go_sem, y0, y1, y2, y3, y4, y5]) rfl (⟨X1, e1, X2, e2, by rw [HFN.out, ← HQ1.out, ← HQ2.out], by rw [HFN.out]; exact hoF, HBY.out⟩)
    · have hcn : (C != 0) = true := bne_iff_ne.2 hc
      have hcn2 : (C == 0) = false := beq_eq_false_iff_ne.2 hc
      have HFN : Hid (headF ⟨p, l, d, s, bs, hs⟩ hl hd ht zs = ⟨p, l, d, s, bs, hs⟩) := headF_same (by rw [HC.out]; omega) (by rw [HC.out]; exact hc)
      have CW2 : Hid (∀ U, Below w.heap.size w U → Calls Tryd.prog 45 #[feedV p l d s A1 nb c1 A2 nh c2, headV l d s] U (FeedMade U p l d s bs hs)) := fun U hU => by
        have h := CW.out U hU nb d s hn16 (Nat.le_refl _) (by omega)
        rw [hbl, longS_same (by rw [HNB.out]; exact Nat.le_refl _), longB_same (by rw [HNH.out]; omega)] at h
        exact h
      clear hO hok hbl CW hhl hn16
      go_enter Tryd.func12, Tryd.ntmps12
      go_wp2_with fail
      rw [HW.out]
      refine (CV.out _ HB.out).mono ?_
      rintro e w1 ⟨rfl, hb1⟩
      have KF1 := Lib.hid (KF.out.below hb1 KF.out.lt)
      have KH1 := Lib.hid (KH.out.below hb1 KH.out.lt)
      have KZ1 := Lib.hid (KZ.out.below hb1 KZ.out.lt)
      have HB1 : Hid (Below w.heap.size w w1) := HB.out.trans (hb1.mono HB.out.size)
      clear hb1
      obtain ⟨k0, k1, k2, k3, k4, k5⟩ := feed_cells KF1.out
      have h0 : w1.cell? ⟨w.heap.size + 1, 0, none⟩ = some (.int .i64 hl) := KH1.out.cell 0
      have h1 : w1.cell? ⟨w.heap.size + 1, 1, none⟩ = some (.int .i64 hd) := KH1.out.cell 1
      have h2 : w1.cell? ⟨w.heap.size + 1, 2, none⟩ = some (.int .i64 ht) := KH1.out.cell 2
      go_wp2_with fail
      refine (CR2.out _ HB1.out).mono ?_
      rintro e w2 ⟨rfl, hb2⟩
      have KF2 := Lib.hid (KF1.out.below hb2 KF1.out.lt)
      have KH2 := Lib.hid (KH1.out.below hb2 KH1.out.lt)
      have KZ2 := Lib.hid (KZ1.out.below hb2 KZ1.out.lt)
      have HB2 : Hid (Below w.heap.size w w2) := HB1.out.trans (hb2.mono HB1.out.size)
      clear hb2 k0 k1 k2 k3 k4 k5 h0 h1 h2
      obtain ⟨k0, k1, k2, k3, k4, k5⟩ := feed_cells KF2.out
      have h0 : w2.cell? ⟨w.heap.size + 1, 0, none⟩ = some (.int .i64 hl) := KH2.out.cell 0
      have h1 : w2.cell? ⟨w.heap.size + 1, 1, none⟩ = some (.int .i64 hd) := KH2.out.cell 1
      have h2 : w2.cell? ⟨w.heap.size + 1, 2, none⟩ = some (.int .i64 ht) := KH2.out.cell 2
      go_wp2_with fail
      refine (headCode_ref (HE.out.below HB2.out) _ hC0 hC4).mono ?_
      rintro e w' ⟨rfl, rfl⟩
      go_wp2_with fail
      refine (CW2.out _ HB2.out).mono ?_
      rintro e w3 ⟨X1, e1, X2, e2, rfl, ho3, hb3⟩
      have KZ3 := Lib.hid (KZ2.out.below hb3 KZ2.out.lt)
      have HB3 : Hid (Below w.heap.size w w3) := HB2.out.trans (hb3.mono HB2.out.size)
      have HO3 := Lib.hid (ho3.base_le HB2.out.size)
      clear ho3 hb3 k0 k1 k2 k3 k4 k5 h0 h1 h2
      rw [HNB.out, HNH.out]
      obtain ⟨r0, r1, r2, r3, r4, r5⟩ := feed_cells KZ3.out
      have rf := blk_frozen KZ3.out
      go_wp2
      obtain ⟨Y, HY⟩ : ∃ Y, Hid (((((((w3.setCell ⟨w.heap.size + 1 + 1, 0, none⟩ (.int .i64 p)).setCell ⟨w.heap.size + 1 + 1, 1, none⟩ (.int .i64 l)).setCell ⟨w.heap.size + 1 + 1, 2, none⟩ (.int .i64 d)).setCell ⟨w.heap.size + 1 + 1, 3, none⟩ (.int .i64 s)).setCell ⟨w.heap.size + 1 + 1, 4, none⟩ (.slice X1 nb e1)).setCell ⟨w.heap.size + 1 + 1, 5, none⟩ (.slice X2 nh e2)) = Y) := ⟨_, rfl⟩
      have HBY : Hid (Below w.heap.size w Y) := by rw [← HY.out]; exact below_six HB3.out (by omega) _ _ _ _ _ _
      have KRY : Hid (Blk Y (w.heap.size + 1 + 1) 28 (feedC p l d s X1 nb e1 X2 nh e2)) := by rw [← HY.out]; exact blk_six KZ3.out _ _ _ _ _ _
      have hoF : OwnFeed Y w.heap.size X1 e1 X2 e2 bs hs := by rw [← HY.out]; exact own_six HO3.out KZ3.out _ _ _ _ _ _
      rw [HY.out]
      obtain ⟨y0, y1, y2, y3, y4, y5⟩ := feed_cells KRY.out
      exact bodyPost_ret (v := .tuple #[feedV p l d s X1 nb e1 X2 nh e2, .int .i64 C]) (by simp [results, Tryd.results12, go_sem, y0, y1, y2, y3, y4, y5]) rfl (⟨X1, e1, X2, e2, by rw [HFN.out]; show _ = Ending.returned (.tuple #[feedV p l d s X1 bs.length e1 X2 hs.length e2, .int .i64 C]); rw [HNB.out, HNH.out], by rw [HFN.out]; exact hoF, HBY.out⟩)

end Go.Proofs.YtlpdoieiiadhhaaDoor
