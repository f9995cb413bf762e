/- Contracts of headRefusal and FeedHead: the code that answers a head, and the feed that comes of it, in memory of its own; nothing that was there is changed. Conditions: the feed and the proof lie in memory; the globals hold four different errors. -/
import Derived.Test.YtlpdoieiiadhhaaDoorWithHead
import Derived.Test.YtlpdoieiiadhhaaDoorHeadCode
import Derived.Test.YtlpdoieiiadhhaaDoorSFeedValid
import Derived.Test.YtlpdoieiiadhhaaDoorDrawFeed
namespace Go.Proofs.YtlpdoieiiadhhaaDoor
open Go.RowKit
set_option linter.unusedVariables false

theorem cell_keep {w w' : World} (hb : Below w.heap.size w w') {g : Nat} {v : Value} (h : w.cell? ⟨g, 0, none⟩ = some v) : w'.cell? ⟨g, 0, none⟩ = some v := (hb.cell (p := ⟨g, 0, none⟩) (World.block_lt_of_cell? w _ h)).trans h
theorem ErrRow.below {w w' : World} {a : Addr} (h : ErrRow w a) (hb : Below w.heap.size w w') : ErrRow w' a := by
  obtain ⟨c, t, h⟩ := h
  exact ⟨c, t, (hb.block a.block (Array.getElem?_eq_some_iff.1 h).1).trans h⟩
theorem Errs.below {w w' : World} {a0 a1 a2 a3 : Addr} (h : Errs w a0 a1 a2 a3) (hb : Below w.heap.size w w') : Errs w' a0 a1 a2 a3 :=
  ⟨cell_keep hb h.g0, cell_keep hb h.g1, cell_keep hb h.g2, cell_keep hb h.g3, h.r0.below hb, h.r1.below hb, h.r2.below hb, h.r3.below hb, h.n01, h.n02, h.n03, h.n12, h.n13, h.n23⟩
/-- The refusal that a code stands for. -/
def refV (a0 a1 a2 a3 : Addr) (c : Int) : Value := if c = 1 then errV a0 else if c = 2 then errV a1 else if c = 3 then errV a2 else if c = 4 then errV a3 else .nilIface
theorem headCode_ref {w : World} {a0 a1 a2 a3 : Addr} (h : Errs w a0 a1 a2 a3) (c : Int) (h0 : 0 ≤ c) (h4 : c ≤ 4) :
    Calls Tryd.prog 43 #[refV a0 a1 a2 a3 c] w fun e w' => e = .returned (.int .i64 c) ∧ w = w' := by
  have hc : c = 0 ∨ c = 1 ∨ c = 2 ∨ c = 3 ∨ c = 4 := by omega
  rcases hc with rfl | rfl | rfl | rfl | rfl
  · exact headCode_nil h
  · exact headCode_0 h
  · exact headCode_1 h
  · exact headCode_2 h
  · exact headCode_3 h

/-- A proof of growth that came in. -/
structure GrowthAt (w : World) (X : Option Addr) (cz : Nat) (zs : List Int) : Prop where
  ints : IntsAt w w.heap.size X zs
  le : zs.length ≤ cz
  most : cz ≤ maxLen
theorem GrowthAt.below {w w' : World} {X : Option Addr} {cz : Nat} {zs : List Int} (h : GrowthAt w X cz zs) (hb : Below w.heap.size w w') : GrowthAt w' X cz zs := ⟨h.ints.belowS hb, h.le, h.most⟩

set_option maxHeartbeats 8000000 in
set_option maxRecDepth 100000 in
theorem headRefusal_any {a0 a1 a2 a3 : Addr} (p l d s : Int) (A1 : Option Addr) (c1 : Nat) (A2 : Option Addr) (c2 : Nat) (bs : List ByteArray) (hs : List Bool) (hl hd ht : Int) (X : Option Addr) (cz : Nat) (zs : List Int) (w : World) (hE : Errs w a0 a1 a2 a3) (hG : GrowthAt w X cz zs) (hO : okB ⟨p, l, d, s, bs, hs⟩ = true) :
    Calls Tryd.prog 44 #[feedV p l d s A1 bs.length c1 A2 hs.length c2, headV hl hd ht, .slice X zs.length cz] w fun e w' => e = .returned (refV a0 a1 a2 a3 (codeZ ⟨p, l, d, s, bs, hs⟩ hl hd ht zs)) ∧ Below w.heap.size w w' := by
  have HE := Lib.hid hE
  have HG := Lib.hid hG
  obtain ⟨C, HC⟩ : ∃ C, Hid (codeZ ⟨p, l, d, s, bs, hs⟩ hl hd ht zs = C) := ⟨_, rfl⟩
  have hcs := code_cases ⟨p, l, d, s, bs, hs⟩ hl hd ht zs
  rw [HC.out] at hcs ⊢
  have CG : Hid (∀ U, Below w.heap.size w U → Calls Tryd.prog 20 #[.int .i64 l, .int .i64 d, .int .i64 hl, .int .i64 hd, .slice X zs.length cz] U fun e w' => e = .returned (.bool (growOkB l d hl hd zs)) ∧ Below U.heap.size U w') := fun U hU => gcheck_any zs l d hl hd X cz U (HG.out.below hU).ints hG.le hG.most
  obtain ⟨W, HW⟩ : ∃ W, Hid (((w.alloc (.cells (feedC p l d s A1 bs.length c1 A2 hs.length c2) 28)).alloc (.cells #[.int .i64 hl, .int .i64 hd, .int .i64 ht] 24)).alloc (.cells #[.int .i64 l, .int .i64 d, .int .i64 s] 24) = W) := ⟨_, rfl⟩
  have KF : Hid (Blk W w.heap.size 28 (feedC p l d s A1 bs.length c1 A2 hs.length c2)) := by rw [← HW.out]; exact ((Blk.new w _ _).alloc _).alloc _
  have KH : Hid (Blk W (w.heap.size + 1) 24 #[.int .i64 hl, .int .i64 hd, .int .i64 ht]) := by
    rw [← HW.out]
    have h := (Blk.new (w.alloc (.cells (feedC p l d s A1 bs.length c1 A2 hs.length c2) 28)) 24 #[.int .i64 hl, .int .i64 hd, .int .i64 ht]).alloc (.cells #[.int .i64 l, .int .i64 d, .int .i64 s] 24)
    rw [World.size_alloc] at h
    exact h
  have KL : Hid (Blk W (w.heap.size + 1 + 1) 24 #[.int .i64 l, .int .i64 d, .int .i64 s]) := by
    rw [← HW.out]
    have h := Blk.new ((w.alloc (.cells (feedC p l d s A1 bs.length c1 A2 hs.length c2) 28)).alloc (.cells #[.int .i64 hl, .int .i64 hd, .int .i64 ht] 24)) 24 #[.int .i64 l, .int .i64 d, .int .i64 s]
    rw [World.size_alloc, World.size_alloc] at h
    exact h
  have HB : Hid (Below w.heap.size w W) := by rw [← HW.out]; exact (((Below.refl _ w).alloc (Nat.le_refl _) _).alloc (by simp) _).alloc (by simp; omega) _
  have CK : Hid (∀ U, Calls Tryd.prog 15 #[.int .i64 p, .agg #[.int .i64 hl, .int .i64 hd, .int .i64 ht]] U fun e w' => e = .returned (.bool (signedB p hl hd ht)) ∧ Below U.heap.size U w') := check_any p hl hd ht
  obtain ⟨nb, HNB⟩ : ∃ n, Hid (bs.length = n) := ⟨_, rfl⟩
  obtain ⟨nh, HNH⟩ : ∃ n, Hid (hs.length = n) := ⟨_, rfl⟩
  obtain ⟨nz, HNZ⟩ : ∃ n, Hid (zs.length = n) := ⟨_, rfl⟩
  have hl0 := ((okB_iff _).1 hO).2.1.len.1
  simp only at hl0
  rw [HNB.out, HNH.out] at HW KF
  rw [HNZ.out] at CG
  rw [HNB.out, HNH.out, HNZ.out]
  clear hE hG
  rcases hcs with k | ⟨-, k, hC⟩ | ⟨-, hu, hln, e1, e2, e3, hC⟩ | ⟨-, hu, hln, hlt, hC⟩ | ⟨-, hu, hln, e1, hne, hC⟩ | ⟨-, hu, hln, hlt, h0, hg, hC⟩ | ⟨-, hu, hln, hlt, hg, hC⟩
  · exact absurd hO (by rw [k.1]; decide)
  · subst hC
    cases hu : signedB p hl hd ht with
    | false =>
      rw [hu] at CK
      clear k hu
      go_enter Tryd.func44, Tryd.ntmps44
      go_wp2_with fail
      rw [HW.out]
      refine (CK.out _).mono ?_
      rintro e w1 ⟨rfl, hb1⟩
      have KH1 := Lib.hid (KH.out.below hb1 KH.out.lt)
      have KL1 := Lib.hid (KL.out.below hb1 KL.out.lt)
      have HB1 : Hid (Below w.heap.size w w1) := HB.out.trans (hb1.mono HB.out.size)
      have HE1 := Lib.hid (HE.out.below HB1.out)
      obtain ⟨g0, g1, g2, g3, -, -, -, -, -, -, -, -, -, -⟩ := HE1.out
      have h0 : w1.cell? ⟨w.heap.size + 1, 0, none⟩ = some (.int .i64 hl) := KH1.out.cell 0
      have h1 : w1.cell? ⟨w.heap.size + 1, 1, none⟩ = some (.int .i64 hd) := KH1.out.cell 1
      have h2 : w1.cell? ⟨w.heap.size + 1, 2, none⟩ = some (.int .i64 ht) := KH1.out.cell 2
      have j0 : w1.cell? ⟨w.heap.size + 1 + 1, 0, none⟩ = some (.int .i64 l) := KL1.out.cell 0
      have j1 : w1.cell? ⟨w.heap.size + 1 + 1, 1, none⟩ = some (.int .i64 d) := KL1.out.cell 1
      have j2 : w1.cell? ⟨w.heap.size + 1 + 1, 2, none⟩ = some (.int .i64 s) := KL1.out.cell 2
      clear hb1
      go_wp2
      go_ret
      exact ⟨rfl, HB1.out⟩
    | true =>
      rw [hu] at CK
      have hz : hl = 0 := by
        rcases k with k | k
        · have : signedB p hl hd ht = false := k
          rw [hu] at this; cases this
        · exact k
      have hl1 : (hl == 0) = true := by rw [hz]; rfl
      clear k hu hz
      go_enter Tryd.func44, Tryd.ntmps44
      go_wp2_with fail
      rw [HW.out]
      refine (CK.out _).mono ?_
      rintro e w1 ⟨rfl, hb1⟩
      have KH1 := Lib.hid (KH.out.below hb1 KH.out.lt)
      have KL1 := Lib.hid (KL.out.below hb1 KL.out.lt)
      have HB1 : Hid (Below w.heap.size w w1) := HB.out.trans (hb1.mono HB.out.size)
      have HE1 := Lib.hid (HE.out.below HB1.out)
      obtain ⟨g0, g1, g2, g3, -, -, -, -, -, -, -, -, -, -⟩ := HE1.out
      have h0 : w1.cell? ⟨w.heap.size + 1, 0, none⟩ = some (.int .i64 hl) := KH1.out.cell 0
      have h1 : w1.cell? ⟨w.heap.size + 1, 1, none⟩ = some (.int .i64 hd) := KH1.out.cell 1
      have h2 : w1.cell? ⟨w.heap.size + 1, 2, none⟩ = some (.int .i64 ht) := KH1.out.cell 2
      have j0 : w1.cell? ⟨w.heap.size + 1 + 1, 0, none⟩ = some (.int .i64 l) := KL1.out.cell 0
      have j1 : w1.cell? ⟨w.heap.size + 1 + 1, 1, none⟩ = some (.int .i64 d) := KL1.out.cell 1
      have j2 : w1.cell? ⟨w.heap.size + 1 + 1, 2, none⟩ = some (.int .i64 s) := KL1.out.cell 2
      clear hb1
      go_wp2
      go_ret
      exact ⟨rfl, HB1.out⟩
  · subst hC
    have e1' : (hl == l) = true := by rw [show hl = l from e1]; exact beq_self_eq_true l
    have e2' : (hd == d) = true := by rw [show hd = d from e2]; exact beq_self_eq_true d
    have e3' : (ht == s) = true := by rw [show ht = s from e3]; exact beq_self_eq_true s
    clear e1 e2 e3
    have hu' : signedB p hl hd ht = true := hu
    rw [hu'] at CK
    have hl1 : (hl == 0) = false := beq_eq_false_iff_ne.2 hln
    clear hu hu'
    go_enter Tryd.func44, Tryd.ntmps44
    go_wp2_with fail
    rw [HW.out]
    refine (CK.out _).mono ?_
    rintro e w1 ⟨rfl, hb1⟩
    have KH1 := Lib.hid (KH.out.below hb1 KH.out.lt)
    have KL1 := Lib.hid (KL.out.below hb1 KL.out.lt)
    have HB1 : Hid (Below w.heap.size w w1) := HB.out.trans (hb1.mono HB.out.size)
    have HE1 := Lib.hid (HE.out.below HB1.out)
    obtain ⟨g0, g1, g2, g3, -, -, -, -, -, -, -, -, -, -⟩ := HE1.out
    have h0 : w1.cell? ⟨w.heap.size + 1, 0, none⟩ = some (.int .i64 hl) := KH1.out.cell 0
    have h1 : w1.cell? ⟨w.heap.size + 1, 1, none⟩ = some (.int .i64 hd) := KH1.out.cell 1
    have h2 : w1.cell? ⟨w.heap.size + 1, 2, none⟩ = some (.int .i64 ht) := KH1.out.cell 2
    have j0 : w1.cell? ⟨w.heap.size + 1 + 1, 0, none⟩ = some (.int .i64 l) := KL1.out.cell 0
    have j1 : w1.cell? ⟨w.heap.size + 1 + 1, 1, none⟩ = some (.int .i64 d) := KL1.out.cell 1
    have j2 : w1.cell? ⟨w.heap.size + 1 + 1, 2, none⟩ = some (.int .i64 s) := KL1.out.cell 2
    clear hb1
    go_wp2
    go_ret
    exact ⟨rfl, HB1.out⟩
  · subst hC
    have hlt' : hl < l := hlt
    have hu' : signedB p hl hd ht = true := hu
    rw [hu'] at CK
    have hl1 : (hl == 0) = false := beq_eq_false_iff_ne.2 hln
    have hl2 : (hl == l) = false := beq_eq_false_iff_ne.2 (by omega)
    clear hu hu' hlt
    go_enter Tryd.func44, Tryd.ntmps44
    go_wp2_with fail
    rw [HW.out]
    refine (CK.out _).mono ?_
    rintro e w1 ⟨rfl, hb1⟩
    have KH1 := Lib.hid (KH.out.below hb1 KH.out.lt)
    have KL1 := Lib.hid (KL.out.below hb1 KL.out.lt)
    have HB1 : Hid (Below w.heap.size w w1) := HB.out.trans (hb1.mono HB.out.size)
    have HE1 := Lib.hid (HE.out.below HB1.out)
    obtain ⟨g0, g1, g2, g3, -, -, -, -, -, -, -, -, -, -⟩ := HE1.out
    have h0 : w1.cell? ⟨w.heap.size + 1, 0, none⟩ = some (.int .i64 hl) := KH1.out.cell 0
    have h1 : w1.cell? ⟨w.heap.size + 1, 1, none⟩ = some (.int .i64 hd) := KH1.out.cell 1
    have h2 : w1.cell? ⟨w.heap.size + 1, 2, none⟩ = some (.int .i64 ht) := KH1.out.cell 2
    have j0 : w1.cell? ⟨w.heap.size + 1 + 1, 0, none⟩ = some (.int .i64 l) := KL1.out.cell 0
    have j1 : w1.cell? ⟨w.heap.size + 1 + 1, 1, none⟩ = some (.int .i64 d) := KL1.out.cell 1
    have j2 : w1.cell? ⟨w.heap.size + 1 + 1, 2, none⟩ = some (.int .i64 s) := KL1.out.cell 2
    clear hb1
    go_wp2
    go_ret
    exact ⟨rfl, HB1.out⟩
  · subst hC
    have e1' : (hl == l) = true := by rw [show hl = l from e1]; exact beq_self_eq_true l
    have e1n : ¬ hl < l := by have h : hl = l := e1; omega
    have hne' : ¬ (hd = d ∧ ht = s) := hne
    clear e1 hne
    have hu' : signedB p hl hd ht = true := hu
    rw [hu'] at CK
    have hl1 : (hl == 0) = false := beq_eq_false_iff_ne.2 hln
    clear hu hu'
    by_cases e2 : hd = d
    · have e3 : (ht == s) = false := beq_eq_false_iff_ne.2 fun e => hne' ⟨e2, e⟩
      have e2' : (hd == d) = true := by rw [e2]; exact beq_self_eq_true d
      clear hne' e2
      go_enter Tryd.func44, Tryd.ntmps44
      go_wp2_with fail
      rw [HW.out]
      refine (CK.out _).mono ?_
      rintro e w1 ⟨rfl, hb1⟩
      have KH1 := Lib.hid (KH.out.below hb1 KH.out.lt)
      have KL1 := Lib.hid (KL.out.below hb1 KL.out.lt)
      have HB1 : Hid (Below w.heap.size w w1) := HB.out.trans (hb1.mono HB.out.size)
      have HE1 := Lib.hid (HE.out.below HB1.out)
      obtain ⟨g0, g1, g2, g3, -, -, -, -, -, -, -, -, -, -⟩ := HE1.out
      have h0 : w1.cell? ⟨w.heap.size + 1, 0, none⟩ = some (.int .i64 hl) := KH1.out.cell 0
      have h1 : w1.cell? ⟨w.heap.size + 1, 1, none⟩ = some (.int .i64 hd) := KH1.out.cell 1
      have h2 : w1.cell? ⟨w.heap.size + 1, 2, none⟩ = some (.int .i64 ht) := KH1.out.cell 2
      have j0 : w1.cell? ⟨w.heap.size + 1 + 1, 0, none⟩ = some (.int .i64 l) := KL1.out.cell 0
      have j1 : w1.cell? ⟨w.heap.size + 1 + 1, 1, none⟩ = some (.int .i64 d) := KL1.out.cell 1
      have j2 : w1.cell? ⟨w.heap.size + 1 + 1, 2, none⟩ = some (.int .i64 s) := KL1.out.cell 2
      clear hb1
      go_wp2
      go_ret
      exact ⟨rfl, HB1.out⟩
    · have e3 : (hd == d) = false := beq_eq_false_iff_ne.2 e2
      clear hne'
      go_enter Tryd.func44, Tryd.ntmps44
      go_wp2_with fail
      rw [HW.out]
      refine (CK.out _).mono ?_
      rintro e w1 ⟨rfl, hb1⟩
      have KH1 := Lib.hid (KH.out.below hb1 KH.out.lt)
      have KL1 := Lib.hid (KL.out.below hb1 KL.out.lt)
      have HB1 : Hid (Below w.heap.size w w1) := HB.out.trans (hb1.mono HB.out.size)
      have HE1 := Lib.hid (HE.out.below HB1.out)
      obtain ⟨g0, g1, g2, g3, -, -, -, -, -, -, -, -, -, -⟩ := HE1.out
      have h0 : w1.cell? ⟨w.heap.size + 1, 0, none⟩ = some (.int .i64 hl) := KH1.out.cell 0
      have h1 : w1.cell? ⟨w.heap.size + 1, 1, none⟩ = some (.int .i64 hd) := KH1.out.cell 1
      have h2 : w1.cell? ⟨w.heap.size + 1, 2, none⟩ = some (.int .i64 ht) := KH1.out.cell 2
      have j0 : w1.cell? ⟨w.heap.size + 1 + 1, 0, none⟩ = some (.int .i64 l) := KL1.out.cell 0
      have j1 : w1.cell? ⟨w.heap.size + 1 + 1, 1, none⟩ = some (.int .i64 d) := KL1.out.cell 1
      have j2 : w1.cell? ⟨w.heap.size + 1 + 1, 2, none⟩ = some (.int .i64 s) := KL1.out.cell 2
      clear hb1
      go_wp2
      go_ret
      exact ⟨rfl, HB1.out⟩
  · subst hC
    have hlt' : l < hl := hlt
    have h0' : 0 < l := h0
    have hu' : signedB p hl hd ht = true := hu
    have hg' : growOkB l d hl hd zs = false := hg
    rw [hu'] at CK
    rw [hg'] at CG
    have hl1 : (hl == 0) = false := beq_eq_false_iff_ne.2 hln
    have hl2 : (hl == l) = false := beq_eq_false_iff_ne.2 (by omega)
    have hl3 : ¬ hl < l := by omega
    clear hu hu' hlt h0 hg hg'
    go_enter Tryd.func44, Tryd.ntmps44
    go_wp2_with fail
    rw [HW.out]
    refine (CK.out _).mono ?_
    rintro e w1 ⟨rfl, hb1⟩
    have KH1 := Lib.hid (KH.out.below hb1 KH.out.lt)
    have KL1 := Lib.hid (KL.out.below hb1 KL.out.lt)
    have HB1 : Hid (Below w.heap.size w w1) := HB.out.trans (hb1.mono HB.out.size)
    have HE1 := Lib.hid (HE.out.below HB1.out)
    obtain ⟨g0, g1, g2, g3, -, -, -, -, -, -, -, -, -, -⟩ := HE1.out
    have h0 : w1.cell? ⟨w.heap.size + 1, 0, none⟩ = some (.int .i64 hl) := KH1.out.cell 0
    have h1 : w1.cell? ⟨w.heap.size + 1, 1, none⟩ = some (.int .i64 hd) := KH1.out.cell 1
    have h2 : w1.cell? ⟨w.heap.size + 1, 2, none⟩ = some (.int .i64 ht) := KH1.out.cell 2
    have j0 : w1.cell? ⟨w.heap.size + 1 + 1, 0, none⟩ = some (.int .i64 l) := KL1.out.cell 0
    have j1 : w1.cell? ⟨w.heap.size + 1 + 1, 1, none⟩ = some (.int .i64 d) := KL1.out.cell 1
    have j2 : w1.cell? ⟨w.heap.size + 1 + 1, 2, none⟩ = some (.int .i64 s) := KL1.out.cell 2
    clear hb1
    go_wp2_with fail
    refine (CG.out _ HB1.out).mono ?_
    rintro e w2 ⟨rfl, hb2⟩
    have HB2 : Hid (Below w.heap.size w w2) := HB1.out.trans (hb2.mono HB1.out.size)
    have HE2 := Lib.hid (HE.out.below HB2.out)
    clear g0 g1 g2 g3 hb2
    obtain ⟨g0, g1, g2, g3, -, -, -, -, -, -, -, -, -, -⟩ := HE2.out
    go_wp2
    go_ret
    exact ⟨rfl, HB2.out⟩
  · subst hC
    have hlt' : l < hl := hlt
    have hu' : signedB p hl hd ht = true := hu
    rw [hu'] at CK
    have hl1 : (hl == 0) = false := beq_eq_false_iff_ne.2 hln
    have hl2 : (hl == l) = false := beq_eq_false_iff_ne.2 (by omega)
    have hl3 : ¬ hl < l := by omega
    by_cases h0' : 0 < l
    · have hg' : growOkB l d hl hd zs = true := by
        rcases hg with k | k
        · exfalso; have k' : l ≤ 0 := k; omega
        · exact k
      rw [hg'] at CG
      clear hu hu' hlt hg hg'
      go_enter Tryd.func44, Tryd.ntmps44
      go_wp2_with fail
      rw [HW.out]
      refine (CK.out _).mono ?_
      rintro e w1 ⟨rfl, hb1⟩
      have KH1 := Lib.hid (KH.out.below hb1 KH.out.lt)
      have KL1 := Lib.hid (KL.out.below hb1 KL.out.lt)
      have HB1 : Hid (Below w.heap.size w w1) := HB.out.trans (hb1.mono HB.out.size)
      have HE1 := Lib.hid (HE.out.below HB1.out)
      obtain ⟨g0, g1, g2, g3, -, -, -, -, -, -, -, -, -, -⟩ := HE1.out
      have h0 : w1.cell? ⟨w.heap.size + 1, 0, none⟩ = some (.int .i64 hl) := KH1.out.cell 0
      have h1 : w1.cell? ⟨w.heap.size + 1, 1, none⟩ = some (.int .i64 hd) := KH1.out.cell 1
      have h2 : w1.cell? ⟨w.heap.size + 1, 2, none⟩ = some (.int .i64 ht) := KH1.out.cell 2
      have j0 : w1.cell? ⟨w.heap.size + 1 + 1, 0, none⟩ = some (.int .i64 l) := KL1.out.cell 0
      have j1 : w1.cell? ⟨w.heap.size + 1 + 1, 1, none⟩ = some (.int .i64 d) := KL1.out.cell 1
      have j2 : w1.cell? ⟨w.heap.size + 1 + 1, 2, none⟩ = some (.int .i64 s) := KL1.out.cell 2
      clear hb1
      go_wp2_with fail
      refine (CG.out _ HB1.out).mono ?_
      rintro e w2 ⟨rfl, hb2⟩
      have HB2 : Hid (Below w.heap.size w w2) := HB1.out.trans (hb2.mono HB1.out.size)
      have HE2 := Lib.hid (HE.out.below HB2.out)
      clear g0 g1 g2 g3 hb2
      obtain ⟨g0, g1, g2, g3, -, -, -, -, -, -, -, -, -, -⟩ := HE2.out
      go_wp2
      go_ret
      exact ⟨rfl, HB2.out⟩
    · have hz : decide (0 < l) = false := by simp; omega
      clear hu hu' hlt hg
      go_enter Tryd.func44, Tryd.ntmps44
      go_wp2_with fail
      rw [HW.out]
      refine (CK.out _).mono ?_
      rintro e w1 ⟨rfl, hb1⟩
      have KH1 := Lib.hid (KH.out.below hb1 KH.out.lt)
      have KL1 := Lib.hid (KL.out.below hb1 KL.out.lt)
      have HB1 : Hid (Below w.heap.size w w1) := HB.out.trans (hb1.mono HB.out.size)
      have HE1 := Lib.hid (HE.out.below HB1.out)
      obtain ⟨g0, g1, g2, g3, -, -, -, -, -, -, -, -, -, -⟩ := HE1.out
      have h0 : w1.cell? ⟨w.heap.size + 1, 0, none⟩ = some (.int .i64 hl) := KH1.out.cell 0
      have h1 : w1.cell? ⟨w.heap.size + 1, 1, none⟩ = some (.int .i64 hd) := KH1.out.cell 1
      have h2 : w1.cell? ⟨w.heap.size + 1, 2, none⟩ = some (.int .i64 ht) := KH1.out.cell 2
      have j0 : w1.cell? ⟨w.heap.size + 1 + 1, 0, none⟩ = some (.int .i64 l) := KL1.out.cell 0
      have j1 : w1.cell? ⟨w.heap.size + 1 + 1, 1, none⟩ = some (.int .i64 d) := KL1.out.cell 1
      have j2 : w1.cell? ⟨w.heap.size + 1 + 1, 2, none⟩ = some (.int .i64 s) := KL1.out.cell 2
      clear hb1
      go_wp2
      go_ret
      exact ⟨rfl, HB1.out⟩

end Go.Proofs.YtlpdoieiiadhhaaDoor
