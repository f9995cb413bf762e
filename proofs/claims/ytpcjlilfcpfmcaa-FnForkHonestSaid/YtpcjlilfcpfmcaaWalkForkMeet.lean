/- The walks of FnForkMeet and FnForkHonest: they return true and change nothing that was there. Condition: the codes' bytes lie in memory. -/
import Derived.Test.YtpcjlilfcpfmcaaDrawMeet
import Derived.Test.YtpcjlilfcpfmcaaForkMeet
namespace Go.Proofs.Ytpcjlilfcpfmcaa
open Go.RowKit
set_option linter.unusedVariables false

/-- Two valid feeds of one writer whose heads of length 0 have no signature: a proof is just two heads of one length with different digests. -/
theorem meet_honest {f g : FD} (hf : okB f = true) (hg : okB g = true) (hp : f.p = g.p) (h0 : f.l = 0 → f.s = 0) (h1 : g.l = 0 → g.s = 0) : meetB f g = (decide (f.l = g.l) && decide (f.d ≠ g.d)) := by
  have F := ((okB_iff f).1 hf).2.1
  have G := ((okB_iff g).1 hg).2.1
  rw [Bool.eq_iff_iff, meetB_iff, Bool.and_eq_true, decide_eq_true_eq, decide_eq_true_eq, forkB_iff]
  constructor
  · intro h; exact h.2.2.2.2.2
  · rintro ⟨hl, hd⟩
    have z : ∀ (x : FD), HeadOk x → (x.l = 0 → x.s = 0) → x.l = 0 → x.d = 0 := fun x hx hz hl0 => by
      rcases hx with k | k
      · exact k.2.1
      · have := ((signedB_iff _ _ _ _).1 k).2.2.2.1; have := hz hl0; omega
    have sg : ∀ (x : FD), HeadOk x → x.l ≠ 0 → signedB x.p x.l x.d x.s = true := fun x hx hn => by
      rcases hx with k | k
      · exact absurd k.1 hn
      · exact k
    by_cases h : f.l = 0
    · exact absurd ((z f F h0 h).trans (z g G h1 (by omega)).symm) hd
    · refine ⟨hf, hg, hp, sg f F h, ?_, hl, hd⟩
      rw [hp]; exact sg g G (by omega)

set_option maxHeartbeats 8000000 in
set_option maxRecDepth 100000 in
theorem walkForkMeet (A : Option Addr) (len cap : Nat) (w : World) (hI : In w A len cap) :
    Calls Try.prog 5 #[.slice A len cap] w fun e w' => e = .returned (.bool true) ∧ Below w.heap.size w w' := by
  have hm := hI.len_le
  unfold maxLen at hm
  have HI := Lib.hid hI
  clear hI
  by_cases hlen : len ≤ 1048576
  · go_enter Try.func5, Try.ntmps5
    go_wp2_with fail
    refine (drawForkMeet_any A len cap _ HI.out).mono ?_
    rintro e w1 ⟨p, l, d, s, A1, c1, A2, c2, bs, hs, q, m, i, t, A3, c3, A4, c4, cs, ks, rfl, ho, ho2, hlb, hlh, hlc, hlk, hz1, hz2, hb1⟩
    have HB1 := Lib.hid hb1
    have HF := Lib.hid ho.at_
    have HG := Lib.hid ho2.at_
    have HZ1 := Lib.hid hz1
    have HZ2 := Lib.hid hz2
    clear ho ho2 hb1 hz1 hz2
    obtain ⟨R, HR⟩ : ∃ R, Hid (meetB ⟨p, l, d, s, bs, hs⟩ ⟨q, m, i, t, cs, ks⟩ = R) := ⟨_, rfl⟩
    have CI : Hid (∀ U, Below w1.heap.size w1 U → Calls Try.prog 14 #[feedV p l d s A1 bs.length c1 A2 hs.length c2, feedV q m i t A3 cs.length c3 A4 ks.length c4] U fun e w' => e = .returned (.tuple #[meetV R p l d s m i t, .bool R]) ∧ Below U.heap.size U w') := fun U hU => by
      have h := forkMeet_any p l d s A1 c1 A2 c2 bs hs q m i t A3 c3 A4 c4 cs ks U (HF.out.belowS hU) (HG.out.belowS hU)
      rw [HR.out] at h
      exact h
    have CS : Hid (∀ U, Below w1.heap.size w1 U → Calls Try.prog 15 #[feedV p l d s A1 bs.length c1 A2 hs.length c2, feedV q m i t A3 cs.length c3 A4 ks.length c4] U fun e w' => e = .returned (.tuple #[meetV R p l d s m i t, .bool R]) ∧ Below U.heap.size U w') := fun U hU => by
      have h := sforkMeet_any p l d s A1 c1 A2 c2 bs hs q m i t A3 c3 A4 c4 cs ks U (HF.out.belowS hU) (HG.out.belowS hU)
      rw [HR.out] at h
      exact h
    have CB : Hid (R = true → ∀ U, Below w1.heap.size w1 U → Calls Try.prog 14 #[feedV q m i t A3 cs.length c3 A4 ks.length c4, feedV p l d s A1 bs.length c1 A2 hs.length c2] U fun e w' => e = .returned (.tuple #[forkV q m i t l d s, .bool true]) ∧ Below U.heap.size U w') := fun hR U hU => by
      have h := forkMeet_any q m i t A3 c3 A4 c4 cs ks p l d s A1 c1 A2 c2 bs hs U (HG.out.belowS hU) (HF.out.belowS hU)
      rw [meetB_swap (by rw [HR.out]; exact hR)] at h
      exact h
    obtain ⟨nb, HNB⟩ : ∃ n, Hid (bs.length = n) := ⟨_, rfl⟩
    obtain ⟨nh, HNH⟩ : ∃ n, Hid (hs.length = n) := ⟨_, rfl⟩
    obtain ⟨nc, HNC⟩ : ∃ n, Hid (cs.length = n) := ⟨_, rfl⟩
    obtain ⟨nk, HNK⟩ : ∃ n, Hid (ks.length = n) := ⟨_, rfl⟩
    rw [HNB.out, HNH.out, HNC.out, HNK.out] at CI CS
    rw [HNB.out, HNH.out, HNC.out, HNK.out] at CB
    rw [HNB.out, HNH.out, HNC.out, HNK.out]
    clear hlb hlh hlc hlk
    obtain ⟨V, HV⟩ : ∃ V, Hid ((w1.alloc (.cells (feedC p l d s A1 nb c1 A2 nh c2) 34)).alloc (.cells (feedC q m i t A3 nc c3 A4 nk c4) 34) = V) := ⟨_, rfl⟩
    have KFV : Hid (Blk V w1.heap.size 34 (feedC p l d s A1 nb c1 A2 nh c2)) := by rw [← HV.out]; exact (Blk.new w1 _ _).alloc _
    have KGV : Hid (Blk V (w1.heap.size + 1) 34 (feedC q m i t A3 nc c3 A4 nk c4)) := by
      rw [← HV.out]
      have h := Blk.new (w1.alloc (.cells (feedC p l d s A1 nb c1 A2 nh c2) 34)) 34 (feedC q m i t A3 nc c3 A4 nk c4)
      rw [World.size_alloc] at h
      exact h
    have HBV : Hid (Below w1.heap.size w1 V) := by rw [← HV.out]; exact ((Below.refl _ w1).alloc (Nat.le_refl _) _).alloc (by simp) _
    cases hR : R with
    | false =>
      subst hR
      go_wp2_with fail
      rw [HV.out]
      refine (CI.out _ HBV.out).mono ?_
      rintro e w2 ⟨rfl, hb2⟩
      rw [meetV_no]
      have KF2 := Lib.hid (KFV.out.below hb2 KFV.out.lt)
      have KG2 := Lib.hid (KGV.out.below hb2 KGV.out.lt)
      have HB2 : Hid (Below w1.heap.size w1 w2) := HBV.out.trans (hb2.mono HBV.out.size)
      have hz12 : w1.heap.size + 1 < w2.heap.size := KG2.out.lt
      have hz12a : w1.heap.size < w2.heap.size := KF2.out.lt
      clear hb2
      obtain ⟨U2, HU2⟩ : ∃ U, Hid (w2.alloc (.cells (forkC 0 0 0 0 0 0 0) 26) = U) := ⟨_, rfl⟩
      have KFU := Lib.hid (KF2.out.alloc (.cells (forkC 0 0 0 0 0 0 0) 26))
      have KGU := Lib.hid (KG2.out.alloc (.cells (forkC 0 0 0 0 0 0 0) 26))
      have KOU := Lib.hid (Blk.new w2 26 (forkC 0 0 0 0 0 0 0))
      have HBU : Hid (Below w1.heap.size w1 (w2.alloc (.cells (forkC 0 0 0 0 0 0 0) 26))) := HB2.out.alloc HB2.out.size _
      rw [HU2.out] at KFU KGU KOU HBU
      obtain ⟨k0, k1, k2, k3, k4, k5⟩ := feed_cells KF2.out
      obtain ⟨j0, j1, j2, j3, j4, j5⟩ := feed_cells KG2.out
      go_wp2_with fail
      rw [HU2.out]
      refine (CS.out _ HBU.out).mono ?_
      rintro e w3 ⟨rfl, hb3⟩
      rw [meetV_no]
      have KF3 := Lib.hid (KFU.out.below hb3 KFU.out.lt)
      have KG3 := Lib.hid (KGU.out.below hb3 KGU.out.lt)
      have KO3 := Lib.hid (KOU.out.below hb3 KOU.out.lt)
      have HB3 : Hid (Below w1.heap.size w1 w3) := HBU.out.trans (hb3.mono HBU.out.size)
      have HB3w : Hid (Below w.heap.size w w3) := HB1.out.trans (HB3.out.mono HB1.out.size)
      have hz23 : w2.heap.size < w3.heap.size := KO3.out.lt
      have hz13 : w1.heap.size + 1 < w3.heap.size := KG3.out.lt
      have hz13a : w1.heap.size < w3.heap.size := KF3.out.lt
      clear hb3 k0 k1 k2 k3 k4 k5 j0 j1 j2 j3 j4 j5
      obtain ⟨U3, HU3⟩ : ∃ U, Hid (w3.alloc (.cells (forkC 0 0 0 0 0 0 0) 26) = U) := ⟨_, rfl⟩
      have KF4 := Lib.hid (KF3.out.alloc (.cells (forkC 0 0 0 0 0 0 0) 26))
      have KG4 := Lib.hid (KG3.out.alloc (.cells (forkC 0 0 0 0 0 0 0) 26))
      have KO4 := Lib.hid (KO3.out.alloc (.cells (forkC 0 0 0 0 0 0 0) 26))
      have HB4 : Hid (Below w.heap.size w (w3.alloc (.cells (forkC 0 0 0 0 0 0 0) 26))) := HB3w.out.alloc HB3w.out.size _
      have HB4a : Hid (Below w1.heap.size w1 (w3.alloc (.cells (forkC 0 0 0 0 0 0 0) 26))) := HB3.out.alloc HB3.out.size _
      have KW4 := Lib.hid (Blk.new w3 26 (forkC 0 0 0 0 0 0 0))
      rw [HU3.out] at KF4 KG4 KO4 KW4 HB4 HB4a
      obtain ⟨o0, o1, o2, o3, o4, o5, o6⟩ := fork_cells KO3.out
      obtain ⟨k0, k1, k2, k3, k4, k5⟩ := feed_cells KF3.out
      obtain ⟨j0, j1, j2, j3, j4, j5⟩ := feed_cells KG3.out
      go_wp2
      go_ret
      exact ⟨rfl, HB3w.out.alloc HB3w.out.size _⟩
    | true =>
      subst hR
      obtain ⟨hf, hg, hpq, hfk⟩ := (meetB_iff _ _).1 HR.out
      have hpq' : p = q := hpq
      subst hpq'
      have HFK : Hid (forkB p l d s m i t = true) := hfk
      clear hf hg hpq hfk
      have CB2 := Lib.hid (CB.out rfl)
      go_wp2_with fail
      rw [HV.out]
      refine (CI.out _ HBV.out).mono ?_
      rintro e w2 ⟨rfl, hb2⟩
      rw [meetV_yes]
      have KF2 := Lib.hid (KFV.out.below hb2 KFV.out.lt)
      have KG2 := Lib.hid (KGV.out.below hb2 KGV.out.lt)
      have HB2 : Hid (Below w1.heap.size w1 w2) := HBV.out.trans (hb2.mono HBV.out.size)
      have hz12 : w1.heap.size + 1 < w2.heap.size := KG2.out.lt
      have hz12a : w1.heap.size < w2.heap.size := KF2.out.lt
      clear hb2
      obtain ⟨U2, HU2⟩ : ∃ U, Hid (w2.alloc (.cells (forkC p l d s m i t) 26) = U) := ⟨_, rfl⟩
      have KFU := Lib.hid (KF2.out.alloc (.cells (forkC p l d s m i t) 26))
      have KGU := Lib.hid (KG2.out.alloc (.cells (forkC p l d s m i t) 26))
      have KOU := Lib.hid (Blk.new w2 26 (forkC p l d s m i t))
      have HBU : Hid (Below w1.heap.size w1 (w2.alloc (.cells (forkC p l d s m i t) 26))) := HB2.out.alloc HB2.out.size _
      rw [HU2.out] at KFU KGU KOU HBU
      obtain ⟨k0, k1, k2, k3, k4, k5⟩ := feed_cells KF2.out
      obtain ⟨j0, j1, j2, j3, j4, j5⟩ := feed_cells KG2.out
      go_wp2_with fail
      rw [HU2.out]
      refine (CS.out _ HBU.out).mono ?_
      rintro e w3 ⟨rfl, hb3⟩
      rw [meetV_yes]
      have KF3 := Lib.hid (KFU.out.below hb3 KFU.out.lt)
      have KG3 := Lib.hid (KGU.out.below hb3 KGU.out.lt)
      have KO3 := Lib.hid (KOU.out.below hb3 KOU.out.lt)
      have HB3 : Hid (Below w1.heap.size w1 w3) := HBU.out.trans (hb3.mono HBU.out.size)
      have HB3w : Hid (Below w.heap.size w w3) := HB1.out.trans (HB3.out.mono HB1.out.size)
      have hz23 : w2.heap.size < w3.heap.size := KO3.out.lt
      have hz13 : w1.heap.size + 1 < w3.heap.size := KG3.out.lt
      have hz13a : w1.heap.size < w3.heap.size := KF3.out.lt
      clear hb3 k0 k1 k2 k3 k4 k5 j0 j1 j2 j3 j4 j5
      obtain ⟨U3, HU3⟩ : ∃ U, Hid (w3.alloc (.cells (forkC p l d s m i t) 26) = U) := ⟨_, rfl⟩
      have KF4 := Lib.hid (KF3.out.alloc (.cells (forkC p l d s m i t) 26))
      have KG4 := Lib.hid (KG3.out.alloc (.cells (forkC p l d s m i t) 26))
      have KO4 := Lib.hid (KO3.out.alloc (.cells (forkC p l d s m i t) 26))
      have HB4 : Hid (Below w.heap.size w (w3.alloc (.cells (forkC p l d s m i t) 26))) := HB3w.out.alloc HB3w.out.size _
      have HB4a : Hid (Below w1.heap.size w1 (w3.alloc (.cells (forkC p l d s m i t) 26))) := HB3.out.alloc HB3.out.size _
      have KW4 := Lib.hid (Blk.new w3 26 (forkC p l d s m i t))
      rw [HU3.out] at KF4 KG4 KO4 KW4 HB4 HB4a
      obtain ⟨o0, o1, o2, o3, o4, o5, o6⟩ := fork_cells KO3.out
      obtain ⟨k0, k1, k2, k3, k4, k5⟩ := feed_cells KF3.out
      obtain ⟨j0, j1, j2, j3, j4, j5⟩ := feed_cells KG3.out
      go_wp2_with fail
      rw [HU3.out]
      refine (CB2.out _ HB4a.out).mono ?_
      rintro e w5 ⟨rfl, hb5⟩
      have KF5 := Lib.hid (KF4.out.below hb5 KF4.out.lt)
      have KG5 := Lib.hid (KG4.out.below hb5 KG4.out.lt)
      have KO5 := Lib.hid (KO4.out.below hb5 KO4.out.lt)
      have hz25 : w2.heap.size < w5.heap.size := KO5.out.lt
      have hz15 : w1.heap.size + 1 < w5.heap.size := KG5.out.lt
      have hz15a : w1.heap.size < w5.heap.size := KF5.out.lt
      have HB5 : Hid (Below w.heap.size w w5) := HB4.out.trans (hb5.mono HB4.out.size)
      clear hb5 k0 k1 k2 k3 k4 k5 j0 j1 j2 j3 j4 j5 o0 o1 o2 o3 o4 o5 o6
      obtain ⟨o0, o1, o2, o3, o4, o5, o6⟩ := fork_cells KO5.out
      obtain ⟨W6, HW6⟩ : ∃ U, Hid (w5.alloc (.cells (forkC p m i t l d s) 26) = U) := ⟨_, rfl⟩
      have KF6 := Lib.hid (KF5.out.alloc (.cells (forkC p m i t l d s) 26))
      have KG6 := Lib.hid (KG5.out.alloc (.cells (forkC p m i t l d s) 26))
      have KO6 := Lib.hid (KO5.out.alloc (.cells (forkC p m i t l d s) 26))
      have HB6 : Hid (Below w.heap.size w (w5.alloc (.cells (forkC p m i t l d s) 26))) := HB5.out.alloc HB5.out.size _
      rw [HW6.out] at KF6 KG6 KO6 HB6
      go_wp2_with fail
      rw [HW6.out]
      refine (forkCheck_any p l d s m i t _).mono ?_
      rintro e w7 ⟨rfl, hb7⟩
      rw [HFK.out]
      have KF7 := Lib.hid (KF6.out.below hb7 KF6.out.lt)
      have KG7 := Lib.hid (KG6.out.below hb7 KG6.out.lt)
      have KO7 := Lib.hid (KO6.out.below hb7 KO6.out.lt)
      have HB7 : Hid (Below w.heap.size w w7) := HB6.out.trans (hb7.mono HB6.out.size)
      clear hb7 o0 o1 o2 o3 o4 o5 o6
      obtain ⟨o0, o1, o2, o3, o4, o5, o6⟩ := fork_cells KO7.out
      obtain ⟨k0, k1, k2, k3, k4, k5⟩ := feed_cells KF7.out
      obtain ⟨j0, j1, j2, j3, j4, j5⟩ := feed_cells KG7.out
      go_wp2
      go_ret
      exact ⟨rfl, HB7.out⟩
  · have h9 : 1048576 < len := by omega
    clear hlen
    go_enter Try.func5, Try.ntmps5
    go_wp2
    go_ret
    exact ⟨rfl, Below.refl _ _⟩

set_option maxHeartbeats 8000000 in
set_option maxRecDepth 100000 in
theorem walkForkHonest (A : Option Addr) (len cap : Nat) (w : World) (hI : In w A len cap) :
    Calls Try.prog 6 #[.slice A len cap] w fun e w' => e = .returned (.bool true) ∧ Below w.heap.size w w' := by
  have hm := hI.len_le
  unfold maxLen at hm
  have HI := Lib.hid hI
  clear hI
  by_cases hlen : len ≤ 1048576
  · go_enter Try.func6, Try.ntmps6
    go_wp2_with fail
    refine (drawForkMeet_any A len cap _ HI.out).mono ?_
    rintro e w1 ⟨p, l, d, s, A1, c1, A2, c2, bs, hs, q, m, i, t, A3, c3, A4, c4, cs, ks, rfl, ho, ho2, hlb, hlh, hlc, hlk, hz1, hz2, hb1⟩
    have HB1 := Lib.hid hb1
    have HF := Lib.hid ho.at_
    have HG := Lib.hid ho2.at_
    have HZ1 := Lib.hid hz1
    have HZ2 := Lib.hid hz2
    clear ho ho2 hb1 hz1 hz2
    obtain ⟨R, HR⟩ : ∃ R, Hid (meetB ⟨p, l, d, s, bs, hs⟩ ⟨q, m, i, t, cs, ks⟩ = R) := ⟨_, rfl⟩
    have CI : Hid (∀ U, Below w1.heap.size w1 U → Calls Try.prog 14 #[feedV p l d s A1 bs.length c1 A2 hs.length c2, feedV q m i t A3 cs.length c3 A4 ks.length c4] U fun e w' => e = .returned (.tuple #[meetV R p l d s m i t, .bool R]) ∧ Below U.heap.size U w') := fun U hU => by
      have h := forkMeet_any p l d s A1 c1 A2 c2 bs hs q m i t A3 c3 A4 c4 cs ks U (HF.out.belowS hU) (HG.out.belowS hU)
      rw [HR.out] at h
      exact h
    have CS : Hid (∀ U, Below w1.heap.size w1 U → Calls Try.prog 15 #[feedV p l d s A1 bs.length c1 A2 hs.length c2, feedV q m i t A3 cs.length c3 A4 ks.length c4] U fun e w' => e = .returned (.tuple #[meetV R p l d s m i t, .bool R]) ∧ Below U.heap.size U w') := fun U hU => by
      have h := sforkMeet_any p l d s A1 c1 A2 c2 bs hs q m i t A3 c3 A4 c4 cs ks U (HF.out.belowS hU) (HG.out.belowS hU)
      rw [HR.out] at h
      exact h
    have CF : Hid (∀ U, Below w1.heap.size w1 U → Calls Try.prog 16 #[feedV p l d s A1 bs.length c1 A2 hs.length c2] U fun e w' => e = .returned (.bool (okB ⟨p, l, d, s, bs, hs⟩)) ∧ Below U.heap.size U w') := fun U hU => sfeedValid_any p l d s A1 c1 A2 c2 bs hs U (HF.out.belowS hU)
    have CG : Hid (∀ U, Below w1.heap.size w1 U → Calls Try.prog 16 #[feedV q m i t A3 cs.length c3 A4 ks.length c4] U fun e w' => e = .returned (.bool (okB ⟨q, m, i, t, cs, ks⟩)) ∧ Below U.heap.size U w') := fun U hU => sfeedValid_any q m i t A3 c3 A4 c4 cs ks U (HG.out.belowS hU)
    obtain ⟨nb, HNB⟩ : ∃ n, Hid (bs.length = n) := ⟨_, rfl⟩
    obtain ⟨nh, HNH⟩ : ∃ n, Hid (hs.length = n) := ⟨_, rfl⟩
    obtain ⟨nc, HNC⟩ : ∃ n, Hid (cs.length = n) := ⟨_, rfl⟩
    obtain ⟨nk, HNK⟩ : ∃ n, Hid (ks.length = n) := ⟨_, rfl⟩
    rw [HNB.out, HNH.out, HNC.out, HNK.out] at CI CS
    rw [HNB.out, HNH.out] at CF
    rw [HNC.out, HNK.out] at CG
    rw [HNB.out, HNH.out, HNC.out, HNK.out]
    clear hlb hlh hlc hlk
    obtain ⟨V, HV⟩ : ∃ V, Hid ((w1.alloc (.cells (feedC p l d s A1 nb c1 A2 nh c2) 34)).alloc (.cells (feedC q m i t A3 nc c3 A4 nk c4) 34) = V) := ⟨_, rfl⟩
    have KFV : Hid (Blk V w1.heap.size 34 (feedC p l d s A1 nb c1 A2 nh c2)) := by rw [← HV.out]; exact (Blk.new w1 _ _).alloc _
    have KGV : Hid (Blk V (w1.heap.size + 1) 34 (feedC q m i t A3 nc c3 A4 nk c4)) := by
      rw [← HV.out]
      have h := Blk.new (w1.alloc (.cells (feedC p l d s A1 nb c1 A2 nh c2) 34)) 34 (feedC q m i t A3 nc c3 A4 nk c4)
      rw [World.size_alloc] at h
      exact h
    have HBV : Hid (Below w1.heap.size w1 V) := by rw [← HV.out]; exact ((Below.refl _ w1).alloc (Nat.le_refl _) _).alloc (by simp) _
    have hall : (okB ⟨p, l, d, s, bs, hs⟩ = false ∧ R = false) ∨ (okB ⟨p, l, d, s, bs, hs⟩ = true ∧ okB ⟨q, m, i, t, cs, ks⟩ = false ∧ R = false) ∨ (okB ⟨p, l, d, s, bs, hs⟩ = true ∧ okB ⟨q, m, i, t, cs, ks⟩ = true ∧ p ≠ q ∧ R = false) ∨ (okB ⟨p, l, d, s, bs, hs⟩ = true ∧ okB ⟨q, m, i, t, cs, ks⟩ = true ∧ p = q ∧ R = (decide (l = m) && decide (d ≠ i))) := by
      cases h1 : okB ⟨p, l, d, s, bs, hs⟩ with
      | false => exact .inl ⟨rfl, by rw [← HR.out]; exact meetB_no fun k => by rw [h1] at k; cases k.1⟩
      | true =>
        cases h2 : okB ⟨q, m, i, t, cs, ks⟩ with
        | false => exact .inr (.inl ⟨rfl, rfl, by rw [← HR.out]; exact meetB_no fun k => by rw [h2] at k; cases k.2.1⟩)
        | true =>
          by_cases hp : p = q
          · refine .inr (.inr (.inr ⟨rfl, rfl, hp, ?_⟩))
            have h := meet_honest (f := ⟨p, l, d, s, bs, hs⟩) (g := ⟨q, m, i, t, cs, ks⟩) h1 h2 hp HZ1.out HZ2.out
            rw [HR.out] at h
            exact h
          · exact .inr (.inr (.inl ⟨rfl, rfl, hp, by rw [← HR.out]; exact meetB_no fun k => hp k.2.2.1⟩))
    rcases hall with ⟨h1, hR⟩ | ⟨h1, h2, hR⟩ | ⟨h1, h2, hp, hR⟩ | ⟨h1, h2, hp, hR⟩
    · subst hR
      rw [h1] at CF
      clear h1
      go_wp2_with fail
      rw [HV.out]
      refine (CI.out _ HBV.out).mono ?_
      rintro e w2 ⟨rfl, hb2⟩
      rw [meetV_no]
      have KF2 := Lib.hid (KFV.out.below hb2 KFV.out.lt)
      have KG2 := Lib.hid (KGV.out.below hb2 KGV.out.lt)
      have HB2 : Hid (Below w1.heap.size w1 w2) := HBV.out.trans (hb2.mono HBV.out.size)
      have hz12 : w1.heap.size + 1 < w2.heap.size := KG2.out.lt
      have hz12a : w1.heap.size < w2.heap.size := KF2.out.lt
      clear hb2
      obtain ⟨U2, HU2⟩ : ∃ U, Hid (w2.alloc (.cells (forkC 0 0 0 0 0 0 0) 26) = U) := ⟨_, rfl⟩
      have KFU := Lib.hid (KF2.out.alloc (.cells (forkC 0 0 0 0 0 0 0) 26))
      have KGU := Lib.hid (KG2.out.alloc (.cells (forkC 0 0 0 0 0 0 0) 26))
      have KOU := Lib.hid (Blk.new w2 26 (forkC 0 0 0 0 0 0 0))
      have HBU : Hid (Below w1.heap.size w1 (w2.alloc (.cells (forkC 0 0 0 0 0 0 0) 26))) := HB2.out.alloc HB2.out.size _
      rw [HU2.out] at KFU KGU KOU HBU
      obtain ⟨k0, k1, k2, k3, k4, k5⟩ := feed_cells KF2.out
      obtain ⟨j0, j1, j2, j3, j4, j5⟩ := feed_cells KG2.out
      go_wp2_with fail
      rw [HU2.out]
      refine (CS.out _ HBU.out).mono ?_
      rintro e w3 ⟨rfl, hb3⟩
      rw [meetV_no]
      have KF3 := Lib.hid (KFU.out.below hb3 KFU.out.lt)
      have KG3 := Lib.hid (KGU.out.below hb3 KGU.out.lt)
      have KO3 := Lib.hid (KOU.out.below hb3 KOU.out.lt)
      have HB3 : Hid (Below w1.heap.size w1 w3) := HBU.out.trans (hb3.mono HBU.out.size)
      have HB3w : Hid (Below w.heap.size w w3) := HB1.out.trans (HB3.out.mono HB1.out.size)
      have hz23 : w2.heap.size < w3.heap.size := KO3.out.lt
      have hz13 : w1.heap.size + 1 < w3.heap.size := KG3.out.lt
      have hz13a : w1.heap.size < w3.heap.size := KF3.out.lt
      clear hb3 k0 k1 k2 k3 k4 k5 j0 j1 j2 j3 j4 j5
      obtain ⟨U3, HU3⟩ : ∃ U, Hid (w3.alloc (.cells (forkC 0 0 0 0 0 0 0) 26) = U) := ⟨_, rfl⟩
      have KF4 := Lib.hid (KF3.out.alloc (.cells (forkC 0 0 0 0 0 0 0) 26))
      have KG4 := Lib.hid (KG3.out.alloc (.cells (forkC 0 0 0 0 0 0 0) 26))
      have KO4 := Lib.hid (KO3.out.alloc (.cells (forkC 0 0 0 0 0 0 0) 26))
      have HB4 : Hid (Below w.heap.size w (w3.alloc (.cells (forkC 0 0 0 0 0 0 0) 26))) := HB3w.out.alloc HB3w.out.size _
      have HB4a : Hid (Below w1.heap.size w1 (w3.alloc (.cells (forkC 0 0 0 0 0 0 0) 26))) := HB3.out.alloc HB3.out.size _
      have KW4 := Lib.hid (Blk.new w3 26 (forkC 0 0 0 0 0 0 0))
      rw [HU3.out] at KF4 KG4 KO4 KW4 HB4 HB4a
      obtain ⟨o0, o1, o2, o3, o4, o5, o6⟩ := fork_cells KO3.out
      obtain ⟨k0, k1, k2, k3, k4, k5⟩ := feed_cells KF3.out
      obtain ⟨j0, j1, j2, j3, j4, j5⟩ := feed_cells KG3.out
      go_wp2_with fail
      rw [HU3.out]
      refine (CF.out _ HB4a.out).mono ?_
      rintro e w5 ⟨rfl, hb5⟩
      have KF5 := Lib.hid (KF4.out.below hb5 KF4.out.lt)
      have KG5 := Lib.hid (KG4.out.below hb5 KG4.out.lt)
      have KO5 := Lib.hid (KO4.out.below hb5 KO4.out.lt)
      have KW5 := Lib.hid (KW4.out.below hb5 KW4.out.lt)
      have HB5 : Hid (Below w.heap.size w w5) := HB4.out.trans (hb5.mono HB4.out.size)
      have HB5a : Hid (Below w1.heap.size w1 w5) := HB4a.out.trans (hb5.mono HB4a.out.size)
      clear hb5 k0 k1 k2 k3 k4 k5 j0 j1 j2 j3 j4 j5 o0 o1 o2 o3 o4 o5 o6
      obtain ⟨o0, o1, o2, o3, o4, o5, o6⟩ := fork_cells KO5.out
      obtain ⟨x0, x1, x2, x3, x4, x5, x6⟩ := fork_cells KW5.out
      go_wp2
      go_ret
      exact ⟨rfl, HB5.out⟩
    · subst hR
      rw [h1] at CF
      rw [h2] at CG
      clear h1 h2
      go_wp2_with fail
      rw [HV.out]
      refine (CI.out _ HBV.out).mono ?_
      rintro e w2 ⟨rfl, hb2⟩
      rw [meetV_no]
      have KF2 := Lib.hid (KFV.out.below hb2 KFV.out.lt)
      have KG2 := Lib.hid (KGV.out.below hb2 KGV.out.lt)
      have HB2 : Hid (Below w1.heap.size w1 w2) := HBV.out.trans (hb2.mono HBV.out.size)
      have hz12 : w1.heap.size + 1 < w2.heap.size := KG2.out.lt
      have hz12a : w1.heap.size < w2.heap.size := KF2.out.lt
      clear hb2
      obtain ⟨U2, HU2⟩ : ∃ U, Hid (w2.alloc (.cells (forkC 0 0 0 0 0 0 0) 26) = U) := ⟨_, rfl⟩
      have KFU := Lib.hid (KF2.out.alloc (.cells (forkC 0 0 0 0 0 0 0) 26))
      have KGU := Lib.hid (KG2.out.alloc (.cells (forkC 0 0 0 0 0 0 0) 26))
      have KOU := Lib.hid (Blk.new w2 26 (forkC 0 0 0 0 0 0 0))
      have HBU : Hid (Below w1.heap.size w1 (w2.alloc (.cells (forkC 0 0 0 0 0 0 0) 26))) := HB2.out.alloc HB2.out.size _
      rw [HU2.out] at KFU KGU KOU HBU
      obtain ⟨k0, k1, k2, k3, k4, k5⟩ := feed_cells KF2.out
      obtain ⟨j0, j1, j2, j3, j4, j5⟩ := feed_cells KG2.out
      go_wp2_with fail
      rw [HU2.out]
      refine (CS.out _ HBU.out).mono ?_
      rintro e w3 ⟨rfl, hb3⟩
      rw [meetV_no]
      have KF3 := Lib.hid (KFU.out.below hb3 KFU.out.lt)
      have KG3 := Lib.hid (KGU.out.below hb3 KGU.out.lt)
      have KO3 := Lib.hid (KOU.out.below hb3 KOU.out.lt)
      have HB3 : Hid (Below w1.heap.size w1 w3) := HBU.out.trans (hb3.mono HBU.out.size)
      have HB3w : Hid (Below w.heap.size w w3) := HB1.out.trans (HB3.out.mono HB1.out.size)
      have hz23 : w2.heap.size < w3.heap.size := KO3.out.lt
      have hz13 : w1.heap.size + 1 < w3.heap.size := KG3.out.lt
      have hz13a : w1.heap.size < w3.heap.size := KF3.out.lt
      clear hb3 k0 k1 k2 k3 k4 k5 j0 j1 j2 j3 j4 j5
      obtain ⟨U3, HU3⟩ : ∃ U, Hid (w3.alloc (.cells (forkC 0 0 0 0 0 0 0) 26) = U) := ⟨_, rfl⟩
      have KF4 := Lib.hid (KF3.out.alloc (.cells (forkC 0 0 0 0 0 0 0) 26))
      have KG4 := Lib.hid (KG3.out.alloc (.cells (forkC 0 0 0 0 0 0 0) 26))
      have KO4 := Lib.hid (KO3.out.alloc (.cells (forkC 0 0 0 0 0 0 0) 26))
      have HB4 : Hid (Below w.heap.size w (w3.alloc (.cells (forkC 0 0 0 0 0 0 0) 26))) := HB3w.out.alloc HB3w.out.size _
      have HB4a : Hid (Below w1.heap.size w1 (w3.alloc (.cells (forkC 0 0 0 0 0 0 0) 26))) := HB3.out.alloc HB3.out.size _
      have KW4 := Lib.hid (Blk.new w3 26 (forkC 0 0 0 0 0 0 0))
      rw [HU3.out] at KF4 KG4 KO4 KW4 HB4 HB4a
      obtain ⟨o0, o1, o2, o3, o4, o5, o6⟩ := fork_cells KO3.out
      obtain ⟨k0, k1, k2, k3, k4, k5⟩ := feed_cells KF3.out
      obtain ⟨j0, j1, j2, j3, j4, j5⟩ := feed_cells KG3.out
      go_wp2_with fail
      rw [HU3.out]
      refine (CF.out _ HB4a.out).mono ?_
      rintro e w5 ⟨rfl, hb5⟩
      have KF5 := Lib.hid (KF4.out.below hb5 KF4.out.lt)
      have KG5 := Lib.hid (KG4.out.below hb5 KG4.out.lt)
      have KO5 := Lib.hid (KO4.out.below hb5 KO4.out.lt)
      have KW5 := Lib.hid (KW4.out.below hb5 KW4.out.lt)
      have HB5 : Hid (Below w.heap.size w w5) := HB4.out.trans (hb5.mono HB4.out.size)
      have HB5a : Hid (Below w1.heap.size w1 w5) := HB4a.out.trans (hb5.mono HB4a.out.size)
      clear hb5 k0 k1 k2 k3 k4 k5 j0 j1 j2 j3 j4 j5 o0 o1 o2 o3 o4 o5 o6
      obtain ⟨j0, j1, j2, j3, j4, j5⟩ := feed_cells KG5.out
      go_wp2_with fail
      refine (CG.out _ HB5a.out).mono ?_
      rintro e w6 ⟨rfl, hb6⟩
      have KF6 := Lib.hid (KF5.out.below hb6 KF5.out.lt)
      have KG6 := Lib.hid (KG5.out.below hb6 KG5.out.lt)
      have KO6 := Lib.hid (KO5.out.below hb6 KO5.out.lt)
      have KW6 := Lib.hid (KW5.out.below hb6 KW5.out.lt)
      have HB6 : Hid (Below w.heap.size w w6) := HB5.out.trans (hb6.mono HB5.out.size)
      clear hb6 j0 j1 j2 j3 j4 j5
      obtain ⟨o0, o1, o2, o3, o4, o5, o6⟩ := fork_cells KO6.out
      obtain ⟨x0, x1, x2, x3, x4, x5, x6⟩ := fork_cells KW6.out
      go_wp2
      go_ret
      exact ⟨rfl, HB6.out⟩
    · subst hR
      rw [h1] at CF
      rw [h2] at CG
      have hpn : (p != q) = true := bne_iff_ne.2 hp
      have hpn2 : (p == q) = false := beq_eq_false_iff_ne.2 hp
      clear h1 h2
      go_wp2_with fail
      rw [HV.out]
      refine (CI.out _ HBV.out).mono ?_
      rintro e w2 ⟨rfl, hb2⟩
      rw [meetV_no]
      have KF2 := Lib.hid (KFV.out.below hb2 KFV.out.lt)
      have KG2 := Lib.hid (KGV.out.below hb2 KGV.out.lt)
      have HB2 : Hid (Below w1.heap.size w1 w2) := HBV.out.trans (hb2.mono HBV.out.size)
      have hz12 : w1.heap.size + 1 < w2.heap.size := KG2.out.lt
      have hz12a : w1.heap.size < w2.heap.size := KF2.out.lt
      clear hb2
      obtain ⟨U2, HU2⟩ : ∃ U, Hid (w2.alloc (.cells (forkC 0 0 0 0 0 0 0) 26) = U) := ⟨_, rfl⟩
      have KFU := Lib.hid (KF2.out.alloc (.cells (forkC 0 0 0 0 0 0 0) 26))
      have KGU := Lib.hid (KG2.out.alloc (.cells (forkC 0 0 0 0 0 0 0) 26))
      have KOU := Lib.hid (Blk.new w2 26 (forkC 0 0 0 0 0 0 0))
      have HBU : Hid (Below w1.heap.size w1 (w2.alloc (.cells (forkC 0 0 0 0 0 0 0) 26))) := HB2.out.alloc HB2.out.size _
      rw [HU2.out] at KFU KGU KOU HBU
      obtain ⟨k0, k1, k2, k3, k4, k5⟩ := feed_cells KF2.out
      obtain ⟨j0, j1, j2, j3, j4, j5⟩ := feed_cells KG2.out
      go_wp2_with fail
      rw [HU2.out]
      refine (CS.out _ HBU.out).mono ?_
      rintro e w3 ⟨rfl, hb3⟩
      rw [meetV_no]
      have KF3 := Lib.hid (KFU.out.below hb3 KFU.out.lt)
      have KG3 := Lib.hid (KGU.out.below hb3 KGU.out.lt)
      have KO3 := Lib.hid (KOU.out.below hb3 KOU.out.lt)
      have HB3 : Hid (Below w1.heap.size w1 w3) := HBU.out.trans (hb3.mono HBU.out.size)
      have HB3w : Hid (Below w.heap.size w w3) := HB1.out.trans (HB3.out.mono HB1.out.size)
      have hz23 : w2.heap.size < w3.heap.size := KO3.out.lt
      have hz13 : w1.heap.size + 1 < w3.heap.size := KG3.out.lt
      have hz13a : w1.heap.size < w3.heap.size := KF3.out.lt
      clear hb3 k0 k1 k2 k3 k4 k5 j0 j1 j2 j3 j4 j5
      obtain ⟨U3, HU3⟩ : ∃ U, Hid (w3.alloc (.cells (forkC 0 0 0 0 0 0 0) 26) = U) := ⟨_, rfl⟩
      have KF4 := Lib.hid (KF3.out.alloc (.cells (forkC 0 0 0 0 0 0 0) 26))
      have KG4 := Lib.hid (KG3.out.alloc (.cells (forkC 0 0 0 0 0 0 0) 26))
      have KO4 := Lib.hid (KO3.out.alloc (.cells (forkC 0 0 0 0 0 0 0) 26))
      have HB4 : Hid (Below w.heap.size w (w3.alloc (.cells (forkC 0 0 0 0 0 0 0) 26))) := HB3w.out.alloc HB3w.out.size _
      have HB4a : Hid (Below w1.heap.size w1 (w3.alloc (.cells (forkC 0 0 0 0 0 0 0) 26))) := HB3.out.alloc HB3.out.size _
      have KW4 := Lib.hid (Blk.new w3 26 (forkC 0 0 0 0 0 0 0))
      rw [HU3.out] at KF4 KG4 KO4 KW4 HB4 HB4a
      obtain ⟨o0, o1, o2, o3, o4, o5, o6⟩ := fork_cells KO3.out
      obtain ⟨k0, k1, k2, k3, k4, k5⟩ := feed_cells KF3.out
      obtain ⟨j0, j1, j2, j3, j4, j5⟩ := feed_cells KG3.out
      go_wp2_with fail
      rw [HU3.out]
      refine (CF.out _ HB4a.out).mono ?_
      rintro e w5 ⟨rfl, hb5⟩
      have KF5 := Lib.hid (KF4.out.below hb5 KF4.out.lt)
      have KG5 := Lib.hid (KG4.out.below hb5 KG4.out.lt)
      have KO5 := Lib.hid (KO4.out.below hb5 KO4.out.lt)
      have KW5 := Lib.hid (KW4.out.below hb5 KW4.out.lt)
      have HB5 : Hid (Below w.heap.size w w5) := HB4.out.trans (hb5.mono HB4.out.size)
      have HB5a : Hid (Below w1.heap.size w1 w5) := HB4a.out.trans (hb5.mono HB4a.out.size)
      clear hb5 k0 k1 k2 k3 k4 k5 j0 j1 j2 j3 j4 j5 o0 o1 o2 o3 o4 o5 o6
      obtain ⟨j0, j1, j2, j3, j4, j5⟩ := feed_cells KG5.out
      go_wp2_with fail
      refine (CG.out _ HB5a.out).mono ?_
      rintro e w6 ⟨rfl, hb6⟩
      have KF6 := Lib.hid (KF5.out.below hb6 KF5.out.lt)
      have KG6 := Lib.hid (KG5.out.below hb6 KG5.out.lt)
      have KO6 := Lib.hid (KO5.out.below hb6 KO5.out.lt)
      have KW6 := Lib.hid (KW5.out.below hb6 KW5.out.lt)
      have HB6 : Hid (Below w.heap.size w w6) := HB5.out.trans (hb6.mono HB5.out.size)
      clear hb6 j0 j1 j2 j3 j4 j5
      obtain ⟨k0, k1, k2, k3, k4, k5⟩ := feed_cells KF6.out
      obtain ⟨j0, j1, j2, j3, j4, j5⟩ := feed_cells KG6.out
      obtain ⟨o0, o1, o2, o3, o4, o5, o6⟩ := fork_cells KO6.out
      obtain ⟨x0, x1, x2, x3, x4, x5, x6⟩ := fork_cells KW6.out
      go_wp2
      go_ret
      exact ⟨rfl, HB6.out⟩
    · subst hp
      rw [h1] at CF
      rw [h2] at CG
      clear h1 h2
      by_cases hl : l = m
      · by_cases hd : d = i
        · have hR' : R = false := by rw [hR, decide_eq_false (p := d ≠ i) (fun k => k hd), Bool.and_false]
          clear hR
          subst hR'
          subst hl hd
          go_wp2_with fail
          rw [HV.out]
          refine (CI.out _ HBV.out).mono ?_
          rintro e w2 ⟨rfl, hb2⟩
          rw [meetV_no]
          have KF2 := Lib.hid (KFV.out.below hb2 KFV.out.lt)
          have KG2 := Lib.hid (KGV.out.below hb2 KGV.out.lt)
          have HB2 : Hid (Below w1.heap.size w1 w2) := HBV.out.trans (hb2.mono HBV.out.size)
          have hz12 : w1.heap.size + 1 < w2.heap.size := KG2.out.lt
          have hz12a : w1.heap.size < w2.heap.size := KF2.out.lt
          clear hb2
          obtain ⟨U2, HU2⟩ : ∃ U, Hid (w2.alloc (.cells (forkC 0 0 0 0 0 0 0) 26) = U) := ⟨_, rfl⟩
          have KFU := Lib.hid (KF2.out.alloc (.cells (forkC 0 0 0 0 0 0 0) 26))
          have KGU := Lib.hid (KG2.out.alloc (.cells (forkC 0 0 0 0 0 0 0) 26))
          have KOU := Lib.hid (Blk.new w2 26 (forkC 0 0 0 0 0 0 0))
          have HBU : Hid (Below w1.heap.size w1 (w2.alloc (.cells (forkC 0 0 0 0 0 0 0) 26))) := HB2.out.alloc HB2.out.size _
          rw [HU2.out] at KFU KGU KOU HBU
          obtain ⟨k0, k1, k2, k3, k4, k5⟩ := feed_cells KF2.out
          obtain ⟨j0, j1, j2, j3, j4, j5⟩ := feed_cells KG2.out
          go_wp2_with fail
          rw [HU2.out]
          refine (CS.out _ HBU.out).mono ?_
          rintro e w3 ⟨rfl, hb3⟩
          rw [meetV_no]
          have KF3 := Lib.hid (KFU.out.below hb3 KFU.out.lt)
          have KG3 := Lib.hid (KGU.out.below hb3 KGU.out.lt)
          have KO3 := Lib.hid (KOU.out.below hb3 KOU.out.lt)
          have HB3 : Hid (Below w1.heap.size w1 w3) := HBU.out.trans (hb3.mono HBU.out.size)
          have HB3w : Hid (Below w.heap.size w w3) := HB1.out.trans (HB3.out.mono HB1.out.size)
          have hz23 : w2.heap.size < w3.heap.size := KO3.out.lt
          have hz13 : w1.heap.size + 1 < w3.heap.size := KG3.out.lt
          have hz13a : w1.heap.size < w3.heap.size := KF3.out.lt
          clear hb3 k0 k1 k2 k3 k4 k5 j0 j1 j2 j3 j4 j5
          obtain ⟨U3, HU3⟩ : ∃ U, Hid (w3.alloc (.cells (forkC 0 0 0 0 0 0 0) 26) = U) := ⟨_, rfl⟩
          have KF4 := Lib.hid (KF3.out.alloc (.cells (forkC 0 0 0 0 0 0 0) 26))
          have KG4 := Lib.hid (KG3.out.alloc (.cells (forkC 0 0 0 0 0 0 0) 26))
          have KO4 := Lib.hid (KO3.out.alloc (.cells (forkC 0 0 0 0 0 0 0) 26))
          have HB4 : Hid (Below w.heap.size w (w3.alloc (.cells (forkC 0 0 0 0 0 0 0) 26))) := HB3w.out.alloc HB3w.out.size _
          have HB4a : Hid (Below w1.heap.size w1 (w3.alloc (.cells (forkC 0 0 0 0 0 0 0) 26))) := HB3.out.alloc HB3.out.size _
          have KW4 := Lib.hid (Blk.new w3 26 (forkC 0 0 0 0 0 0 0))
          rw [HU3.out] at KF4 KG4 KO4 KW4 HB4 HB4a
          obtain ⟨o0, o1, o2, o3, o4, o5, o6⟩ := fork_cells KO3.out
          obtain ⟨k0, k1, k2, k3, k4, k5⟩ := feed_cells KF3.out
          obtain ⟨j0, j1, j2, j3, j4, j5⟩ := feed_cells KG3.out
          go_wp2_with fail
          rw [HU3.out]
          refine (CF.out _ HB4a.out).mono ?_
          rintro e w5 ⟨rfl, hb5⟩
          have KF5 := Lib.hid (KF4.out.below hb5 KF4.out.lt)
          have KG5 := Lib.hid (KG4.out.below hb5 KG4.out.lt)
          have KO5 := Lib.hid (KO4.out.below hb5 KO4.out.lt)
          have KW5 := Lib.hid (KW4.out.below hb5 KW4.out.lt)
          have HB5 : Hid (Below w.heap.size w w5) := HB4.out.trans (hb5.mono HB4.out.size)
          have HB5a : Hid (Below w1.heap.size w1 w5) := HB4a.out.trans (hb5.mono HB4a.out.size)
          clear hb5 k0 k1 k2 k3 k4 k5 j0 j1 j2 j3 j4 j5 o0 o1 o2 o3 o4 o5 o6
          obtain ⟨j0, j1, j2, j3, j4, j5⟩ := feed_cells KG5.out
          go_wp2_with fail
          refine (CG.out _ HB5a.out).mono ?_
          rintro e w6 ⟨rfl, hb6⟩
          have KF6 := Lib.hid (KF5.out.below hb6 KF5.out.lt)
          have KG6 := Lib.hid (KG5.out.below hb6 KG5.out.lt)
          have KO6 := Lib.hid (KO5.out.below hb6 KO5.out.lt)
          have KW6 := Lib.hid (KW5.out.below hb6 KW5.out.lt)
          have HB6 : Hid (Below w.heap.size w w6) := HB5.out.trans (hb6.mono HB5.out.size)
          clear hb6 j0 j1 j2 j3 j4 j5
          obtain ⟨k0, k1, k2, k3, k4, k5⟩ := feed_cells KF6.out
          obtain ⟨j0, j1, j2, j3, j4, j5⟩ := feed_cells KG6.out
          obtain ⟨o0, o1, o2, o3, o4, o5, o6⟩ := fork_cells KO6.out
          obtain ⟨x0, x1, x2, x3, x4, x5, x6⟩ := fork_cells KW6.out
          go_wp2
          go_ret
          exact ⟨rfl, HB6.out⟩
        · have hR' : R = true := by rw [hR, decide_eq_true hl, decide_eq_true hd]; rfl
          clear hR
          subst hR'
          subst hl
          have hdn : (d != i) = true := bne_iff_ne.2 hd
          have hdn2 : (d == i) = false := beq_eq_false_iff_ne.2 hd
          go_wp2_with fail
          rw [HV.out]
          refine (CI.out _ HBV.out).mono ?_
          rintro e w2 ⟨rfl, hb2⟩
          rw [meetV_yes]
          have KF2 := Lib.hid (KFV.out.below hb2 KFV.out.lt)
          have KG2 := Lib.hid (KGV.out.below hb2 KGV.out.lt)
          have HB2 : Hid (Below w1.heap.size w1 w2) := HBV.out.trans (hb2.mono HBV.out.size)
          have hz12 : w1.heap.size + 1 < w2.heap.size := KG2.out.lt
          have hz12a : w1.heap.size < w2.heap.size := KF2.out.lt
          clear hb2
          obtain ⟨U2, HU2⟩ : ∃ U, Hid (w2.alloc (.cells (forkC p l d s l i t) 26) = U) := ⟨_, rfl⟩
          have KFU := Lib.hid (KF2.out.alloc (.cells (forkC p l d s l i t) 26))
          have KGU := Lib.hid (KG2.out.alloc (.cells (forkC p l d s l i t) 26))
          have KOU := Lib.hid (Blk.new w2 26 (forkC p l d s l i t))
          have HBU : Hid (Below w1.heap.size w1 (w2.alloc (.cells (forkC p l d s l i t) 26))) := HB2.out.alloc HB2.out.size _
          rw [HU2.out] at KFU KGU KOU HBU
          obtain ⟨k0, k1, k2, k3, k4, k5⟩ := feed_cells KF2.out
          obtain ⟨j0, j1, j2, j3, j4, j5⟩ := feed_cells KG2.out
          go_wp2_with fail
          rw [HU2.out]
          refine (CS.out _ HBU.out).mono ?_
          rintro e w3 ⟨rfl, hb3⟩
          rw [meetV_yes]
          have KF3 := Lib.hid (KFU.out.below hb3 KFU.out.lt)
          have KG3 := Lib.hid (KGU.out.below hb3 KGU.out.lt)
          have KO3 := Lib.hid (KOU.out.below hb3 KOU.out.lt)
          have HB3 : Hid (Below w1.heap.size w1 w3) := HBU.out.trans (hb3.mono HBU.out.size)
          have HB3w : Hid (Below w.heap.size w w3) := HB1.out.trans (HB3.out.mono HB1.out.size)
          have hz23 : w2.heap.size < w3.heap.size := KO3.out.lt
          have hz13 : w1.heap.size + 1 < w3.heap.size := KG3.out.lt
          have hz13a : w1.heap.size < w3.heap.size := KF3.out.lt
          clear hb3 k0 k1 k2 k3 k4 k5 j0 j1 j2 j3 j4 j5
          obtain ⟨U3, HU3⟩ : ∃ U, Hid (w3.alloc (.cells (forkC p l d s l i t) 26) = U) := ⟨_, rfl⟩
          have KF4 := Lib.hid (KF3.out.alloc (.cells (forkC p l d s l i t) 26))
          have KG4 := Lib.hid (KG3.out.alloc (.cells (forkC p l d s l i t) 26))
          have KO4 := Lib.hid (KO3.out.alloc (.cells (forkC p l d s l i t) 26))
          have HB4 : Hid (Below w.heap.size w (w3.alloc (.cells (forkC p l d s l i t) 26))) := HB3w.out.alloc HB3w.out.size _
          have HB4a : Hid (Below w1.heap.size w1 (w3.alloc (.cells (forkC p l d s l i t) 26))) := HB3.out.alloc HB3.out.size _
          have KW4 := Lib.hid (Blk.new w3 26 (forkC p l d s l i t))
          rw [HU3.out] at KF4 KG4 KO4 KW4 HB4 HB4a
          obtain ⟨o0, o1, o2, o3, o4, o5, o6⟩ := fork_cells KO3.out
          obtain ⟨k0, k1, k2, k3, k4, k5⟩ := feed_cells KF3.out
          obtain ⟨j0, j1, j2, j3, j4, j5⟩ := feed_cells KG3.out
          go_wp2_with fail
          rw [HU3.out]
          refine (CF.out _ HB4a.out).mono ?_
          rintro e w5 ⟨rfl, hb5⟩
          have KF5 := Lib.hid (KF4.out.below hb5 KF4.out.lt)
          have KG5 := Lib.hid (KG4.out.below hb5 KG4.out.lt)
          have KO5 := Lib.hid (KO4.out.below hb5 KO4.out.lt)
          have KW5 := Lib.hid (KW4.out.below hb5 KW4.out.lt)
          have HB5 : Hid (Below w.heap.size w w5) := HB4.out.trans (hb5.mono HB4.out.size)
          have HB5a : Hid (Below w1.heap.size w1 w5) := HB4a.out.trans (hb5.mono HB4a.out.size)
          clear hb5 k0 k1 k2 k3 k4 k5 j0 j1 j2 j3 j4 j5 o0 o1 o2 o3 o4 o5 o6
          obtain ⟨j0, j1, j2, j3, j4, j5⟩ := feed_cells KG5.out
          go_wp2_with fail
          refine (CG.out _ HB5a.out).mono ?_
          rintro e w6 ⟨rfl, hb6⟩
          have KF6 := Lib.hid (KF5.out.below hb6 KF5.out.lt)
          have KG6 := Lib.hid (KG5.out.below hb6 KG5.out.lt)
          have KO6 := Lib.hid (KO5.out.below hb6 KO5.out.lt)
          have KW6 := Lib.hid (KW5.out.below hb6 KW5.out.lt)
          have HB6 : Hid (Below w.heap.size w w6) := HB5.out.trans (hb6.mono HB5.out.size)
          clear hb6 j0 j1 j2 j3 j4 j5
          obtain ⟨k0, k1, k2, k3, k4, k5⟩ := feed_cells KF6.out
          obtain ⟨j0, j1, j2, j3, j4, j5⟩ := feed_cells KG6.out
          obtain ⟨o0, o1, o2, o3, o4, o5, o6⟩ := fork_cells KO6.out
          obtain ⟨x0, x1, x2, x3, x4, x5, x6⟩ := fork_cells KW6.out
          go_wp2
          go_ret
          exact ⟨rfl, HB6.out⟩
      · have hR' : R = false := by rw [hR, decide_eq_false hl]; rfl
        clear hR
        subst hR'
        have hln : (l != m) = true := bne_iff_ne.2 hl
        have hln2 : (l == m) = false := beq_eq_false_iff_ne.2 hl
        go_wp2_with fail
        rw [HV.out]
        refine (CI.out _ HBV.out).mono ?_
        rintro e w2 ⟨rfl, hb2⟩
        rw [meetV_no]
        have KF2 := Lib.hid (KFV.out.below hb2 KFV.out.lt)
        have KG2 := Lib.hid (KGV.out.below hb2 KGV.out.lt)
        have HB2 : Hid (Below w1.heap.size w1 w2) := HBV.out.trans (hb2.mono HBV.out.size)
        have hz12 : w1.heap.size + 1 < w2.heap.size := KG2.out.lt
        have hz12a : w1.heap.size < w2.heap.size := KF2.out.lt
        clear hb2
        obtain ⟨U2, HU2⟩ : ∃ U, Hid (w2.alloc (.cells (forkC 0 0 0 0 0 0 0) 26) = U) := ⟨_, rfl⟩
        have KFU := Lib.hid (KF2.out.alloc (.cells (forkC 0 0 0 0 0 0 0) 26))
        have KGU := Lib.hid (KG2.out.alloc (.cells (forkC 0 0 0 0 0 0 0) 26))
        have KOU := Lib.hid (Blk.new w2 26 (forkC 0 0 0 0 0 0 0))
        have HBU : Hid (Below w1.heap.size w1 (w2.alloc (.cells (forkC 0 0 0 0 0 0 0) 26))) := HB2.out.alloc HB2.out.size _
        rw [HU2.out] at KFU KGU KOU HBU
        obtain ⟨k0, k1, k2, k3, k4, k5⟩ := feed_cells KF2.out
        obtain ⟨j0, j1, j2, j3, j4, j5⟩ := feed_cells KG2.out
        go_wp2_with fail
        rw [HU2.out]
        refine (CS.out _ HBU.out).mono ?_
        rintro e w3 ⟨rfl, hb3⟩
        rw [meetV_no]
        have KF3 := Lib.hid (KFU.out.below hb3 KFU.out.lt)
        have KG3 := Lib.hid (KGU.out.below hb3 KGU.out.lt)
        have KO3 := Lib.hid (KOU.out.below hb3 KOU.out.lt)
        have HB3 : Hid (Below w1.heap.size w1 w3) := HBU.out.trans (hb3.mono HBU.out.size)
        have HB3w : Hid (Below w.heap.size w w3) := HB1.out.trans (HB3.out.mono HB1.out.size)
        have hz23 : w2.heap.size < w3.heap.size := KO3.out.lt
        have hz13 : w1.heap.size + 1 < w3.heap.size := KG3.out.lt
        have hz13a : w1.heap.size < w3.heap.size := KF3.out.lt
        clear hb3 k0 k1 k2 k3 k4 k5 j0 j1 j2 j3 j4 j5
        obtain ⟨U3, HU3⟩ : ∃ U, Hid (w3.alloc (.cells (forkC 0 0 0 0 0 0 0) 26) = U) := ⟨_, rfl⟩
        have KF4 := Lib.hid (KF3.out.alloc (.cells (forkC 0 0 0 0 0 0 0) 26))
        have KG4 := Lib.hid (KG3.out.alloc (.cells (forkC 0 0 0 0 0 0 0) 26))
        have KO4 := Lib.hid (KO3.out.alloc (.cells (forkC 0 0 0 0 0 0 0) 26))
        have HB4 : Hid (Below w.heap.size w (w3.alloc (.cells (forkC 0 0 0 0 0 0 0) 26))) := HB3w.out.alloc HB3w.out.size _
        have HB4a : Hid (Below w1.heap.size w1 (w3.alloc (.cells (forkC 0 0 0 0 0 0 0) 26))) := HB3.out.alloc HB3.out.size _
        have KW4 := Lib.hid (Blk.new w3 26 (forkC 0 0 0 0 0 0 0))
        rw [HU3.out] at KF4 KG4 KO4 KW4 HB4 HB4a
        obtain ⟨o0, o1, o2, o3, o4, o5, o6⟩ := fork_cells KO3.out
        obtain ⟨k0, k1, k2, k3, k4, k5⟩ := feed_cells KF3.out
        obtain ⟨j0, j1, j2, j3, j4, j5⟩ := feed_cells KG3.out
        go_wp2_with fail
        rw [HU3.out]
        refine (CF.out _ HB4a.out).mono ?_
        rintro e w5 ⟨rfl, hb5⟩
        have KF5 := Lib.hid (KF4.out.below hb5 KF4.out.lt)
        have KG5 := Lib.hid (KG4.out.below hb5 KG4.out.lt)
        have KO5 := Lib.hid (KO4.out.below hb5 KO4.out.lt)
        have KW5 := Lib.hid (KW4.out.below hb5 KW4.out.lt)
        have HB5 : Hid (Below w.heap.size w w5) := HB4.out.trans (hb5.mono HB4.out.size)
        have HB5a : Hid (Below w1.heap.size w1 w5) := HB4a.out.trans (hb5.mono HB4a.out.size)
        clear hb5 k0 k1 k2 k3 k4 k5 j0 j1 j2 j3 j4 j5 o0 o1 o2 o3 o4 o5 o6
        obtain ⟨j0, j1, j2, j3, j4, j5⟩ := feed_cells KG5.out
        go_wp2_with fail
        refine (CG.out _ HB5a.out).mono ?_
        rintro e w6 ⟨rfl, hb6⟩
        have KF6 := Lib.hid (KF5.out.below hb6 KF5.out.lt)
        have KG6 := Lib.hid (KG5.out.below hb6 KG5.out.lt)
        have KO6 := Lib.hid (KO5.out.below hb6 KO5.out.lt)
        have KW6 := Lib.hid (KW5.out.below hb6 KW5.out.lt)
        have HB6 : Hid (Below w.heap.size w w6) := HB5.out.trans (hb6.mono HB5.out.size)
        clear hb6 j0 j1 j2 j3 j4 j5
        obtain ⟨k0, k1, k2, k3, k4, k5⟩ := feed_cells KF6.out
        obtain ⟨j0, j1, j2, j3, j4, j5⟩ := feed_cells KG6.out
        obtain ⟨o0, o1, o2, o3, o4, o5, o6⟩ := fork_cells KO6.out
        obtain ⟨x0, x1, x2, x3, x4, x5, x6⟩ := fork_cells KW6.out
        go_wp2
        go_ret
        exact ⟨rfl, HB6.out⟩
  · have h9 : 1048576 < len := by omega
    clear hlen
    go_enter Try.func6, Try.ntmps6
    go_wp2
    go_ret
    exact ⟨rfl, Below.refl _ _⟩

end Go.Proofs.Ytpcjlilfcpfmcaa
