/- The walk of FnExactRareOrder: it returns true and changes nothing that was there. Condition: the arguments' cells lie in memory. -/
import Derived.Test.YtjnpkcnnfojmpaaExactPeers
import Derived.Test.YtjnpkcnnfojmpaaSRareOrd
namespace Go.Proofs.Ytjnpkcnnfojmpaa
open Go.RowKit
set_option linter.unusedVariables false

theorem orderK_small (ps : List (List Bool)) (mine : List Bool) (h : ps.length ≤ 6) : (orderN ps mine).length ≤ 112 := by
  unfold orderN orderK orderTo
  split
  · rw [List.length_map]
    refine Nat.le_trans (List.length_filter_le _ _) ?_
    rw [List.length_range]; omega
  · exact Nat.zero_le _
theorem order_short (ps : List (List Bool)) (mine : List Bool) : (natZ (orderN ps mine)).length ≤ 112 := by
  rw [natZ_length]
  by_cases h : okP ps = true
  · exact orderK_small ps mine ((okP_iff ps).1 h).1
  · unfold orderN
    rw [if_neg (fun k => h k.1)]; exact Nat.zero_le _

set_option maxHeartbeats 8000000 in
set_option maxRecDepth 100000 in
theorem walkExactRareOrder (A : Option Addr) (cap : Nat) (hs : List PH) (A1 : Option Addr) (cap1 : Nat) (mine : List Bool) (w : World) (hP : PAt w w.heap.size A hs) (hJ : BoolsAt w w.heap.size A1 mine) (hm : mine.length ≤ maxLen) :
    Calls Try.prog 4 #[.slice A hs.length cap, .slice A1 mine.length cap1] w fun e w' => e = .returned (.bool true) ∧ Below w.heap.size w w' := by
  unfold maxLen at hm
  have HP := Lib.hid hP
  have HJ := Lib.hid hJ
  have C1 := Lib.hid (szPeers_any A cap hs w _ hP)
  obtain ⟨n, HN⟩ : ∃ n, Hid (hs.length = n) := ⟨_, rfl⟩
  obtain ⟨m, HMN⟩ : ∃ n, Hid (mine.length = n) := ⟨_, rfl⟩
  have TP : Hid (FewB (pz hs) → ∀ W, Below w.heap.size w W → Calls Try.prog 9 #[.slice A n cap] W (CopiedP W hs n)) := fun hF W hW => by
    have h := toPeers_any A cap hs W (HP.out.belowS hW) hF
    rw [HN.out] at h; exact h
  have EQ : Hid (∀ (W : World) (b0 t0 b1 t1 : Nat) (ys zs : List PH), MadeP W b0 t0 ys → MadeP W b1 t1 zs → ys.length = n → zs.length = n → pz zs = pz ys → Calls Try.prog 11 #[.slice (some ⟨b0, 0, none⟩) n n, .slice (some ⟨b1, 0, none⟩) n n] W fun e w' => e = .returned (.bool true) ∧ ∃ q, w' = W.drewN q) := fun W b0 t0 b1 t1 ys zs h1 h2 h3 h4 h5 => by
    have h := eqPeers_any (some ⟨b0, 0, none⟩) n ys (some ⟨b1, 0, none⟩) n zs W h1.pat h2.pat h5
    rw [h3, h4] at h; exact h
  have TB : Hid (m ≤ 1048576 → ∀ W, Below w.heap.size w W → Calls Try.prog 13 #[.slice A1 m cap1] W fun e w' => e = .returned (.slice (some ⟨W.heap.size, 0, none⟩) m m) ∧ OwnBools w' W.heap.size (some ⟨W.heap.size, 0, none⟩) m mine ∧ Below W.heap.size W w') := fun hF W hW => by
    have h := toBools_any A1 cap1 mine W (HJ.out.belowS hW) (by rw [HMN.out]; exact hF)
    unfold CopiedB at h
    rw [HMN.out] at h; exact h
  have EB : Hid (m ≤ 1048576 → ∀ (W : World) (b0 b1 g0 g1 : Nat), OwnBools W b0 (some ⟨g0, 0, none⟩) m mine → OwnBools W b1 (some ⟨g1, 0, none⟩) m mine → Calls Try.prog 16 #[.slice (some ⟨g0, 0, none⟩) m m, .slice (some ⟨g1, 0, none⟩) m m] W fun e w' => e = .returned (.bool true) ∧ ∃ q, w' = W.drewN q) := fun hF W b0 b1 g0 g1 h1 h2 => by
    have h := eqb_any (some ⟨g0, 0, none⟩) m mine (some ⟨g1, 0, none⟩) m mine W h1.ints h2.ints (by rw [HMN.out]; unfold maxLen; omega) (by rw [HMN.out]; unfold maxLen; omega)
    rw [HMN.out, decb_same] at h; exact h
  have SP : Hid (∀ (W : World) (b0 t0 b1 g1 : Nat) (ys : List PH), MadeP W b0 t0 ys → OwnBools W b1 (some ⟨g1, 0, none⟩) m mine → ys.length = n → pz ys = pz hs → Calls Try.prog 12 #[.slice (some ⟨b0, 0, none⟩) n n, .slice (some ⟨g1, 0, none⟩) m m] W (RetInts W (natZ (orderN (pz hs) mine)))) := fun W b0 t0 b1 g1 ys h1 h2 h3 h5 => by
    have h := sorder_any (some ⟨b0, 0, none⟩) n ys (some ⟨g1, 0, none⟩) m mine W h1.pat h2.ints
    rw [h3, h5, HMN.out] at h; exact h
  have IM : Hid (∀ (W : World) (b0 t0 b1 g1 : Nat) (ys : List PH), MadeP W b0 t0 ys → OwnBools W b1 (some ⟨g1, 0, none⟩) m mine → ys.length = n → pz ys = pz hs → Calls Try.prog 14 #[.slice (some ⟨b0, 0, none⟩) n n, .slice (some ⟨g1, 0, none⟩) m m] W (RetInts W (natZ (orderN (pz hs) mine)))) := fun W b0 t0 b1 g1 ys h1 h2 h3 h5 => by
    have h := order_any (some ⟨b0, 0, none⟩) n ys (some ⟨g1, 0, none⟩) m mine W h1.pat h2.ints
    rw [h3, h5, HMN.out] at h; exact h
  have hrs := order_short (pz hs) mine
  obtain ⟨R, HR⟩ : ∃ Z, Hid (natZ (orderN (pz hs) mine) = Z) := ⟨_, rfl⟩
  rw [HR.out] at SP IM hrs
  have HRM : Hid (R.length ≤ maxLen) := by show _ ≤ _; unfold maxLen; omega
  have HRS : Hid (R.length ≤ 1048576) := by show _ ≤ _; omega
  have EI : Hid (∀ (W : World) (X Y : Option Addr) (c d b0 b1 : Nat), OwnInts W b0 X c R → OwnInts W b1 Y d R → Calls Try.prog 15 #[.slice X R.length c, .slice Y R.length d] W fun e w' => e = .returned (.bool true) ∧ ∃ q, w' = W.drewN q) := fun W X Y c d b0 b1 h1 h2 => by
    have h := eqi_any X c R Y d R W h1.ints h2.ints HRM.out HRM.out
    rw [deci_same] at h; exact h
  rw [HN.out] at C1 ⊢
  rw [HMN.out] at hm ⊢
  clear hP hJ
  by_cases hm1 : m ≤ 1048576
  · have hmi : ¬ (1048576 : Int) < (m : Int) := by omega
    have TB1 := Lib.hid (TB.out hm1)
    have EB1 := Lib.hid (EB.out hm1)
    clear TB EB
    go_enter Try.func4, Try.ntmps4
    go_wp2_with fail
    refine C1.out.mono ?_
    rintro e w1 ⟨r, rfl, hr0, hfew, rfl⟩
    by_cases hr : 0 ≤ r
    · have HFW := Lib.hid (hfew hr)
      have TP1 := Lib.hid (TP.out (hfew hr))
      have hrn : ¬ r < 0 := by omega
      clear hfew C1 TP
      go_wp2_with fail
      refine (TP1.out _ (Below.refl w1.heap.size w1)).mono ?_
      rintro e w2 ⟨y2, rfl, hl2, hz2, hm2, hb2⟩
      have HB2 := Lib.hid ((Below.refl w1.heap.size w1).trans (hb2.mono (Below.refl w1.heap.size w1).size))
      go_wp2_with fail
      refine (TB1.out _ HB2.out).mono ?_
      rintro e w3 ⟨rfl, ho3, hb3⟩
      have HB3 := Lib.hid (HB2.out.trans (hb3.mono HB2.out.size))
      have HM3 := Lib.hid (hm2.below hb3)
      have HO3 := Lib.hid ho3
      have HL3 := Lib.hid hl2
      have HZ3 := Lib.hid hz2
      clear ho3 hb2 hb3 hm2 hl2 hz2
      go_wp2_with fail
      refine (SP.out w3 _ _ _ _ y2 HM3.out HO3.out HL3.out HZ3.out).mono ?_
      rintro e w4 ⟨X4, c4, rfl, ho4, hb4⟩
      have HW4 := Lib.hid ho4
      have HB4 := Lib.hid (HB3.out.trans (hb4.mono HB3.out.size))
      have hlt4 : Hid (∀ g, X4 = some ⟨g, 0, none⟩ → g < w4.heap.size) := fun g hA => (own_lt ho4 g hA).2
      clear ho4 hb4 SP HM3 HO3 HL3 HZ3
      go_wp2_with fail
      refine (TP1.out _ HB4.out).mono ?_
      rintro e w5 ⟨y5, rfl, hl5, hz5, hm5, hb5⟩
      have HB5 := Lib.hid (HB4.out.trans (hb5.mono HB4.out.size))
      have HW5 := Lib.hid (HW4.out.below hb5)
      go_wp2_with fail
      refine (TB1.out _ HB5.out).mono ?_
      rintro e w6 ⟨rfl, ho6, hb6⟩
      have HB6 := Lib.hid (HB5.out.trans (hb6.mono HB5.out.size))
      have HM6 := Lib.hid (hm5.below hb6)
      have HO6 := Lib.hid ho6
      have HL6 := Lib.hid hl5
      have HZ6 := Lib.hid hz5
      have HW6 := Lib.hid (HW5.out.below hb6)
      have hs5 : w4.heap.size < w5.heap.size := hm5.lt
      have hs6 : w5.heap.size < w6.heap.size := (ownb_lt ho6 _ rfl).2
      clear ho6 hb5 hb6 hm5 hl5 hz5
      go_wp2_with fail
      refine (IM.out w6 _ _ _ _ y5 HM6.out HO6.out HL6.out HZ6.out).mono ?_
      rintro e w7 ⟨X7, c7, rfl, ho7, hb7⟩
      have HG7 := Lib.hid ho7
      have HB7 := Lib.hid (HB6.out.trans (hb7.mono HB6.out.size))
      have HM7 := Lib.hid (HM6.out.below hb7)
      have HO7 := Lib.hid (HO6.out.below hb7)
      have HW7 := Lib.hid (HW6.out.below hb7)
      have hlt7 : Hid (∀ g, X7 = some ⟨g, 0, none⟩ → w6.heap.size ≤ g) := fun g hA => (own_lt ho7 g hA).1
      have hz7 : w6.heap.size ≤ w7.heap.size := hb7.size
      clear ho7 hb7 HM6 HO6 HW6 HW5 HW4
      go_wp2_with fail
      refine (EI.out w7 _ _ _ _ _ _ HG7.out HW7.out).mono ?_
      rintro e w' ⟨rfl, q1, rfl⟩
      go_wp2_with fail
      refine (TP1.out _ (below_drewN HB7.out q1)).mono ?_
      rintro e w8 ⟨y8, rfl, hl8, hz8, hm8, hb8⟩
      have HB8 := Lib.hid ((below_drewN HB7.out q1).trans (hb8.mono HB7.out.size))
      have HO8 := Lib.hid ((HO7.out.drewN q1).below hb8)
      have HM8 := Lib.hid ((HM7.out.drewN q1).below hb8)
      have HG8 := Lib.hid ((HG7.out.drewN q1).below hb8)
      have HW8 := Lib.hid ((HW7.out.drewN q1).below hb8)
      have C4 := Lib.hid (EQ.out w8 _ _ _ _ y5 y8 HM8.out hm8 HL6.out hl8 (hz8.trans HZ6.out.symm))
      clear hb8 hm8 EQ hl8 hz8 HM7 HO7 HG7 HW7
      go_wp2_with fail
      refine C4.out.mono ?_
      rintro e w' ⟨rfl, q, rfl⟩
      clear C4
      go_wp2_with fail
      refine (TB1.out _ (below_drewN HB8.out q)).mono ?_
      rintro e w9 ⟨rfl, ho9, hb9⟩
      have HB9 := Lib.hid ((below_drewN HB8.out q).trans (hb9.mono HB8.out.size))
      have HO9 := Lib.hid ((HO8.out.drewN q).below hb9)
      have HM9 := Lib.hid ((HM8.out.drewN q).below hb9)
      have HG9 := Lib.hid ((HG8.out.drewN q).below hb9)
      have HW9 := Lib.hid ((HW8.out.drewN q).below hb9)
      have C5 := Lib.hid (EB1.out w9 _ _ _ _ HO9.out ho9)
      clear ho9 hb9 EB1 HM8 HO8 HG8 HW8
      go_wp2_with fail
      refine C5.out.mono ?_
      rintro e w' ⟨rfl, q2, rfl⟩
      clear C5
      have htot : totB (pz y5) ≤ 1048576 := by
        have h := HFW.out
        rw [← HZ6.out] at h
        unfold FewB at h; omega
      have C6 := Lib.hid (markPeers_any _ _ n y5 (w9.drewN q2) (HM9.out.drewN q2) (by rw [HZ6.out]; exact HFW.out) n HL6.out)
      obtain ⟨tt, HTT⟩ : ∃ x, Hid (totB (pz y5) = x) := ⟨_, rfl⟩
      rw [HTT.out] at C6 htot
      go_wp2_with fail
      refine C6.out.mono ?_
      rintro e w10 ⟨rfl, hb10, hk10⟩
      clear C6
      have HW10 := Lib.hid (own_older (HW9.out.drewN q2) hlt4.out hb10)
      have HO10 := Lib.hid (ownb_block (HO9.out.drewN q2) fun g hA => hk10 g (by injection hA with hA; injection hA with hA; omega) (ownb_lt HO9.out g hA).2)
      have HG10 := Lib.hid (own_block (HG9.out.drewN q2) fun g hA => hk10 g (by have := hlt7.out g hA; omega) (own_lt HG9.out g hA).2)
      have HB10 : Hid (Below w1.heap.size w1 w10) := (below_drewN HB9.out q2).trans (hb10.mono HB4.out.size)
      clear hb10 hk10 HM9 HW9 HO9 HG9
      have C7 : Hid (Calls Try.prog 18 #[.slice (some ⟨w5.heap.size, 0, none⟩) m m, .int .i64 ((1 + tt : Nat) : Int)] w10 fun e w' => e = .returned (.int .i64 ((1 + tt + m : Nat) : Int)) ∧ Below w5.heap.size w10 w' ∧ (∀ i, i < w10.heap.size → i ≠ w5.heap.size → w'.heap[i]? = w10.heap[i]?)) := by
        have h := markb_any _ _ _ (1 + tt) mine _ HO10.out (by rw [HMN.out]; exact hm1) (by omega)
        rw [HMN.out] at h
        refine h.mono fun e w' k => ?_
        have k2 := markedb_other HO10.out k
        exact ⟨k.1, k2.1, fun i hi hne => k2.2 i hi fun g hg => by injection hg with hg; injection hg with hg; omega⟩
      go_wp2_with fail
      refine C7.out.mono ?_
      rintro e w11 ⟨rfl, hb11, hk11⟩
      clear C7
      have HW11 := Lib.hid (own_older HW10.out (fun g hA => by have := hlt4.out g hA; omega) hb11)
      have HG11 := Lib.hid (own_block HG10.out fun g hA => hk11 g (own_lt HG10.out g hA).2 (by have := hlt7.out g hA; omega))
      have HB11 : Hid (Below w1.heap.size w1 w11) := HB10.out.trans (hb11.mono (by have := HB4.out.size; omega))
      clear hb11 hk11 HW10 HG10 HO10
      have hk1 : ¬ (((1 + tt + m : Nat) : Int) < 0) := by omega
      go_wp2_with fail
      refine (EI.out w11 _ _ _ _ _ _ HG11.out HW11.out).mono ?_
      rintro e w' ⟨rfl, q4, rfl⟩
      go_wp2_with fail
      refine (mark_any _ X7 c7 R _ (HG11.out.drewN q4) HRS.out).mono ?_
      rintro e w12 hm12
      obtain ⟨hb12, hk12⟩ := marked_other (HG11.out.drewN q4) hm12
      obtain ⟨rfl, ho12, -, -⟩ := hm12
      have HM12 : Hid (IntsAt w12 w12.heap.size X7 (marks 1 R.length)) := ho12.ints
      have HW12 := Lib.hid (own_older (HW11.out.drewN q4) (fun g hA => by have := hlt4.out g hA; omega) hb12)
      have HB12 : Hid (Below w1.heap.size w1 w12) := (below_drewN HB11.out q4).trans (hb12.mono HB6.out.size)
      clear hb12 hk12 ho12 HG11 HW11
      have hrn2 : R.length ≤ 1048576 := HRS.out
      have hk2 : ¬ (((1 + R.length : Nat) : Int) < 0) := by omega
      go_wp2_with fail
      refine (held_any X7 c7 R.length _ HM12.out HRS.out).mono ?_
      rintro e w' ⟨rfl, rfl⟩
      have hqm : ((((1 + R.length : Nat) : Int)) != ((1 + R.length : Nat) : Int)) = false := by simp
      clear HL6 HZ6 HTT htot
      go_wp2_with fail
      refine (TP1.out _ HB12.out).mono ?_
      rintro e w13 ⟨y13, rfl, hl13, hz13, hm13, hb13⟩
      have HB13 := Lib.hid (HB12.out.trans (hb13.mono HB12.out.size))
      have HW13 := Lib.hid (HW12.out.below hb13)
      have HK13 := Lib.hid (HM12.out.belowS hb13)
      go_wp2_with fail
      refine (TB1.out _ HB13.out).mono ?_
      rintro e w14 ⟨rfl, ho14, hb14⟩
      have HB14 := Lib.hid (HB13.out.trans (hb14.mono HB13.out.size))
      have HM14 := Lib.hid (hm13.below hb14)
      have HO14 := Lib.hid ho14
      have HL14 := Lib.hid hl13
      have HZ14 := Lib.hid hz13
      have HW14 := Lib.hid (HW13.out.below hb14)
      have HK14 := Lib.hid (HK13.out.belowS hb14)
      clear ho14 hb13 hb14 hm13 hl13 hz13
      go_wp2_with fail
      refine (IM.out w14 _ _ _ _ y13 HM14.out HO14.out HL14.out HZ14.out).mono ?_
      rintro e w15 ⟨X15, c15, rfl, ho15, hb15⟩
      have HG15 := Lib.hid ho15
      have HW15 := Lib.hid (HW14.out.below hb15)
      have HK15 := Lib.hid (HK14.out.belowS hb15)
      have HB15 := Lib.hid (HB14.out.trans (hb15.mono HB14.out.size))
      clear ho15 hb15 IM HW14 HK14
      go_wp2_with fail
      refine (EI.out w15 _ _ _ _ _ _ HG15.out HW15.out).mono ?_
      rintro e w' ⟨rfl, q5, rfl⟩
      go_wp2_with fail
      refine (held_any X7 c7 R.length _ (HK15.out.drewN q5) HRS.out).mono ?_
      rintro e w' ⟨rfl, rfl⟩
      go_wp2
      go_ret
      exact ⟨rfl, below_drewN HB15.out q5⟩
    · have hrn : r < 0 := by omega
      clear hfew
      go_wp2
      go_ret
      exact ⟨rfl, Below.refl _ _⟩
  · have hmi : (1048576 : Int) < (m : Int) := by omega
    go_enter Try.func4, Try.ntmps4
    go_wp2
    go_ret
    exact ⟨rfl, Below.refl _ _⟩

end Go.Proofs.Ytjnpkcnnfojmpaa
