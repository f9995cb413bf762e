/- The walk of FnPeaksJoin: it returns true and changes nothing that was there. Condition: the codes' bytes lie in memory. -/
import Derived.Test.YthkfekbeckjoiaaPeaks
import Derived.Test.YthkfekbeckjoiaaPeakLaws
import Derived.Test.YthkfekbeckjoiaaDrawPeaks
import Derived.Test.YthkfekbeckjoiaaSame
import Derived.Test.YthkfekbeckjoiaaIn
import Derived.Test.YthkfekbeckjoiaaPairs
namespace Go.Proofs.Ythkfekbeckjoiaa
open Go.RowKit
set_option linter.unusedVariables false

set_option maxHeartbeats 4000000 in
set_option maxRecDepth 100000 in
theorem walkPeaksJoin (A : Option Addr) (len cap : Nat) (w : World) (hI : In w A len cap) :
    Calls Try.prog 9 #[.slice A len cap] w fun e w' => e = .returned (.bool true) ∧ Below w.heap.size w w' := by
  have hm := hI.len_le
  unfold maxLen at hm
  have HI := Lib.hid hI
  clear hI
  by_cases hlen : len ≤ 1048576
  · go_enter Try.func9, Try.ntmps9
    go_wp2_with fail
    refine (drawpeaks_any A len cap _ HI.out).mono ?_
    rintro e w1 ⟨b, c, zs, rfl, hz28, hnear, hown1, hb1⟩
    have HO1 := Lib.hid hown1
    have HB1 := Lib.hid hb1
    have HNR := Lib.hid hnear
    clear hown1 hb1 hnear
    go_wp2_with fail
    refine (peaks_any zs b 0 c _ HO1.out.ints HO1.out.le.1 HO1.out.le.2).mono ?_
    rintro e w2 ⟨A2, c2, rfl, hown2, hb2⟩
    have HO2 := Lib.hid hown2
    have HB2 := Lib.hid hb2
    clear hown2 hb2
    go_wp2_with fail
    refine (speaks_any zs b 0 c _ (HO1.out.below HB2.out).ints HO1.out.le.1 HO1.out.le.2).mono ?_
    rintro e w3 ⟨A3, c3, rfl, hown3, hb3⟩
    have HO3 := Lib.hid hown3
    have HO2' := Lib.hid (HO2.out.below hb3)
    have HZ3 := Lib.hid ((HO1.out.below HB2.out).below hb3)
    have HB : Hid (Below w.heap.size w w3) := (HB1.out.trans (HB2.out.mono HB1.out.size)).trans (hb3.mono (Nat.le_trans HB1.out.size HB2.out.size))
    clear hown3 hb3
    have HL2 := Lib.hid (Nat.le_trans HO2.out.le.1 HO2.out.le.2)
    go_wp2_with fail
    refine (same_any A2 c2 _ A3 c3 _ _ HO2'.out.ints HO3.out.ints HL2.out HL2.out).mono ?_
    rintro e w' ⟨rfl, q, rfl⟩
    have hdec : decide (peaksOr zs = peaksOr zs) = true := by simp
    rw [hdec]
    by_cases h1 : (peaksOr zs).length = 1
    · have hb0 : (((peaksOr zs).length : Int) != 1) = false := by simp [h1]
      obtain ⟨h16, hd, he⟩ := peaksOr_yes (zs := zs) (by omega)
      by_cases h2 : zs.length < 2
      · clear hd he h1
        go_wp2_with fail
        refine (same_any A2 c2 _ A3 c3 _ _ (HO2'.out.drewN q).ints (HO3.out.drewN q).ints HL2.out HL2.out).mono ?_
        rintro e w' ⟨rfl, q2, rfl⟩
        go_wp2
        go_ret
        exact ⟨ret_bool hdec, below_drewN HB.out _⟩
      · obtain ⟨hh, ha1, hb1', heq⟩ := peaks_join zs h16 (by omega) (by rw [← he]; exact h1)
        obtain ⟨n, HN⟩ : ∃ n, Hid (zs.length = n) := ⟨_, rfl⟩
        obtain ⟨h, HH⟩ : ∃ h, Hid (n / 2 = h) := ⟨_, rfl⟩
        rw [HN.out, HH.out] at hh ha1 hb1' heq
        have HC1 := HO1.out.le.1
        have HC2 := HO1.out.le.2
        have HX := Lib.hid HC2
        rw [HN.out] at h16 h2 HC1 ⊢
        unfold maxLen at HC2
        have hh1 : 1 ≤ h := by omega
        have hh2 : h < n := by omega
        have hl1 : (zs.take h).length = h := by rw [List.length_take, HN.out]; omega
        have hl2 : (zs.drop h).length = n - h := by rw [List.length_drop, HN.out]
        obtain ⟨ps, HP⟩ : ∃ ps, Hid (peaksOr (zs.take h) = ps) := ⟨_, rfl⟩
        obtain ⟨qs, HQ⟩ : ∃ qs, Hid (peaksOr (zs.drop h) = qs) := ⟨_, rfl⟩
        rw [← peaksOr_of (by omega) (hd.take h), HP.out] at ha1 heq
        rw [← peaksOr_of (by omega) (hd.drop h), HQ.out] at hb1' heq
        rw [← he] at heq
        have bp : 0 ≤ nth ps 0 ∧ nth ps 0 < 991 := by rw [← HP.out, peaksOr_of (by omega) (hd.take h)]; exact (coverZ_digs _ 0 (hd.take h) (by omega)).at_ 0 (by rw [← peaksOr_of (by omega) (hd.take h), HP.out]; omega)
        have bq : 0 ≤ nth qs 0 ∧ nth qs 0 < 991 := by rw [← HQ.out, peaksOr_of (by omega) (hd.drop h)]; exact (coverZ_digs _ 0 (hd.drop h) (by omega)).at_ 0 (by rw [← peaksOr_of (by omega) (hd.drop h), HQ.out]; omega)
        have HZ := Lib.hid (HZ3.out.drewN q)
        have HP2 := Lib.hid (HO2'.out.drewN q)
        have HF : Hid (Below w.heap.size w (w3.drewN q)) := below_drewN HB.out q
        obtain ⟨W, HW⟩ : ∃ W, Hid (w3.drewN q = W) := ⟨_, rfl⟩
        rw [HW.out] at HF HZ HP2 ⊢
        have C1 : Hid (Calls Try.prog 13 #[.slice (some ⟨b, 0, none⟩) h c] W (RetInts W ps)) := by
          have := peaks_any (zs.take h) b 0 c W (HZ.out.ints.first h) (by omega) HX.out
          rw [hl1, HP.out] at this
          exact this
        have C2 : Hid (∀ V : World, Below W.heap.size W V → Calls Try.prog 13 #[.slice (some ⟨b, h, none⟩) (n - h) (c - h)] V (RetInts V qs)) := fun V hV => by
          have hp := (HZ.out.below hV).ints.part h zs.length rfl
          rw [List.take_of_length_le (by rw [List.length_drop]; omega), Nat.zero_add] at hp
          have := peaks_any (zs.drop h) b h (c - h) V hp (by omega) (by unfold maxLen; omega)
          rw [hl2, HQ.out] at this
          exact this
        have HEQ := Lib.hid heq
        have HA := Lib.hid ha1
        have HBB := Lib.hid hb1'
        have HL1 := Lib.hid h1
        obtain ⟨bp0, bp1⟩ := bp
        obtain ⟨bq0, bq1⟩ := bq
        have hi1 : (h : Int) ≤ (n : Int) := by omega
        have hi2 : (h : Int) ≤ (c : Int) := by omega
        have hi3 : (n : Int) ≤ (c : Int) := by omega
        have hne : ¬ c = h := by omega
        have hn2 : ¬ ((n : Int) < 2) := by omega
        clear hd he h1 hl1 hl2 heq ha1 hb1' hh
        go_wp2_with fail
        rw [HH.out, show ((n : Int) / 2) = (h : Int) from by have := HH.out; omega]
        refine C1.out.mono ?_
        rintro e w5 ⟨A5, c5, rfl, hown5, hb5⟩
        have HO5 := Lib.hid hown5
        have HB5 := Lib.hid hb5
        clear hown5 hb5
        go_wp2_with fail
        refine (C2.out _ HB5.out).mono ?_
        rintro e w6 ⟨A6, c6, rfl, hown6, hb6⟩
        have HO6 := Lib.hid hown6
        have HO5' := Lib.hid (HO5.out.below hb6)
        have HB6 : Hid (Below W.heap.size W w6) := HB5.out.trans (hb6.mono HB5.out.size)
        clear hown6 hb6
        have HP6 := Lib.hid (HP2.out.below HB6.out)
        obtain ⟨g5, hA5⟩ := HO5'.out.some_ (by rw [HA.out]; omega)
        obtain ⟨g6, hA6⟩ := HO6.out.some_ (by rw [HBB.out]; omega)
        obtain ⟨g2, hA2⟩ := HP6.out.some_ (by rw [HL1.out]; omega)
        subst hA5 hA6 hA2
        have k5 := (HO5'.out.ints.lt (by rw [HA.out]; omega)).2 0 (by rw [HA.out]; omega)
        have k6 := (HO6.out.ints.lt (by rw [HBB.out]; omega)).2 0 (by rw [HBB.out]; omega)
        have k2 := (HP6.out.ints.lt (by rw [HL1.out]; omega)).2 0 (by rw [HL1.out]; omega)
        rw [HA.out, HBB.out, HL1.out]
        have hfin : (nth (peaksOr zs) 0 == pairZ (nth ps 0) (nth qs 0)) = true := by rw [beq_iff_eq]; exact HEQ.out
        have hpo := pairOr_y ⟨bp0, bp1⟩ ⟨bq0, bq1⟩
        have HPO := Lib.hid hpo
        clear hpo
        have CP : Hid (∀ t, Calls Try.prog 16 #[.int .i64 (nth ps 0), .int .i64 (nth qs 0)] (w6.drewN t) fun e w' => e = .returned (.int .i64 (pairZ (nth ps 0) (nth qs 0))) ∧ w6.drewN t = w') := fun t => by
          have := pair_any (nth ps 0) (nth qs 0) (w6.drewN t)
          rw [HPO.out] at this
          exact this
        simp only [Nat.zero_add] at k5 k6 k2
        go_wp2_with fail
        go_quiet ((go_at_call 16; with_reducible exact quiet_left (CP.out _)))
        go_wp2
        go_ret
        exact ⟨rfl, below_drewN (HF.out.trans (HB6.out.mono HF.out.size)) _⟩
    · have hb0 : (((peaksOr zs).length : Int) != 1) = true := by rw [bne_iff_ne]; omega
      go_wp2_with fail
      refine (same_any A2 c2 _ A3 c3 _ _ (HO2'.out.drewN q).ints (HO3.out.drewN q).ints HL2.out HL2.out).mono ?_
      rintro e w' ⟨rfl, q2, rfl⟩
      go_wp2
      go_ret
      exact ⟨ret_bool hdec, below_drewN HB.out _⟩
  · have h9 : 1048576 < len := by omega
    clear hlen
    go_enter Try.func9, Try.ntmps9
    go_wp2
    go_ret
    exact ⟨rfl, Below.refl _ _⟩

end Go.Proofs.Ythkfekbeckjoiaa
