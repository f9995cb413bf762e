/- The walk of FnPeaksGrow: it returns true and changes nothing that was there. Condition: the codes' bytes lie in memory. -/
import Derived.Test.YthkfekbeckjoiaaPeaks
import Derived.Test.YthkfekbeckjoiaaPeakLaws
import Derived.Test.YthkfekbeckjoiaaDrawPeaks
import Derived.Test.YthkfekbeckjoiaaSame
import Derived.Test.YthkfekbeckjoiaaIn
namespace Go.Proofs.Ythkfekbeckjoiaa
open Go.RowKit
set_option linter.unusedVariables false

set_option maxHeartbeats 4000000 in
set_option maxRecDepth 100000 in
theorem walkPeaksGrow (A : Option Addr) (len cap : Nat) (A1 : Option Addr) (len1 cap1 : Nat) (w : World) (hI : In w A len cap) (hI1 : In w A1 len1 cap1) :
    Calls Try.prog 4 #[.slice A len cap, .slice A1 len1 cap1] w fun e w' => e = .returned (.bool true) ∧ Below w.heap.size w w' := by
  have hm := hI.len_le
  have hm1 := hI1.len_le
  have HM1 := Lib.hid hm1
  unfold maxLen at hm hm1
  have HI := Lib.hid hI
  clear hI hI1
  by_cases hlen : len ≤ 1048576
  · by_cases hlen1 : len1 ≤ 1048576
    · go_enter Try.func4, Try.ntmps4
      go_wp2_with fail
      refine (drawpeaks_any A len cap _ HI.out).mono ?_
      rintro e w1 ⟨b, c, zs, rfl, hz28, hnear, hown1, hb1⟩
      have HO1 := Lib.hid hown1
      have HB1 := Lib.hid hb1
      have HNR := Lib.hid hnear
      clear hown1 hb1 hnear
      go_wp2_with fail
      refine (peaks_any zs b 0 c _ HO1.out.ints HO1.out.le.1 HO1.out.le.2).mono ?_
      rintro e w2 ⟨A2, c2, rfl, hown2, hb2⟩
      have HO2 := Lib.hid hown2
      have HB2 := Lib.hid hb2
      clear hown2 hb2
      go_wp2_with fail
      refine (speaks_any zs b 0 c _ (HO1.out.below HB2.out).ints HO1.out.le.1 HO1.out.le.2).mono ?_
      rintro e w3 ⟨A3, c3, rfl, hown3, hb3⟩
      have HO3 := Lib.hid hown3
      have HO2' := Lib.hid (HO2.out.below hb3)
      have HZ3 := Lib.hid ((HO1.out.below HB2.out).below hb3)
      have HB : Hid (Below w.heap.size w w3) := (HB1.out.trans (HB2.out.mono HB1.out.size)).trans (hb3.mono (Nat.le_trans HB1.out.size HB2.out.size))
      clear hown3 hb3
      have HL2 := Lib.hid (Nat.le_trans HO2.out.le.1 HO2.out.le.2)
      go_wp2_with fail
      refine (same_any A2 c2 _ A3 c3 _ _ HO2'.out.ints HO3.out.ints HL2.out HL2.out).mono ?_
      rintro e w' ⟨rfl, q, rfl⟩
      have hdec : decide (peaksOr zs = peaksOr zs) = true := by simp
      rw [hdec]
      by_cases h0 : (peaksOr zs).length = 0
      · have hb0 : (((peaksOr zs).length : Int) == 0) = true := by simp [h0]
        have HH := Lib.hid h0
        clear h0
        go_wp2_with fail
        refine (same_any A2 c2 _ A3 c3 _ _ (HO2'.out.drewN q).ints (HO3.out.drewN q).ints HL2.out HL2.out).mono ?_
        rintro e w' ⟨rfl, q2, rfl⟩
        go_wp2
        go_ret
        exact ⟨ret_bool hdec, below_drewN HB.out _⟩
      · have hb0 : (((peaksOr zs).length : Int) == 0) = false := by rw [beq_eq_false_iff_ne]; omega
        obtain ⟨h16, hd, he⟩ := peaksOr_yes (zs := zs) (by omega)
        have HD := Lib.hid hd
        have HE := Lib.hid he
        clear h0 he hd hz28
        have HF : Hid (Below w.heap.size w (w3.drewN q)) := below_drewN HB.out q
        have HZ := Lib.hid (HZ3.out.drewN q)
        have HP := Lib.hid (HO2'.out.drewN q)
        obtain ⟨W, HW⟩ : ∃ W, Hid (w3.drewN q = W) := ⟨_, rfl⟩
        rw [HW.out] at HF HZ HP ⊢
        by_cases h1 : zs.length % 2 = 1
        · have hb1 : (((zs.length : Int) % 2) == 1) = true := by rw [beq_iff_eq]; omega
          rw [← HW.out]
          go_wp2_with fail
          refine (same_any A2 c2 _ A3 c3 _ _ (HO2'.out.drewN q).ints (HO3.out.drewN q).ints HL2.out HL2.out).mono ?_
          rintro e w' ⟨rfl, q2, rfl⟩
          go_wp2
          go_ret
          exact ⟨ret_bool hdec, below_drewN HB.out _⟩
        · have hb1 : (((zs.length : Int) % 2) == 1) = false := by rw [beq_eq_false_iff_ne]; omega
          by_cases h2 : zs.length = 16
          · have hb2 : ((zs.length : Int) == 16) = true := by rw [beq_iff_eq]; omega
            clear h2
            rw [← HW.out]
            go_wp2_with fail
            refine (same_any A2 c2 _ A3 c3 _ _ (HO2'.out.drewN q).ints (HO3.out.drewN q).ints HL2.out HL2.out).mono ?_
            rintro e w' ⟨rfl, q2, rfl⟩
            go_wp2
            go_ret
            exact ⟨ret_bool hdec, below_drewN HB.out _⟩
          · have hb2 : ((zs.length : Int) == 16) = false := by rw [beq_eq_false_iff_ne]; omega
            obtain ⟨x, HX⟩ : ∃ x : Int, Hid ((len1 : Int) % 991 = x) := ⟨_, rfl⟩
            have hx0 : 0 ≤ x := by have := HX.out; omega
            have hx1 : x < 991 := by have := HX.out; omega
            have HK : Hid (decide (peaksOr (zs ++ [x]) = peaksOr zs ++ [x]) = true) := by
              show _ = _
              rw [decide_eq_true_iff, HE.out, peaksOr_of (by simp; omega) (by
                intro y hy
                rcases List.mem_append.1 hy with e | e
                · exact HD.out y e
                · have : y = x := by simpa using e
                  subst this; exact ⟨hx0, hx1⟩)]
              exact peaks_next zs x (by omega) (by omega)
            rw [← HX.out] at HK
            obtain ⟨ys, HY⟩ : ∃ ys, Hid (zs ++ [(len1 : Int) % 991] = ys) := ⟨_, rfl⟩
            obtain ⟨us, HU⟩ : ∃ us, Hid (peaksOr zs ++ [(len1 : Int) % 991] = us) := ⟨_, rfl⟩
            rw [HY.out, HU.out] at HK
            have hy0 : 0 < ys.length := by rw [← HY.out]; simp
            clear h1 h2
            go_wp2_with (first
              | (at_builtin; refine wpList_app_ints rfl (.tmp 50) (.tmp 51) rfl _ W.heap.size _ _ [] rfl _ _ zs rfl (OwnInts.new W) (HZ.out.ints.allocS _) (by simp; omega) (by simp) (by simp) ?_; intro v w4 hA; rw [List.nil_append] at hA; obtain ⟨⟨A4, c4, rfl, hown4⟩, hg4, hb4⟩ := hA; have HO4 := Lib.hid hown4; have HB4 : Hid (Below W.heap.size W w4) := ((Below.refl _ W).alloc (Nat.le_refl _) _).trans hb4; clear hown4 hg4 hb4; have hs4 : W.heap.size ≤ w4.heap.size := HB4.out.size)
              | (at_builtin; refine wpList_app_ints rfl (.tmp 52) (.tmp 54) rfl _ W.heap.size A4 c4 zs rfl _ _ [(len1 : Int) % 991] rfl (HO4.out.alloc _) (one_new _ _) (by simp; omega) (by simp; omega) (by simp) ?_; intro v w5 hA; rw [HY.out] at hA; obtain ⟨⟨A5, c5, rfl, hown5⟩, hg5, hb5⟩ := hA; obtain ⟨b5, hA5⟩ := hown5.some_ hy0; subst hA5; have HO5 := Lib.hid hown5; have HB5 : Hid (Below W.heap.size W w5) := (HB4.out.alloc (by omega) _).trans hb5; clear hown5 hg5 hb5))
            refine (peaks_any ys b5 0 c5 _ HO5.out.ints HO5.out.le.1 HO5.out.le.2).mono ?_
            rintro e w6 ⟨A6, c6, rfl, hown6, hb6⟩
            have HO6 := Lib.hid hown6
            have HB6 : Hid (Below W.heap.size W w6) := HB5.out.trans (hb6.mono HB5.out.size)
            clear hown6 hb6
            have hs6 : W.heap.size ≤ w6.heap.size := HB6.out.size
            have hpl : (peaksOr zs).length ≤ 17 := by rw [HE.out, coverG_length, sizesOf_length]; exact places_length_le _ _
            go_wp2_with (first
              | (at_builtin; refine wpList_app_ints rfl (.tmp 58) (.tmp 59) rfl _ w6.heap.size _ _ [] rfl _ _ (peaksOr zs) rfl (OwnInts.new w6) ((HP.out.below HB6.out).ints.allocS _) (by simp; omega) (by simp) HP.out.none0 ?_; intro v w7 hA; rw [List.nil_append] at hA; obtain ⟨⟨A7, c7, rfl, hown7⟩, hg7, hb7⟩ := hA; have HO7 := Lib.hid hown7; have HB7 : Hid (Below w6.heap.size w6 w7) := ((Below.refl _ w6).alloc (Nat.le_refl _) _).trans hb7; clear hown7 hg7 hb7; have hs7 : w6.heap.size ≤ w7.heap.size := HB7.out.size)
              | (at_builtin; refine wpList_app_ints rfl (.tmp 60) (.tmp 62) rfl _ w6.heap.size A7 c7 (peaksOr zs) rfl _ _ [(len1 : Int) % 991] rfl (HO7.out.alloc _) (one_new _ _) (by simp; omega) (by simp; omega) (by simp) ?_; intro v w8 hA; rw [HU.out] at hA; obtain ⟨⟨A8, c8, rfl, hown8⟩, hg8, hb8⟩ := hA; have HO8 := Lib.hid hown8; have HB8 : Hid (Below w6.heap.size w6 w8) := (HB7.out.alloc (by omega) _).trans hb8; clear hown8 hg8 hb8))
            refine (same_any A6 c6 _ A8 c8 _ _ (HO6.out.below HB8.out).ints HO8.out.ints (Nat.le_trans HO6.out.le.1 HO6.out.le.2) (Nat.le_trans HO8.out.le.1 HO8.out.le.2)).mono ?_
            rintro e w' ⟨rfl, q3, rfl⟩
            go_wp2
            go_ret
            exact ⟨ret_bool HK.out, below_drewN (HF.out.trans ((HB6.out.trans (HB8.out.mono HB6.out.size)).mono HF.out.size)) _⟩
    · have h9 : 1048576 < len1 := by omega
      clear hlen1
      go_enter Try.func4, Try.ntmps4
      go_wp2
      go_ret
      exact ⟨rfl, Below.refl _ _⟩
  · have h9 : 1048576 < len := by omega
    clear hlen
    go_enter Try.func4, Try.ntmps4
    go_wp2
    go_ret
    exact ⟨rfl, Below.refl _ _⟩

end Go.Proofs.Ythkfekbeckjoiaa
