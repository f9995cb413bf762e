/- The walk of FnExactBitsWants: it returns true and changes nothing that was there. Condition: the arguments' cells lie in memory. -/
import Derived.Test.YtmgdngmcgokeeaaBitsWants
import Derived.Test.YtmgdngmcgokeeaaExactKeep
namespace Go.Proofs.Ytmgdngmcgokeeaa
open Go.RowKit
set_option linter.unusedVariables false

set_option maxHeartbeats 8000000 in
set_option maxRecDepth 100000 in
theorem walkExactBitsWants (A : Option Addr) (cap : Nat) (xs : List Bool) (A1 : Option Addr) (cap1 : Nat) (ys : List Bool) (w : World) (hI : BoolsAt w w.heap.size A xs) (hJ : BoolsAt w w.heap.size A1 ys) (hm : xs.length ≤ maxLen) (hm1 : ys.length ≤ maxLen) :
    Calls Try.prog 9 #[.slice A xs.length cap, .slice A1 ys.length cap1] w fun e w' => e = .returned (.bool true) ∧ Below w.heap.size w w' := by
  unfold maxLen at hm hm1
  have HI := Lib.hid hI
  have HJ := Lib.hid hJ
  clear hI hJ
  by_cases hlen : xs.length ≤ 1048576
  · by_cases hlen1 : ys.length ≤ 1048576
    · have HL := Lib.hid hlen
      have HL1 := Lib.hid hlen1
      have HLM : Hid (xs.length ≤ maxLen) := by show _ ≤ _; unfold maxLen; omega
      have HLM1 : Hid (ys.length ≤ maxLen) := by show _ ≤ _; unfold maxLen; omega
      obtain ⟨R, HR⟩ : ∃ R, Hid (wantsOr xs ys = R) := ⟨_, rfl⟩
      have HRS : Hid (R.length ≤ 1048576) := by show _ ≤ _; rw [← HR.out]; have := wantsOr_short xs ys; omega
      have HRM : Hid (R.length ≤ maxLen) := by show _ ≤ _; have := HRS.out; unfold maxLen; omega
      go_enter Try.func9, Try.ntmps9
      go_wp2_with fail
      refine (toBools_any A cap xs _ HI.out HL.out).mono ?_
      rintro e w1 ⟨rfl, ho1, hb1⟩
      have HX1 := Lib.hid ho1
      have HB1 := Lib.hid hb1
      clear ho1 hb1
      go_wp2_with fail
      refine (toBools_any A1 cap1 ys _ (HJ.out.belowS HB1.out) HL1.out).mono ?_
      rintro e w2 ⟨rfl, ho2, hb2⟩
      have HY2 := Lib.hid ho2
      have HX2 := Lib.hid (HX1.out.below hb2)
      have HB2 : Hid (Below w.heap.size w w2) := HB1.out.trans (hb2.mono HB1.out.size)
      clear ho2 hb2
      go_wp2_with fail
      refine (sbitsWants_any _ xs.length xs _ ys.length ys _ HX2.out.ints HY2.out.ints HLM.out HLM1.out).mono ?_
      rintro e w3 ⟨A3, c3, rfl, ho3, hb3⟩
      rw [HR.out] at ho3 ⊢
      have HW3 := Lib.hid ho3
      have HB3 : Hid (Below w.heap.size w w3) := HB2.out.trans (hb3.mono HB2.out.size)
      have hlt3 : Hid (∀ g, A3 = some ⟨g, 0, none⟩ → g < w3.heap.size) := fun g hA => (own_lt ho3 g hA).2
      clear ho3 hb3 HX1 HX2 HY2
      go_wp2_with fail
      refine (toBools_any A cap xs _ (HI.out.belowS HB3.out) HL.out).mono ?_
      rintro e w4 ⟨rfl, ho4, hb4⟩
      have HX4 := Lib.hid ho4
      have HW4 := Lib.hid (HW3.out.below hb4)
      have HB4 : Hid (Below w.heap.size w w4) := HB3.out.trans (hb4.mono HB3.out.size)
      have hz4 : w3.heap.size < w4.heap.size := (ownb_lt ho4 _ rfl).2
      clear ho4 hb4
      go_wp2_with fail
      refine (toBools_any A1 cap1 ys _ (HJ.out.belowS HB4.out) HL1.out).mono ?_
      rintro e w5 ⟨rfl, ho5, hb5⟩
      have HY5 := Lib.hid ho5
      have HX5 := Lib.hid (HX4.out.below hb5)
      have HW5 := Lib.hid (HW4.out.below hb5)
      have HB5 : Hid (Below w.heap.size w w5) := HB4.out.trans (hb5.mono HB4.out.size)
      have hz5 : w4.heap.size < w5.heap.size := (ownb_lt ho5 _ rfl).2
      clear ho5 hb5
      go_wp2_with fail
      refine (bitsWants_any _ xs.length xs _ ys.length ys _ HX5.out.ints HY5.out.ints).mono ?_
      rintro e w6 ⟨A6, c6, rfl, ho6, hb6⟩
      rw [HR.out] at ho6 ⊢
      have HG6 := Lib.hid ho6
      have HX6 := Lib.hid (HX5.out.below hb6)
      have HY6 := Lib.hid (HY5.out.below hb6)
      have HW6 := Lib.hid (HW5.out.below hb6)
      have HB6 : Hid (Below w.heap.size w w6) := HB5.out.trans (hb6.mono HB5.out.size)
      have hz6 : w5.heap.size ≤ w6.heap.size := hb6.size
      have hlt6 : Hid (∀ g, A6 = some ⟨g, 0, none⟩ → w5.heap.size ≤ g) := fun g hA => (own_lt ho6 g hA).1
      clear ho6 hb6
      go_wp2_with fail
      refine (eqi_any A6 c6 R A3 c3 R _ HG6.out.ints HW6.out.ints HRM.out HRM.out).mono ?_
      rintro e w' ⟨rfl, q1, rfl⟩
      rw [deci_same]
      go_wp2_with fail
      refine (toBools_any A cap xs _ (HI.out.belowS (below_drewN HB6.out q1)) HL.out).mono ?_
      rintro e w7 ⟨rfl, ho7, hb7⟩
      have HT7 := Lib.hid ho7
      have HG7 := Lib.hid ((HG6.out.drewN q1).below hb7)
      have HX7 := Lib.hid ((HX6.out.drewN q1).below hb7)
      have HY7 := Lib.hid ((HY6.out.drewN q1).below hb7)
      have HW7 := Lib.hid ((HW6.out.drewN q1).below hb7)
      have HB7 : Hid (Below w.heap.size w w7) := (below_drewN HB6.out q1).trans (hb7.mono HB6.out.size)
      clear ho7 hb7
      go_wp2_with fail
      refine (eqb_any _ xs.length xs _ xs.length xs _ HX7.out.ints HT7.out.ints HLM.out HLM.out).mono ?_
      rintro e w' ⟨rfl, q2, rfl⟩
      rw [decb_same]
      go_wp2_with fail
      refine (toBools_any A1 cap1 ys _ (HJ.out.belowS (below_drewN HB7.out q2)) HL1.out).mono ?_
      rintro e w8 ⟨rfl, ho8, hb8⟩
      have HT8 := Lib.hid ho8
      have HG8 := Lib.hid ((HG7.out.drewN q2).below hb8)
      have HX8 := Lib.hid ((HX7.out.drewN q2).below hb8)
      have HY8 := Lib.hid ((HY7.out.drewN q2).below hb8)
      have HW8 := Lib.hid ((HW7.out.drewN q2).below hb8)
      have HB8 : Hid (Below w.heap.size w w8) := (below_drewN HB7.out q2).trans (hb8.mono HB7.out.size)
      clear ho8 hb8
      go_wp2_with fail
      refine (eqb_any _ ys.length ys _ ys.length ys _ HY8.out.ints HT8.out.ints HLM1.out HLM1.out).mono ?_
      rintro e w' ⟨rfl, q3, rfl⟩
      rw [decb_same]
      go_wp2_with fail
      refine (markb_one _ _ _ xs _ (HX8.out.drewN q3) HL.out).mono ?_
      rintro e w9 hm9
      obtain ⟨hb9, hk9⟩ := markedb_other (HX8.out.drewN q3) hm9
      obtain ⟨rfl, -, -, -⟩ := hm9
      have HW9 := Lib.hid (own_older (HW8.out.drewN q3) hlt3.out hb9)
      have HY9 := Lib.hid (ownb_block (HY8.out.drewN q3) fun g hA => hk9 g (ownb_lt HY8.out g hA).2 fun g' hA' => by cases hA; cases hA'; omega)
      have HG9 := Lib.hid (own_block (HG8.out.drewN q3) fun g hA => hk9 g (own_lt HG8.out g hA).2 fun g' hA' => by cases hA'; have := hlt6.out g hA; omega)
      have HB9 : Hid (Below w.heap.size w w9) := (below_drewN HB8.out q3).trans (hb9.mono HB3.out.size)
      clear hb9 hk9
      go_wp2_with fail
      refine (markb_any _ _ _ (1 + xs.length) ys _ HY9.out HL1.out (by omega)).mono ?_
      rintro e w10 hm10
      obtain ⟨hb10, hk10⟩ := markedb_other HY9.out hm10
      obtain ⟨rfl, -, -, -⟩ := hm10
      have HW10 := Lib.hid (own_older HW9.out (fun g hA => by have := hlt3.out g hA; omega) hb10)
      have HG10 := Lib.hid (own_block HG9.out fun g hA => hk10 g (own_lt HG9.out g hA).2 fun g' hA' => by cases hA'; have := hlt6.out g hA; omega)
      have HB10 : Hid (Below w.heap.size w w10) := HB9.out.trans (hb10.mono HB4.out.size)
      clear hb10 hk10
      have hk1 : ¬ (((1 + xs.length + ys.length : Nat) : Int) < 0) := by omega
      go_wp2_with fail
      refine (eqi_any A6 c6 R A3 c3 R _ HG10.out.ints HW10.out.ints HRM.out HRM.out).mono ?_
      rintro e w' ⟨rfl, q4, rfl⟩
      rw [deci_same]
      go_wp2_with fail
      refine (mark_any _ A6 c6 R _ (HG10.out.drewN q4) HRS.out).mono ?_
      rintro e w11 hm11
      obtain ⟨hb11, hk11⟩ := marked_other (HG10.out.drewN q4) hm11
      obtain ⟨rfl, ho11, -, -⟩ := hm11
      have HM11 : Hid (IntsAt w11 w11.heap.size A6 (marks 1 R.length)) := ho11.ints
      have HW11 := Lib.hid (own_older (HW10.out.drewN q4) (fun g hA => by have := hlt3.out g hA; omega) hb11)
      have HB11 : Hid (Below w.heap.size w w11) := (below_drewN HB10.out q4).trans (hb11.mono HB5.out.size)
      clear hb11 hk11 ho11
      have hrn : R.length ≤ 1048576 := HRS.out
      have hk2 : ¬ (((1 + R.length : Nat) : Int) < 0) := by omega
      go_wp2_with fail
      refine (held_any A6 c6 R.length _ HM11.out HRS.out).mono ?_
      rintro e w' ⟨rfl, rfl⟩
      have hqm : ((((1 + R.length : Nat) : Int)) != ((1 + R.length : Nat) : Int)) = false := by simp
      go_wp2_with fail
      refine (toBools_any A cap xs _ (HI.out.belowS HB11.out) HL.out).mono ?_
      rintro e w12 ⟨rfl, ho12, hb12⟩
      have HX12 := Lib.hid ho12
      have HW12 := Lib.hid (HW11.out.below hb12)
      have HM12 := Lib.hid (HM11.out.belowS hb12)
      have HB12 : Hid (Below w.heap.size w w12) := HB11.out.trans (hb12.mono HB11.out.size)
      clear ho12 hb12
      go_wp2_with fail
      refine (toBools_any A1 cap1 ys _ (HJ.out.belowS HB12.out) HL1.out).mono ?_
      rintro e w13 ⟨rfl, ho13, hb13⟩
      have HY13 := Lib.hid ho13
      have HX13 := Lib.hid (HX12.out.below hb13)
      have HW13 := Lib.hid (HW12.out.below hb13)
      have HM13 := Lib.hid (HM12.out.belowS hb13)
      have HB13 : Hid (Below w.heap.size w w13) := HB12.out.trans (hb13.mono HB12.out.size)
      clear ho13 hb13
      go_wp2_with fail
      refine (bitsWants_any _ xs.length xs _ ys.length ys _ HX13.out.ints HY13.out.ints).mono ?_
      rintro e w14 ⟨A14, c14, rfl, ho14, hb14⟩
      rw [HR.out] at ho14 ⊢
      have HG14 := Lib.hid ho14
      have HW14 := Lib.hid (HW13.out.below hb14)
      have HM14 := Lib.hid (HM13.out.belowS hb14)
      have HB14 : Hid (Below w.heap.size w w14) := HB13.out.trans (hb14.mono HB13.out.size)
      clear ho14 hb14
      go_wp2_with fail
      refine (eqi_any A14 c14 R A3 c3 R _ HG14.out.ints HW14.out.ints HRM.out HRM.out).mono ?_
      rintro e w' ⟨rfl, q5, rfl⟩
      rw [deci_same]
      go_wp2_with fail
      refine (held_any A6 c6 R.length _ (HM14.out.drewN q5) HRS.out).mono ?_
      rintro e w' ⟨rfl, rfl⟩
      go_wp2
      go_ret
      exact ⟨rfl, below_drewN HB14.out q5⟩
    · have h9 : 1048576 < ys.length := by omega
      clear hlen1
      go_enter Try.func9, Try.ntmps9
      go_wp2
      go_ret
      exact ⟨rfl, Below.refl _ _⟩
  · have h9 : 1048576 < xs.length := by omega
    clear hlen
    go_enter Try.func9, Try.ntmps9
    go_wp2
    go_ret
    exact ⟨rfl, Below.refl _ _⟩

end Go.Proofs.Ytmgdngmcgokeeaa
