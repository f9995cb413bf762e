/- The walk of FnExactChokeFade: it returns true and changes nothing that was there. Condition: the argument's cells lie in memory. -/
import Derived.Test.YtgmaegcnbebcnaaChokeGive
import Derived.Test.YtgmaegcnbebcnaaSChokeGive
import Derived.Test.YtgmaegcnbebcnaaServeLaws
import Derived.Test.YtgmaegcnbebcnaaBaseD
namespace Go.Proofs.Ytgmaegcnbebcnaa
open Go.RowKit
set_option linter.unusedVariables false

set_option maxHeartbeats 8000000 in
set_option maxRecDepth 100000 in
theorem walkExactChokeFade (A : Option Addr) (cap : Nat) (xs : List Int) (w : World) (hI : IntsAt w w.heap.size A xs) (hm : xs.length ≤ maxLen) :
    Calls Try.prog 6 #[.slice A xs.length cap] w fun e w' => e = .returned (.bool true) ∧ Below w.heap.size w w' := by
  unfold maxLen at hm
  have HI := Lib.hid hI
  clear hI
  by_cases hlen : xs.length ≤ 1048576
  · have HL := Lib.hid hlen
    have HLM : Hid (xs.length ≤ maxLen) := by show _ ≤ _; unfold maxLen; omega
    obtain ⟨R, HR⟩ : ∃ R, Hid (fadeZ xs = R) := ⟨_, rfl⟩
    have HRS : Hid (R.length ≤ 1048576) := by show _ ≤ _; rw [← HR.out]; have := fade_len (gs := xs); omega
    have HRM : Hid (R.length ≤ maxLen) := by show _ ≤ _; have := HRS.out; unfold maxLen; omega
    have SPEC : Hid (∀ (A : Option Addr) (cap : Nat) (W : World), IntsAt W W.heap.size A xs → Calls Try.prog 17 #[.slice A xs.length cap] W (RetInts W R)) := by
      intro A cap W h
      have := schokeFade_any A cap xs xs.length W h rfl HL.out
      rw [HR.out] at this
      exact this
    have IMPL : Hid (∀ (A : Option Addr) (cap : Nat) (W : World), IntsAt W W.heap.size A xs → Calls Try.prog 18 #[.slice A xs.length cap] W (RetInts W R)) := by
      intro A cap W h
      have := chokeFade_any A cap xs xs.length W h rfl HL.out
      rw [HR.out] at this
      exact this
    go_enter Try.func6, Try.ntmps6
    go_wp2_with fail
    refine (toInts_any A cap xs _ HI.out HL.out).mono ?_
    rintro e w1 ⟨rfl, ho1, hb1⟩
    have HX1 := Lib.hid ho1
    have HB1 := Lib.hid hb1
    clear ho1 hb1
    go_wp2_with fail
    refine (SPEC.out _ xs.length _ HX1.out.ints).mono ?_
    rintro e w3 ⟨A3, c3, rfl, ho3, hb3⟩
    have HW3 := Lib.hid ho3
    have HB3 : Hid (Below w.heap.size w w3) := HB1.out.trans (hb3.mono HB1.out.size)
    have hlt3 : Hid (∀ g, A3 = some ⟨g, 0, none⟩ → g < w3.heap.size) := fun g hA => (own_lt ho3 g hA).2
    clear ho3 hb3 HX1
    go_wp2_with fail
    refine (toInts_any A cap xs _ (HI.out.belowS HB3.out) HL.out).mono ?_
    rintro e w4 ⟨rfl, ho4, hb4⟩
    have HX4 := Lib.hid ho4
    have HW4 := Lib.hid (HW3.out.below hb4)
    have HB4 : Hid (Below w.heap.size w w4) := HB3.out.trans (hb4.mono HB3.out.size)
    have hz4 : w3.heap.size < w4.heap.size := (own_lt ho4 _ rfl).2
    clear ho4 hb4
    go_wp2_with fail
    refine (IMPL.out _ xs.length _ HX4.out.ints).mono ?_
    rintro e w6 ⟨A6, c6, rfl, ho6, hb6⟩
    have HG6 := Lib.hid ho6
    have HX6 := Lib.hid (HX4.out.below hb6)
    have HW6 := Lib.hid (HW4.out.below hb6)
    have HB6 : Hid (Below w.heap.size w w6) := HB4.out.trans (hb6.mono HB4.out.size)
    have hz6 : w4.heap.size ≤ w6.heap.size := hb6.size
    have hlt6 : Hid (∀ g, A6 = some ⟨g, 0, none⟩ → w4.heap.size ≤ g) := fun g hA => (own_lt ho6 g hA).1
    clear ho6 hb6
    go_wp2_with fail
    refine (eqi_any A6 c6 R A3 c3 R _ HG6.out.ints HW6.out.ints HRM.out HRM.out).mono ?_
    rintro e w' ⟨rfl, q1, rfl⟩
    rw [deci_same]
    go_wp2_with fail
    refine (toInts_any A cap xs _ (HI.out.belowS (below_drewN HB6.out q1)) HL.out).mono ?_
    rintro e w7 ⟨rfl, ho7, hb7⟩
    have HT7 := Lib.hid ho7
    have HG7 := Lib.hid ((HG6.out.drewN q1).below hb7)
    have HX7 := Lib.hid ((HX6.out.drewN q1).below hb7)
    have HW7 := Lib.hid ((HW6.out.drewN q1).below hb7)
    have HB7 : Hid (Below w.heap.size w w7) := (below_drewN HB6.out q1).trans (hb7.mono HB6.out.size)
    clear ho7 hb7
    go_wp2_with fail
    refine (eqi_any _ xs.length xs _ xs.length xs _ HX7.out.ints HT7.out.ints HLM.out HLM.out).mono ?_
    rintro e w' ⟨rfl, q2, rfl⟩
    rw [deci_same]
    go_wp2_with fail
    refine (mark_any _ _ _ xs _ (HX7.out.drewN q2) HL.out).mono ?_
    rintro e w9 hm9
    obtain ⟨hb9, hk9⟩ := marked_other (HX7.out.drewN q2) hm9
    obtain ⟨rfl, -, -, -⟩ := hm9
    have HW9 := Lib.hid (own_older (HW7.out.drewN q2) hlt3.out hb9)
    have HG9 := Lib.hid (own_block (HG7.out.drewN q2) fun g hA => hk9 g (own_lt HG7.out g hA).2 fun g' hA' => by cases hA'; have := hlt6.out g hA; omega)
    have HB9 : Hid (Below w.heap.size w w9) := (below_drewN HB7.out q2).trans (hb9.mono HB3.out.size)
    clear hb9 hk9
    have hk1 : ¬ (((1 + xs.length : Nat) : Int) < 0) := by omega
    go_wp2_with fail
    refine (eqi_any A6 c6 R A3 c3 R _ HG9.out.ints HW9.out.ints HRM.out HRM.out).mono ?_
    rintro e w' ⟨rfl, q4, rfl⟩
    rw [deci_same]
    go_wp2_with fail
    refine (mark_any _ A6 c6 R _ (HG9.out.drewN q4) HRS.out).mono ?_
    rintro e w11 hm11
    obtain ⟨hb11, hk11⟩ := marked_other (HG9.out.drewN q4) hm11
    obtain ⟨rfl, ho11, -, -⟩ := hm11
    have HM11 : Hid (IntsAt w11 w11.heap.size A6 (marks 1 R.length)) := ho11.ints
    have HW11 := Lib.hid (own_older (HW9.out.drewN q4) (fun g hA => by have := hlt3.out g hA; omega) hb11)
    have HB11 : Hid (Below w.heap.size w w11) := (below_drewN HB9.out q4).trans (hb11.mono HB4.out.size)
    clear hb11 hk11 ho11
    have hrn : R.length ≤ 1048576 := HRS.out
    have hk2 : ¬ (((1 + R.length : Nat) : Int) < 0) := by omega
    go_wp2_with fail
    refine (held_any A6 c6 R.length _ HM11.out HRS.out).mono ?_
    rintro e w' ⟨rfl, rfl⟩
    have hqm : ((((1 + R.length : Nat) : Int)) != ((1 + R.length : Nat) : Int)) = false := by simp
    go_wp2_with fail
    refine (toInts_any A cap xs _ (HI.out.belowS HB11.out) HL.out).mono ?_
    rintro e w12 ⟨rfl, ho12, hb12⟩
    have HX12 := Lib.hid ho12
    have HW12 := Lib.hid (HW11.out.below hb12)
    have HM12 := Lib.hid (HM11.out.belowS hb12)
    have HB12 : Hid (Below w.heap.size w w12) := HB11.out.trans (hb12.mono HB11.out.size)
    clear ho12 hb12
    go_wp2_with fail
    refine (IMPL.out _ xs.length _ HX12.out.ints).mono ?_
    rintro e w14 ⟨A14, c14, rfl, ho14, hb14⟩
    have HG14 := Lib.hid ho14
    have HW14 := Lib.hid (HW12.out.below hb14)
    have HM14 := Lib.hid (HM12.out.belowS hb14)
    have HB14 : Hid (Below w.heap.size w w14) := HB12.out.trans (hb14.mono HB12.out.size)
    clear ho14 hb14
    go_wp2_with fail
    refine (eqi_any A14 c14 R A3 c3 R _ HG14.out.ints HW14.out.ints HRM.out HRM.out).mono ?_
    rintro e w' ⟨rfl, q5, rfl⟩
    rw [deci_same]
    go_wp2_with fail
    refine (held_any A6 c6 R.length _ (HM14.out.drewN q5) HRS.out).mono ?_
    rintro e w' ⟨rfl, rfl⟩
    go_wp2
    go_ret
    exact ⟨rfl, below_drewN HB14.out q5⟩
  · have h9 : 1048576 < xs.length := by omega
    clear hlen
    go_enter Try.func6, Try.ntmps6
    go_wp2
    go_ret
    exact ⟨rfl, Below.refl _ _⟩

end Go.Proofs.Ytgmaegcnbebcnaa
