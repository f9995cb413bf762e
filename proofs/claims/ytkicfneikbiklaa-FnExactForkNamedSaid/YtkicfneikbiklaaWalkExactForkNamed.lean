/- The walk of FnExactForkNamed: it returns true and changes nothing that was there. Condition: the argument's cells lie in memory. -/
import Derived.Test.YtkicfneikbiklaaExactForks
import Derived.Test.YtkicfneikbiklaaNamedMath
import Derived.Test.YtkicfneikbiklaaBaseD
namespace Go.Proofs.Ytkicfneikbiklaa
open Go.RowKit
set_option linter.unusedVariables false

set_option maxHeartbeats 8000000 in
set_option maxRecDepth 100000 in
theorem walkExactForkNamed (A : Option Addr) (cap : Nat) (xs : List KD) (w : World) (hP : RowAt KK w w.heap.size A xs) (hm : xs.length ≤ maxLen) :
    Calls Try.prog 6 #[.slice A xs.length cap] w fun e w' => e = .returned (.bool true) ∧ Below w.heap.size w w' := by
  have HP := Lib.hid hP
  obtain ⟨n, HN⟩ : ∃ n, Hid (xs.length = n) := ⟨_, rfl⟩
  have TP : Hid (n ≤ 1048576 → ∀ W, Below w.heap.size w W → Calls Try.prog 16 #[.slice A n cap] W fun e w' => e = .returned (.slice (some ⟨W.heap.size, 0, none⟩) n n) ∧ OwnRow KK w' W.heap.size (some ⟨W.heap.size, 0, none⟩) n xs ∧ Below W.heap.size W w') := fun hF W hW => by
    have h := toKs_any A cap xs W (HP.out.belowS hW) (by rw [HN.out]; exact hF)
    rw [HN.out] at h; exact h
  have EQ : Hid (n ≤ 1048576 → ∀ (W : World) (b0 b1 g0 g1 : Nat), OwnRow KK W b0 (some ⟨g0, 0, none⟩) n xs → OwnRow KK W b1 (some ⟨g1, 0, none⟩) n xs → Calls Try.prog 18 #[.slice (some ⟨g0, 0, none⟩) n n, .slice (some ⟨g1, 0, none⟩) n n] W fun e w' => e = .returned (.bool true) ∧ Below W.heap.size W w') := fun hF W b0 b1 g0 g1 h1 h2 =>
    eqKs_any (some ⟨g0, 0, none⟩) n (some ⟨g1, 0, none⟩) n xs W h1.at_ h2.at_ (by rw [HN.out]; unfold maxLen; omega) HN.out
  have MK : Hid (n ≤ 1048576 → ∀ (W : World) (b0 g0 : Nat), OwnRow KK W b0 (some ⟨g0, 0, none⟩) n xs → Calls Try.prog 19 #[.slice (some ⟨g0, 0, none⟩) n n, .int .i64 1] W (MarkedK W b0 (some ⟨g0, 0, none⟩) n)) := fun hF W b0 g0 h1 => by
    have h := markK_any b0 g0 n xs W h1 (by rw [HN.out]; exact hF)
    rw [HN.out] at h; exact h
  have SP : Hid (n ≤ 1048576 → ∀ (W : World) (b0 g0 : Nat), OwnRow KK W b0 (some ⟨g0, 0, none⟩) n xs → Calls Try.prog 9 #[.slice (some ⟨g0, 0, none⟩) n n] W (RetInts W (keysTo xs 996))) := fun hF W b0 g0 h1 => by
    have h := snamed_any (some ⟨g0, 0, none⟩) n xs W h1.at_ (by rw [HN.out]; omega)
    rw [HN.out] at h; exact h
  have IM : Hid (n ≤ 1048576 → ∀ (W : World) (b0 g0 : Nat), OwnRow KK W b0 (some ⟨g0, 0, none⟩) n xs → Calls Try.prog 8 #[.slice (some ⟨g0, 0, none⟩) n n] W (RetInts W (keysTo xs 996))) := fun hF W b0 g0 h1 => by
    have h := named_own (some ⟨g0, 0, none⟩) n xs W h1.at_ (by rw [HN.out]; omega)
    rw [HN.out] at h; exact h
  have hrs := keysTo_len xs 996
  obtain ⟨R, HR⟩ : ∃ Z, Hid (keysTo xs 996 = Z) := ⟨_, rfl⟩
  rw [HR.out] at SP IM hrs
  clear HR
  have HRM : Hid (R.length ≤ maxLen) := by show _ ≤ _; unfold maxLen; omega
  have HRS : Hid (R.length ≤ 1048576) := by show _ ≤ _; omega
  have EI : Hid (∀ (W : World) (X Y : Option Addr) (c d b0 b1 : Nat), OwnInts W b0 X c R → OwnInts W b1 Y d R → Calls Try.prog 17 #[.slice X R.length c, .slice Y R.length d] W fun e w' => e = .returned (.bool true) ∧ ∃ q, w' = W.drewN q) := fun W X Y c d b0 b1 h1 h2 => by
    have h := eqi_any X c R Y d R W h1.ints h2.ints HRM.out HRM.out
    rw [deci_same] at h; exact h
  rw [HN.out] at hm ⊢
  clear hP
  by_cases hn : n ≤ 1048576
  · have C1 := Lib.hid (szK_fit A n cap w hn)
    have TP1 := Lib.hid (TP.out hn)
    have EQ1 := Lib.hid (EQ.out hn)
    have MK1 := Lib.hid (MK.out hn)
    have SP1 := Lib.hid (SP.out hn)
    have IM1 := Lib.hid (IM.out hn)
    have hr0 : ¬ (1048576 - (n : Int)) < 0 := by omega
    obtain ⟨r, hr⟩ : ∃ r, 1048576 - (n : Int) = r := ⟨_, rfl⟩
    rw [hr] at C1 hr0
    have HR0 := Lib.hid hr0
    clear TP EQ MK SP IM hm hr hr0
    go_enter Try.func6, Try.ntmps6
    go_wp2_with fail
    refine C1.out.mono ?_
    rintro e w1 ⟨rfl, rfl⟩
    have hr0 : ¬ r < 0 := by have h := HR0.out; omega
    clear C1
    go_wp2_with fail
    refine (TP1.out _ (Below.refl w.heap.size w)).mono ?_
    rintro e w2 ⟨rfl, ho2, hb2⟩
    have HB2 := Lib.hid hb2
    have HO2 := Lib.hid ho2
    clear ho2 hb2
    go_wp2_with fail
    refine (SP1.out w2 _ _ HO2.out).mono ?_
    rintro e w4 ⟨X4, c4, rfl, ho4, hb4⟩
    have HW4 := Lib.hid ho4
    have HB4 := Lib.hid (HB2.out.trans (hb4.mono HB2.out.size))
    have hlt4 : Hid (∀ g, X4 = some ⟨g, 0, none⟩ → g < w4.heap.size) := fun g hA => (own_lt ho4 g hA).2
    clear ho4 hb4 SP1 HO2
    go_wp2_with fail
    refine (TP1.out _ HB4.out).mono ?_
    rintro e w5 ⟨rfl, ho5, hb5⟩
    have HB5 := Lib.hid (HB4.out.trans (hb5.mono HB4.out.size))
    have HW5 := Lib.hid (HW4.out.below hb5)
    have HO5 := Lib.hid ho5
    have hs5 : w4.heap.size < w5.heap.size := (ho5.lies _ rfl).2
    clear ho5 hb5
    go_wp2_with fail
    refine (IM1.out w5 _ _ HO5.out).mono ?_
    rintro e w7 ⟨X7, c7, rfl, ho7, hb7⟩
    have HG7 := Lib.hid ho7
    have HB7 := Lib.hid (HB5.out.trans (hb7.mono HB5.out.size))
    have HO7 := Lib.hid (HO5.out.below hb7)
    have HW7 := Lib.hid (HW5.out.below hb7)
    have hlt7 : Hid (∀ g, X7 = some ⟨g, 0, none⟩ → w5.heap.size ≤ g) := fun g hA => (own_lt ho7 g hA).1
    have hz7 : w5.heap.size ≤ w7.heap.size := hb7.size
    clear ho7 hb7 HO5 HW5 HW4
    go_wp2_with fail
    refine (EI.out w7 _ _ _ _ _ _ HG7.out HW7.out).mono ?_
    rintro e w' ⟨rfl, q1, rfl⟩
    go_wp2_with fail
    refine (TP1.out _ (below_drewN HB7.out q1)).mono ?_
    rintro e w8 ⟨rfl, ho8, hb8⟩
    have HB8 := Lib.hid ((below_drewN HB7.out q1).trans (hb8.mono HB7.out.size))
    have HO8 := Lib.hid ((HO7.out.drewN q1).below hb8)
    have HG8 := Lib.hid ((HG7.out.drewN q1).below hb8)
    have HW8 := Lib.hid ((HW7.out.drewN q1).below hb8)
    have C4 := Lib.hid (EQ1.out w8 _ _ _ _ HO8.out ho8)
    have hz8 : w7.heap.size ≤ w8.heap.size := hb8.size
    clear hb8 ho8 EQ1 HO7 HG7 HW7
    go_wp2_with fail
    refine C4.out.mono ?_
    rintro e w9 ⟨rfl, hb9⟩
    have HB9 := Lib.hid (HB8.out.trans (hb9.mono HB8.out.size))
    have HO9 := Lib.hid (HO8.out.below hb9)
    have HG9 := Lib.hid (HG8.out.below hb9)
    have HW9 := Lib.hid (HW8.out.below hb9)
    have hz9 : w8.heap.size ≤ w9.heap.size := hb9.size
    clear hb9 C4 HO8 HG8 HW8
    go_wp2_with fail
    refine (MK1.out w9 _ _ HO9.out).mono ?_
    rintro e w10 hm10
    obtain ⟨hb10, hk10⟩ := markedK_other HO9.out hm10 (by omega)
    obtain ⟨rfl, -, -⟩ := hm10
    have HW10 := Lib.hid (own_older HW9.out hlt4.out hb10)
    have HG10 := Lib.hid (own_block HG9.out fun g hA => hk10 g (own_lt HG9.out g hA).2 (fun g' hg' => by injection hg' with hg'; injection hg' with hg'; have := hlt7.out g hA; omega))
    have HB10 : Hid (Below w.heap.size w w10) := HB9.out.trans (hb10.mono HB4.out.size)
    have hz10 : w9.heap.size ≤ w10.heap.size := hb10.size
    clear hb10 hk10 HO9 HW9 HG9 MK1
    have hk1 : ¬ (((1 + 7 * n : Nat) : Int) < 0) := by omega
    go_wp2_with fail
    refine (EI.out w10 _ _ _ _ _ _ HG10.out HW10.out).mono ?_
    rintro e w' ⟨rfl, q4, rfl⟩
    go_wp2_with fail
    refine (mark_any _ X7 c7 R _ (HG10.out.drewN q4) HRS.out).mono ?_
    rintro e w12 hm12
    obtain ⟨hb12, hk12⟩ := marked_other (HG10.out.drewN q4) hm12
    obtain ⟨rfl, ho12, -, -⟩ := hm12
    have HM12 : Hid (IntsAt w12 w12.heap.size X7 (marks 1 R.length)) := ho12.ints
    have HW12 := Lib.hid (own_older (HW10.out.drewN q4) (fun g hA => by have := hlt4.out g hA; omega) hb12)
    have HB12 : Hid (Below w.heap.size w w12) := (below_drewN HB10.out q4).trans (hb12.mono HB5.out.size)
    clear hb12 hk12 ho12 HG10 HW10
    have hrn2 : R.length ≤ 1048576 := HRS.out
    have hk2 : ¬ (((1 + R.length : Nat) : Int) < 0) := by omega
    go_wp2_with fail
    refine (held_any X7 c7 R.length _ HM12.out HRS.out).mono ?_
    rintro e w' ⟨rfl, rfl⟩
    have hqm : ((((1 + R.length : Nat) : Int)) != ((1 + R.length : Nat) : Int)) = false := by simp
    go_wp2_with fail
    refine (TP1.out _ HB12.out).mono ?_
    rintro e w13 ⟨rfl, ho13, hb13⟩
    have HB13 := Lib.hid (HB12.out.trans (hb13.mono HB12.out.size))
    have HW13 := Lib.hid (HW12.out.below hb13)
    have HK13 := Lib.hid (HM12.out.belowS hb13)
    have HO13 := Lib.hid ho13
    clear ho13 hb13 HM12 HW12
    go_wp2_with fail
    refine (IM1.out w13 _ _ HO13.out).mono ?_
    rintro e w15 ⟨X15, c15, rfl, ho15, hb15⟩
    have HG15 := Lib.hid ho15
    have HW15 := Lib.hid (HW13.out.below hb15)
    have HK15 := Lib.hid (HK13.out.belowS hb15)
    have HB15 := Lib.hid (HB13.out.trans (hb15.mono HB13.out.size))
    clear ho15 hb15 IM1 HW13 HK13 HO13
    go_wp2_with fail
    refine (EI.out w15 _ _ _ _ _ _ HG15.out HW15.out).mono ?_
    rintro e w' ⟨rfl, q5, rfl⟩
    go_wp2_with fail
    refine (held_any X7 c7 R.length _ (HK15.out.drewN q5) HRS.out).mono ?_
    rintro e w' ⟨rfl, rfl⟩
    go_wp2
    go_ret
    exact ⟨rfl, below_drewN HB15.out q5⟩
  · have C1 := Lib.hid (szK_over A n cap w (by omega) hm)
    clear hm
    go_enter Try.func6, Try.ntmps6
    go_wp2_with fail
    refine C1.out.mono ?_
    rintro e w1 ⟨rfl, rfl⟩
    clear C1
    go_wp2
    go_ret
    exact ⟨rfl, Below.refl _ _⟩

end Go.Proofs.Ytkicfneikbiklaa
