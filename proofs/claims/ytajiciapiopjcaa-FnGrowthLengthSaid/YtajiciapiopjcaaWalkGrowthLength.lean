/- The walk of FnGrowthLength: it returns true and changes nothing that was there. Condition: the codes' bytes lie in memory. -/
import Derived.Test.YtajiciapiopjcaaGrowth
import Derived.Test.YtajiciapiopjcaaDrawGrowth
import Derived.Test.YtajiciapiopjcaaSame
import Derived.Test.YtajiciapiopjcaaIn
namespace Go.Proofs.Ytajiciapiopjcaa
open Go.RowKit
set_option linter.unusedVariables false

theorem dec_self (l : List Int) : decide (l = l) = true := by simp

set_option maxHeartbeats 4000000 in
set_option maxRecDepth 100000 in
theorem walkGrowthLength (A : Option Addr) (len cap : Nat) (w : World) (hI : In w A len cap) :
    Calls Try.prog 7 #[.slice A len cap] w fun e w' => e = .returned (.bool true) ∧ Below w.heap.size w w' := by
  have hm := hI.len_le
  unfold maxLen at hm
  have HI := Lib.hid hI
  clear hI
  by_cases hlen : len ≤ 1048576
  · go_enter Try.func7, Try.ntmps7
    go_wp2_with fail
    refine (drawgrowth_any A len cap _ HI.out).mono ?_
    rintro e w1 ⟨b, c, zs, m, rfl, hz28, hnear, hm0, hm100, hown1, hb1⟩
    have HO1 := Lib.hid hown1
    have HB1 := Lib.hid hb1
    have HC1 := Lib.hid hown1.le.1
    have HC2 := Lib.hid hown1.le.2
    clear hown1 hb1 hnear
    obtain ⟨R, HR⟩ : ∃ R, Hid (growthOr zs m = R) := ⟨_, rfl⟩
    go_wp2_with fail
    refine (growth_any zs m b 0 c _ HO1.out.ints HC1.out HC2.out).mono ?_
    rintro e w2 ⟨A2, c2, rfl, hown2, hb2⟩
    rw [HR.out] at hown2 ⊢
    have HO2 := Lib.hid hown2
    have HB2 := Lib.hid hb2
    clear hown2 hb2
    go_wp2_with fail
    refine (sgrowth_any zs m b 0 c _ (HO1.out.below HB2.out).ints HC1.out HC2.out).mono ?_
    rintro e w3 ⟨A3, c3, rfl, hown3, hb3⟩
    rw [HR.out] at hown3 ⊢
    have HO3 := Lib.hid hown3
    have HO2' := Lib.hid (HO2.out.below hb3)
    have HZ3 := Lib.hid ((HO1.out.below HB2.out).below hb3)
    have HB : Hid (Below w.heap.size w w3) := (HB1.out.trans (HB2.out.mono HB1.out.size)).trans (hb3.mono (Nat.le_trans HB1.out.size HB2.out.size))
    clear hown3 hb3
    have HL2 := Lib.hid (Nat.le_trans HO2.out.le.1 HO2.out.le.2)
    go_wp2_with fail
    refine (same_any A2 c2 R A3 c3 R _ HO2'.out.ints HO3.out.ints HL2.out HL2.out).mono ?_
    rintro e w' ⟨rfl, q, rfl⟩
    rw [dec_self]
    have hfin : R.length ≤ 9 := by
      rw [← HR.out]
      by_cases h : leavesB zs = true ∧ 0 ≤ m ∧ m ≤ zs.length
      · obtain ⟨k, rfl⟩ := Int.eq_ofNat_of_zero_le h.2.1
        have h16 := (leavesB_yes h.1).1
        rw [growthOr_yes h.1 (by omega), growth_length zs k h16 (by omega)]
        exact growSizes_le h16 (by omega)
      · rw [growthOr_no h]; simp
    go_wp2
    go_ret
    exact ⟨ret_bool (by simp; omega), below_drewN HB.out q⟩
  · have h9 : 1048576 < len := by omega
    clear hlen
    go_enter Try.func7, Try.ntmps7
    go_wp2
    go_ret
    exact ⟨rfl, Below.refl _ _⟩

end Go.Proofs.Ytajiciapiopjcaa
