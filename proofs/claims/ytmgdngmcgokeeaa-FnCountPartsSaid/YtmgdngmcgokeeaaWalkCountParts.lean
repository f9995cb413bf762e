/- The walk of FnCountParts: it returns true and changes nothing that was there. Condition: the codes' bytes lie in memory. -/
import Derived.Test.YtmgdngmcgokeeaaBitsLaws
import Derived.Test.YtmgdngmcgokeeaaDrawBits
import Derived.Test.YtmgdngmcgokeeaaExactBools
import Derived.Test.YtmgdngmcgokeeaaIn
import Derived.Deep.RegionHeld3
import Derived.IntWalk
namespace Go.Proofs.Ytmgdngmcgokeeaa
open Go.RowKit
set_option linter.unusedVariables false

theorem OwnBools.drew {w : World} {base : Nat} {A : Option Addr} {cap : Nat} {zs : List Bool} (h : OwnBools w base A cap zs) : OwnBools w.drew base A cap zs := h

set_option maxHeartbeats 4000000 in
set_option maxRecDepth 100000 in
theorem walkCountParts (A : Option Addr) (len cap : Nat) (A1 : Option Addr) (len1 cap1 : Nat) (w : World) (hI : In w A len cap) (hI1 : In w A1 len1 cap1) :
    Calls Try.prog 6 #[.slice A len cap, .slice A1 len1 cap1] w fun e w' => e = .returned (.bool true) ∧ Below w.heap.size w w' := by
  have hm := hI.len_le
  have hm1 := hI1.len_le
  unfold maxLen at hm hm1
  have HI := Lib.hid hI
  clear hI hI1
  by_cases hlen : len ≤ 1048576
  · by_cases hlen1 : len1 ≤ 1048576
    · have hd0 : decide (1048576 < len) = false := by simp; omega
      go_enter Try.func6, Try.ntmps6
      go_wp2_with fail
      refine (drawcount_any A len cap _ HI.out).mono ?_
      rintro e w1 ⟨b, c, zs, rfl, hz18, hown1, hb1⟩
      have HO1 := Lib.hid hown1
      have HB1 := Lib.hid hb1
      have HLM : Hid (zs.length ≤ maxLen) := by show _ ≤ _; unfold maxLen; omega
      clear hown1 hb1
      go_wp2_with fail
      refine (bitsCount_any _ c zs _ HO1.out.ints).mono ?_
      rintro e w2 ⟨rfl, hb2⟩
      have HO2 := Lib.hid (HO1.out.below hb2)
      have HB2 : Hid (Below w.heap.size w w2) := HB1.out.trans (hb2.mono HB1.out.size)
      clear hb2
      go_wp2_with fail
      refine (sbitsCount_any _ c zs _ HO2.out.ints HLM.out).mono ?_
      rintro e w' ⟨rfl, rfl⟩
      by_cases h16 : zs.length ≤ 16
      · obtain ⟨R, HR⟩ : ∃ R : Nat, Hid (cntB zs = R) := ⟨_, rfl⟩
        have hR : R ≤ 16 := by rw [← HR.out]; have := cntB_le zs; omega
        rw [countOr_yes h16, HR.out]
        have hne : ((R : Int) != (R : Int)) = false := by simp
        have hlt : decide ((R : Int) < 0) = false := by simp
        obtain ⟨m, HM⟩ : ∃ m, Hid (zs.length = m) := ⟨_, rfl⟩
        obtain ⟨k, HK⟩ : ∃ k, Hid (len1 % (m + 1) = k) := ⟨_, rfl⟩
        have hkm : k ≤ m := by rw [← HK.out]; have := Nat.mod_lt len1 (show 0 < m + 1 by omega); omega
        have hmod : (len1 : Int) % ((m : Int) + 1) = (k : Int) := by rw [← HK.out]; rfl
        have hcap := HO2.out.le
        unfold maxLen at hcap
        obtain ⟨hmc, hcM⟩ := hcap
        obtain ⟨R1, HR1⟩ : ∃ R1 : Nat, Hid (cntB (zs.take k) = R1) := ⟨_, rfl⟩
        obtain ⟨R2, HR2⟩ : ∃ R2 : Nat, Hid (cntB (zs.drop k) = R2) := ⟨_, rfl⟩
        have HRR : Hid (R1 + R2 = R) := by show _ = _; rw [← HR.out, ← HR1.out, ← HR2.out]; exact cntB_parts zs k
        have C1 : Hid (∀ W : World, OwnBools W w.heap.size (some ⟨b, 0, none⟩) c zs → Calls Try.prog 11 #[.slice (some ⟨b, 0, none⟩) k c] W fun e w' => e = .returned (.int .i64 (R1 : Int)) ∧ Below W.heap.size W w') := by
          intro W hW
          have hl : (zs.take k).length = k := by rw [List.length_take, HM.out]; omega
          have := bitsCount_any (some ⟨b, 0, none⟩) c (zs.take k) W (hW.ints.first k)
          rw [hl, countOr_yes (by rw [hl]; rw [HM.out] at h16; omega), HR1.out] at this
          exact this
        have C2 : ∀ q : Nat, q = k ∨ k = m → Hid (∀ W : World, OwnBools W w.heap.size (some ⟨b, 0, none⟩) c zs → ∀ c2, Calls Try.prog 11 #[.slice (some ⟨b, q, none⟩) (m - k) c2] W fun e w' => e = .returned (.int .i64 (R2 : Int)) ∧ Below W.heap.size W w') := by
          intro q hq W hW c2
          have hl : (zs.drop k).length = m - k := by rw [List.length_drop, HM.out]
          have hI2 : BoolsAt W W.heap.size (some ⟨b, q, none⟩) (zs.drop k) := by
            rcases hq with rfl | hq
            · have := hW.ints.part q (zs.length - q) (b := b) (o := 0) rfl
              rw [Nat.zero_add, List.take_of_length_le (by rw [List.length_drop]; omega)] at this
              exact this
            · intro h0; rw [hl] at h0; omega
          have := bitsCount_any (some ⟨b, q, none⟩) c2 (zs.drop k) W hI2
          rw [hl, countOr_yes (by rw [hl]; rw [HM.out] at h16; omega), HR2.out] at this
          exact this
        rw [HM.out] at hmc h16 hz18 ⊢
        have hR1 : R1 ≤ 16 := by have := HRR.out; omega
        have hR2 : R2 ≤ 16 := by have := HRR.out; omega
        have hsum : IntKind.i64.wrap ((R1 : Int) + (R2 : Int)) = (R1 : Int) + (R2 : Int) := IntWalk.i64_in _ (by omega)
        have hee : ((R1 : Int) + (R2 : Int) == (R : Int)) = true := by rw [← HRR.out]; simp
        have hki : (k : Int) ≤ (m : Int) := by omega
        have hk0 : (0 : Int) ≤ (k : Int) := by omega
        have hkc : (k : Int) ≤ (c : Int) := by omega
        go_wp2_with fail
        rw [hmod]
        clear hmod
        by_cases hkc2 : k = c
        · have hkm2 : m = k := by omega
          subst hkm2
          subst hkc2
          have C3 : Hid (∀ W : World, Calls Try.prog 11 #[.slice (some ⟨b, 0, none⟩) 0 0] W fun e w' => e = .returned (.int .i64 (R2 : Int)) ∧ Below W.heap.size W w') := by
            intro W
            have h2 : R2 = 0 := by rw [← HR2.out, List.drop_eq_nil_of_le (by rw [HM.out]; omega)]; rfl
            rw [h2]
            exact bitsCount_any (some ⟨b, 0, none⟩) 0 [] W BoolsAt.nil
          clear C2
          go_region_held3 (fun w' => True) (trivial) (first
            | (go_at_call 11; (with_reducible refine (C1.out w2.drew (HO2.out.drew)).mono ?_); rintro e w5 ⟨rfl, hb5⟩; have HB5 : Hid (Below w2.heap.size w2 w5) := below_drew_l hb5; have HO5 := Lib.hid (HO2.out.below HB5.out); clear hb5)
            | (go_at_call 11; (with_reducible refine (C3.out w5).mono ?_); rintro e w6 ⟨rfl, hb6⟩; have HB6 : Hid (Below w.heap.size w w6) := HB2.out.trans ((HB5.out.trans (hb6.mono HB5.out.size)).mono HB2.out.size); clear hb6))
          go_wp2
          go_ret
          exact ⟨rfl, HB6.out⟩
        · have C3 := C2 k (.inl rfl)
          clear C2
          go_region_held3 (fun w' => True) (trivial) (first
            | (go_at_call 11; (with_reducible refine (C1.out w2.drew (HO2.out.drew)).mono ?_); rintro e w5 ⟨rfl, hb5⟩; have HB5 : Hid (Below w2.heap.size w2 w5) := below_drew_l hb5; have HO5 := Lib.hid (HO2.out.below HB5.out); clear hb5)
            | (go_at_call 11; (with_reducible refine (C3.out w5 HO5.out (c - k)).mono ?_); rintro e w6 ⟨rfl, hb6⟩; have HB6 : Hid (Below w.heap.size w w6) := HB2.out.trans ((HB5.out.trans (hb6.mono HB5.out.size)).mono HB2.out.size); clear hb6))
          go_wp2
          go_ret
          exact ⟨rfl, HB6.out⟩
      · rw [countOr_no (by omega)]
        go_wp2
        go_ret
        exact ⟨rfl, HB2.out⟩
    · have hd0 : decide (1048576 < len) = false := by simp; omega
      have hd1 : decide (1048576 < len1) = true := by simp; omega
      go_enter Try.func6, Try.ntmps6
      go_wp2
      go_ret
      exact ⟨rfl, Below.refl _ _⟩
  · have hd0 : decide (1048576 < len) = true := by simp; omega
    go_enter Try.func6, Try.ntmps6
    go_wp2
    go_ret
    exact ⟨rfl, Below.refl _ _⟩

end Go.Proofs.Ytmgdngmcgokeeaa
