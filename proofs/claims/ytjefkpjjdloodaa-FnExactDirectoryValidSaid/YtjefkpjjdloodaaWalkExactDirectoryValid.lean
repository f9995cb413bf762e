/- The walk of FnExactDirectoryValid: it returns true and changes nothing that was there. Condition: the arguments' cells lie in memory. -/
import Derived.Test.YtjefkpjjdloodaaExactLis
import Derived.Test.YtjefkpjjdloodaaDirLaws
import Derived.Test.YtjefkpjjdloodaaDir
namespace Go.Proofs.Ytjefkpjjdloodaa
open Go.RowKit
set_option linter.unusedVariables false

set_option maxHeartbeats 8000000 in
set_option maxRecDepth 100000 in
theorem walkExactDirectoryValid (A : Option Addr) (cap : Nat) (xs : List LD) (w : World) (hI : RowAt LK w w.heap.size A xs) (hm : xs.length ≤ maxLen) :
    Calls Try.prog 3 #[.slice A xs.length cap] w fun e w' => e = .returned (.bool true) ∧ Below w.heap.size w w' := by
  unfold maxLen at hm
  have HI := Lib.hid hI
  clear hI
  obtain ⟨n, HN⟩ : ∃ n, Hid (xs.length = n) := ⟨_, rfl⟩
  rw [HN.out] at hm ⊢
  by_cases hlen : n ≤ 1048576
  · have HL : Hid (xs.length ≤ 1048576) := by show _ ≤ _; rw [HN.out]; exact hlen
    have HLM : Hid (xs.length ≤ maxLen) := by show _ ≤ _; rw [HN.out]; unfold maxLen; omega
    have TOAS : Hid (∀ U, RowAt LK U U.heap.size A xs → Calls Try.prog 9 #[.slice A n cap] U fun e w' => ∃ g, e = .returned (.slice (some ⟨g, 0, none⟩) n n) ∧ OwnRow LK w' U.heap.size (some ⟨g, 0, none⟩) n xs ∧ Below U.heap.size U w') := fun U h => by
      have h := toLs_ret A cap xs U h HL.out
      rw [HN.out] at h
      exact h
    obtain ⟨ov, HV⟩ : ∃ v, Hid (dirB xs = v) := ⟨_, rfl⟩
    have SPEC : Hid (∀ (A : Option Addr) (cap : Nat) (U : World), LisAt U U.heap.size A cap xs → Calls Try.prog 8 #[.slice A n cap] U (fun e w' => e = .returned (.bool ov) ∧ Below U.heap.size U w')) := fun A cap U h => by
      have h := sdirValidB_any A cap xs U h HN.out
      rw [HV.out] at h
      exact h
    have IMPL : Hid (∀ (A : Option Addr) (cap : Nat) (U : World), LisAt U U.heap.size A cap xs → Calls Try.prog 10 #[.slice A n cap] U (fun e w' => e = .returned (.bool ov) ∧ Below U.heap.size U w')) := fun A cap U h => by
      have h := dirValid_any A cap xs U h HN.out
      rw [HV.out] at h
      exact h
    have HB0 : Hid (Below w.heap.size w w) := Below.refl _ w
    have HI0 := Lib.hid (HI.out.belowS HB0.out)
    go_enter Try.func3, Try.ntmps3
    go_wp2_with fail
    refine (szL_fit A n cap w hlen).mono ?_
    rintro e w' ⟨rfl, rfl⟩
    have hs0 : ¬ (1048576 - (n : Int)) < 0 := by omega
    go_wp2_with fail
    refine (TOAS.out _ HI0.out).mono ?_
    rintro e w1 ⟨g1, rfl, ho1, hb1⟩
    have X1 := Lib.hid ho1
    have hg1 : w.heap.size ≤ g1 ∧ g1 < w1.heap.size := ho1.lies _ rfl
    clear ho1
    have HI1 := Lib.hid (HI0.out.belowS hb1)
    have HB1 : Hid (Below w.heap.size w w1) := HB0.out.trans (hb1.mono HB0.out.size)
    have hz1 : w.heap.size ≤ w1.heap.size := hb1.size
    clear hb1
    have hz2e := hz1
    go_wp2_with fail
    refine (SPEC.out _ _ _ (own_lis X1.out)).mono ?_
    rintro e w3 ⟨rfl, hb3⟩
    have HI3 := Lib.hid (HI1.out.belowS hb3)
    have X3 := Lib.hid (X1.out.below hb3)
    have HB3 : Hid (Below w.heap.size w w3) := HB1.out.trans (hb3.mono HB1.out.size)
    have hz3 : w1.heap.size ≤ w3.heap.size := hb3.size
    clear hb3
    go_wp2_with fail
    refine (TOAS.out _ HI3.out).mono ?_
    rintro e w4 ⟨g4, rfl, ho4, hb4⟩
    have X4 := Lib.hid ho4
    have hg4 : w3.heap.size ≤ g4 ∧ g4 < w4.heap.size := ho4.lies _ rfl
    clear ho4
    have HI4 := Lib.hid (HI3.out.belowS hb4)
    have HB4 : Hid (Below w.heap.size w w4) := HB3.out.trans (hb4.mono HB3.out.size)
    have hz4 : w3.heap.size ≤ w4.heap.size := hb4.size
    clear hb4
    go_wp2_with fail
    refine (IMPL.out _ _ _ (own_lis X4.out)).mono ?_
    rintro e w6 ⟨rfl, hb6⟩
    have HI6 := Lib.hid (HI4.out.belowS hb6)
    have X6 := Lib.hid (X4.out.below hb6)
    have HB6 : Hid (Below w.heap.size w w6) := HB4.out.trans (hb6.mono HB4.out.size)
    have hz6 : w4.heap.size ≤ w6.heap.size := hb6.size
    clear hb6
    have hve : (ov != ov) = false := by simp
    go_wp2_with fail
    refine (TOAS.out _ HI6.out).mono ?_
    rintro e w8 ⟨g8, rfl, ho8, hb8⟩
    have T8 := Lib.hid ho8
    have hg8 : w6.heap.size ≤ g8 ∧ g8 < w8.heap.size := ho8.lies _ rfl
    clear ho8
    have HI8 := Lib.hid (HI6.out.belowS hb8)
    have X8 := Lib.hid (X6.out.below hb8)
    have HB8 : Hid (Below w.heap.size w w8) := HB6.out.trans (hb8.mono HB6.out.size)
    have hz8 : w6.heap.size ≤ w8.heap.size := hb8.size
    clear hb8
    go_wp2_with fail
    refine (eqLs_any _ n _ n xs w8 X8.out.at_ T8.out.at_ HLM.out HN.out).mono ?_
    rintro e w9 ⟨rfl, hb9⟩
    have HI9 := Lib.hid (HI8.out.belowS hb9)
    have X9 := Lib.hid (X8.out.below hb9)
    have T9 := Lib.hid (T8.out.below hb9)
    have HB9 : Hid (Below w.heap.size w w9) := HB8.out.trans (hb9.mono HB8.out.size)
    have hz9 : w8.heap.size ≤ w9.heap.size := hb9.size
    clear hb9
    go_wp2
    go_ret
    exact ⟨rfl, HB9.out⟩
  · have h9 : 1048576 < n := by omega
    clear hlen
    have HB0 : Hid (Below w.heap.size w w) := Below.refl _ _
    go_enter Try.func3, Try.ntmps3
    go_wp2_with fail
    refine (szL_over A n cap _ h9 (by unfold maxLen; omega)).mono ?_
    rintro e w' ⟨rfl, rfl⟩
    go_wp2
    go_ret
    exact ⟨rfl, HB0.out⟩

end Go.Proofs.Ytjefkpjjdloodaa
