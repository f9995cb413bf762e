/- Contract of DigestPair: it returns pairOr of its arguments, and leaves the world as it was. No conditions. -/
import Derived.Test.YtlkgadgjcjpdcaaDig
namespace Go.Proofs.Ytlkgadgjcjpdcaa
open Go.RowKit

def pairOr (a b : Int) : Int := if (0 ≤ a ∧ a < 991) ∧ (0 ≤ b ∧ b < 991) then pairZ a b else -1
theorem pairOr_a {a b : Int} (h : ¬ (0 ≤ a ∧ a < 991)) : pairOr a b = -1 := by unfold pairOr; rw [if_neg (fun k => h k.1)]
theorem pairOr_b {a b : Int} (h : ¬ (0 ≤ b ∧ b < 991)) : pairOr a b = -1 := by unfold pairOr; rw [if_neg (fun k => h k.2)]
theorem pairOr_y {a b : Int} (h : 0 ≤ a ∧ a < 991) (k : 0 ≤ b ∧ b < 991) : pairOr a b = pairZ a b := by unfold pairOr; rw [if_pos ⟨h, k⟩]

set_option maxHeartbeats 400000 in
theorem pair_any (a b : Int) (w : World) :
    Calls Try.prog 8 #[.int .i64 a, .int .i64 b] w fun e w' => e = .returned (.int .i64 (pairOr a b)) ∧ w = w' := by
  by_cases ha : 0 ≤ a ∧ a < 991
  · by_cases hb : 0 ≤ b ∧ b < 991
    · have HE := Lib.hid (pairOr_y ha hb)
      obtain ⟨h0, h1⟩ := ha
      obtain ⟨h2, h3⟩ := hb
      go_enter Try.func8, Try.ntmps8
      go_wp2_with fail
      refine (valid_yes _ _ (by omega) (by omega)).mono ?_
      rintro e w' ⟨rfl, rfl⟩
      go_wp2_with fail
      refine (valid_yes _ _ (by omega) (by omega)).mono ?_
      rintro e w' ⟨rfl, rfl⟩
      go_wp2_with fail
      refine (with_any _ _ _ (by omega) (by omega) (by omega) (by omega)).mono ?_
      rintro e w' ⟨rfl, rfl⟩
      go_wp2
      go_ret
      exact ⟨ret_int HE.out.symm, rfl⟩
    · have HE := Lib.hid (pairOr_b (a := a) hb)
      obtain ⟨h0, h1⟩ := ha
      have HB := Lib.hid hb
      clear hb
      go_enter Try.func8, Try.ntmps8
      go_wp2_with fail
      refine (valid_yes _ _ (by omega) (by omega)).mono ?_
      rintro e w' ⟨rfl, rfl⟩
      go_wp2_with fail
      refine (valid_no _ _ HB.out).mono ?_
      rintro e w' ⟨rfl, rfl⟩
      go_wp2
      go_ret
      exact ⟨ret_int HE.out.symm, rfl⟩
  · have HE := Lib.hid (pairOr_a (b := b) ha)
    have HA := Lib.hid ha
    clear ha
    go_enter Try.func8, Try.ntmps8
    go_wp2_with fail
    refine (valid_no _ _ HA.out).mono ?_
    rintro e w' ⟨rfl, rfl⟩
    go_wp2
    go_ret
    exact ⟨ret_int HE.out.symm, rfl⟩

end Go.Proofs.Ytlkgadgjcjpdcaa
