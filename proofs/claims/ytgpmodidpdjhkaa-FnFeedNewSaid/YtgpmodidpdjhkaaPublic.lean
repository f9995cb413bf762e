/- Contracts of keys: valid, times, HeadPublic and their models; what is signed. Conditions: as each contract says. -/
import Derived.Test.YtgpmodidpdjhkaaKeys
namespace Go.Proofs.Ytgpmodidpdjhkaa
open Go.RowKit
set_option linter.unusedVariables false

set_option maxHeartbeats 400000 in
theorem key_yes (a : Int) (w : World) (h0 : 1 ≤ a) (h1 : a < 997) :
    Calls Try.prog 36 #[.int .i64 a] w fun e w' => e = .returned (.bool true) ∧ w = w' := by
  go_enter Try.func36, Try.ntmps36
  go_wp2
  go_ret
  exact ⟨rfl, rfl⟩

set_option maxHeartbeats 400000 in
theorem key_no (a : Int) (w : World) (h : ¬ (1 ≤ a ∧ a < 997)) :
    Calls Try.prog 36 #[.int .i64 a] w fun e w' => e = .returned (.bool false) ∧ w = w' := by
  by_cases h0 : 1 ≤ a
  · have h1 : ¬ a < 997 := by omega
    clear h
    go_enter Try.func36, Try.ntmps36
    go_wp2
    go_ret
    exact ⟨rfl, rfl⟩
  · clear h
    go_enter Try.func36, Try.ntmps36
    go_wp2
    go_ret
    exact ⟨rfl, rfl⟩

theorem mul_bd (a b : Int) (h0 : 0 ≤ a) (h1 : a < 997) (h2 : 0 ≤ b) (h3 : b < 997) : 0 ≤ a * b ∧ a * b ≤ 1000000 := by
  refine ⟨Int.mul_nonneg h0 h2, ?_⟩
  have := Int.mul_le_mul (show a ≤ 1000 by omega) (show b ≤ 1000 by omega) h2 (by omega)
  omega

set_option maxHeartbeats 400000 in
theorem times_any (a b : Int) (w : World) (h0 : 0 ≤ a) (h1 : a < 997) (h2 : 0 ≤ b) (h3 : b < 997) :
    Calls Try.prog 83 #[.int .i64 a, .int .i64 b] w fun e w' => e = .returned (.int .i64 (a * b % 997)) ∧ w = w' := by
  obtain ⟨m0, m1⟩ := mul_bd a b h0 h1 h2 h3
  go_enter Try.func83, Try.ntmps83
  go_wp2
  go_ret
  exact ⟨rfl, rfl⟩

set_option maxHeartbeats 400000 in
theorem skey_yes (a : Int) (w : World) (h0 : 1 ≤ a) (h1 : a < 997) :
    Calls Try.prog 37 #[.int .i64 a] w fun e w' => e = .returned (.bool true) ∧ w = w' := by
  go_enter Try.func37, Try.ntmps37
  go_wp2_with fail
  refine (in_yes _ _ _ _ (by omega) (by omega)).mono ?_
  rintro e w' ⟨rfl, rfl⟩
  go_wp2
  go_ret
  exact ⟨rfl, rfl⟩

set_option maxHeartbeats 400000 in
theorem skey_no (a : Int) (w : World) (h : ¬ (1 ≤ a ∧ a < 997)) :
    Calls Try.prog 37 #[.int .i64 a] w fun e w' => e = .returned (.bool false) ∧ w = w' := by
  go_enter Try.func37, Try.ntmps37
  go_wp2_with fail
  refine (in_no _ _ _ _ (by omega)).mono ?_
  rintro e w' ⟨rfl, rfl⟩
  go_wp2
  go_ret
  exact ⟨rfl, rfl⟩

set_option maxHeartbeats 400000 in
theorem smsg_any (n d : Int) (w : World) (h0 : 0 ≤ n) (h1 : n ≤ 16) (h2 : 0 ≤ d) (h3 : d < 991) :
    Calls Try.prog 92 #[.int .i64 n, .int .i64 d] w fun e w' => e = .returned (.int .i64 (msgZ n d)) ∧ w = w' := by
  obtain ⟨b0, b1⟩ := pairZ_bd n d
  go_enter Try.func92, Try.ntmps92
  go_wp2_with fail
  refine (spair1_any _ _ _ (by omega) (by omega) (by omega) (by omega)).mono ?_
  rintro e w' ⟨rfl, rfl⟩
  go_wp2
  go_ret
  exact ⟨rfl, rfl⟩



set_option maxHeartbeats 400000 in
theorem spublic_any (a : Int) (w : World) :
    Calls Try.prog 89 #[.int .i64 a] w fun e w' => e = .returned (.int .i64 (publicOr a)) ∧ w = w' := by
  by_cases ha : 1 ≤ a ∧ a < 997
  · have HE := Lib.hid (publicOr_y ha)
    obtain ⟨h0, h1⟩ := ha
    go_enter Try.func89, Try.ntmps89
    go_wp2_with fail
    refine (skey_yes _ _ h0 h1).mono ?_
    rintro e w' ⟨rfl, rfl⟩
    go_wp2
    go_ret
    exact ⟨ret_int HE.out.symm, rfl⟩
  · have HE := Lib.hid (publicOr_n ha)
    have HA := Lib.hid ha
    clear ha
    go_enter Try.func89, Try.ntmps89
    go_wp2_with fail
    refine (skey_no _ _ HA.out).mono ?_
    rintro e w' ⟨rfl, rfl⟩
    go_wp2
    go_ret
    exact ⟨ret_int HE.out.symm, rfl⟩

end Go.Proofs.Ytgpmodidpdjhkaa
