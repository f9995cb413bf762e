/- Contracts of chapter 1 (digests) and of its models: what each function returns, and that it leaves the world as it was. Conditions: the arguments of the combining functions are digests. -/
import Derived.Test.YtgpmodidpdjhkaaRows
import Derived.WalkKit
import Derived.ProofKit
import Derived.OpenShut
import Derived.ShutString
import Derived.ChangeOld
import Derived.Below
import Derived.Lib.Hide
namespace Go.Proofs.Ytgpmodidpdjhkaa
open Go.RowKit

theorem ret_int {k : IntKind} {a b : Int} (h : a = b) : Ending.returned (.int k a) = .returned (.int k b) := by rw [h]
theorem ret_bool {a b : Bool} (h : a = b) : Ending.returned (.bool a) = .returned (.bool b) := by rw [h]

def validB (a : Int) : Bool := decide (0 ≤ a) && decide (a < 991)
def pairZ (a b : Int) : Int := (31 * a + 17 * b + 5) % 991
def byteZ (d b : Int) : Int := (d * 257 + b + 1) % 991
theorem validB_iff (a : Int) : validB a = true ↔ 0 ≤ a ∧ a < 991 := by simp [validB]
theorem validB_not (a : Int) : validB a = false ↔ ¬ (0 ≤ a ∧ a < 991) := by rw [← validB_iff]; simp

set_option maxHeartbeats 400000 in
theorem valid_yes (a : Int) (w : World) (h0 : 0 ≤ a) (h1 : a < 991) :
    Calls Try.prog 108 #[.int .i64 a] w fun e w' => e = .returned (.bool true) ∧ w = w' := by
  go_enter Try.func108, Try.ntmps108
  go_wp2
  go_ret
  exact ⟨rfl, rfl⟩

set_option maxHeartbeats 400000 in
theorem valid_no (a : Int) (w : World) (h : ¬ (0 ≤ a ∧ a < 991)) :
    Calls Try.prog 108 #[.int .i64 a] w fun e w' => e = .returned (.bool false) ∧ w = w' := by
  by_cases h0 : 0 ≤ a
  · have h1 : ¬ a < 991 := by omega
    clear h
    go_enter Try.func108, Try.ntmps108
    go_wp2
    go_ret
    exact ⟨rfl, rfl⟩
  · clear h
    go_enter Try.func108, Try.ntmps108
    go_wp2
    go_ret
    exact ⟨rfl, rfl⟩

set_option maxHeartbeats 400000 in
theorem in_yes (a lo hi : Int) (w : World) (h0 : lo ≤ a) (h1 : a ≤ hi) :
    Calls Try.prog 62 #[.int .i64 a, .int .i64 lo, .int .i64 hi] w fun e w' => e = .returned (.bool true) ∧ w = w' := by
  go_enter Try.func62, Try.ntmps62
  go_wp2
  go_ret
  exact ⟨rfl, rfl⟩

set_option maxHeartbeats 400000 in
theorem in_no (a lo hi : Int) (w : World) (h : ¬ (lo ≤ a ∧ a ≤ hi)) :
    Calls Try.prog 62 #[.int .i64 a, .int .i64 lo, .int .i64 hi] w fun e w' => e = .returned (.bool false) ∧ w = w' := by
  by_cases h0 : lo ≤ a
  · have h1 : ¬ a ≤ hi := by omega
    clear h
    go_enter Try.func62, Try.ntmps62
    go_wp2
    go_ret
    exact ⟨rfl, rfl⟩
  · clear h
    go_enter Try.func62, Try.ntmps62
    go_wp2
    go_ret
    exact ⟨rfl, rfl⟩

set_option maxHeartbeats 400000 in
theorem sdig_yes (a : Int) (w : World) (h0 : 0 ≤ a) (h1 : a < 991) :
    Calls Try.prog 91 #[.int .i64 a] w fun e w' => e = .returned (.bool true) ∧ w = w' := by
  go_enter Try.func91, Try.ntmps91
  go_wp2_with fail
  refine (in_yes _ _ _ _ (by omega) (by omega)).mono ?_
  rintro e w' ⟨rfl, rfl⟩
  go_wp2
  go_ret
  exact ⟨rfl, rfl⟩

set_option maxHeartbeats 400000 in
theorem sdig_no (a : Int) (w : World) (h : ¬ (0 ≤ a ∧ a < 991)) :
    Calls Try.prog 91 #[.int .i64 a] w fun e w' => e = .returned (.bool false) ∧ w = w' := by
  go_enter Try.func91, Try.ntmps91
  go_wp2_with fail
  refine (in_no _ _ _ _ (by omega)).mono ?_
  rintro e w' ⟨rfl, rfl⟩
  go_wp2
  go_ret
  exact ⟨rfl, rfl⟩

set_option maxHeartbeats 400000 in
theorem with_any (a b : Int) (w : World) (h0 : 0 ≤ a) (h1 : a < 991) (h2 : 0 ≤ b) (h3 : b < 991) :
    Calls Try.prog 99 #[.int .i64 a, .int .i64 b] w fun e w' => e = .returned (.int .i64 (pairZ a b)) ∧ w = w' := by
  go_enter Try.func99, Try.ntmps99
  go_wp2
  go_ret
  exact ⟨ret_int (by unfold pairZ; omega), rfl⟩

set_option maxHeartbeats 400000 in
theorem spair1_any (a b : Int) (w : World) (h0 : 0 ≤ a) (h1 : a < 991) (h2 : 0 ≤ b) (h3 : b < 991) :
    Calls Try.prog 115 #[.int .i64 a, .int .i64 b] w fun e w' => e = .returned (.int .i64 (pairZ a b)) ∧ w = w' := by
  go_enter Try.func115, Try.ntmps115
  go_wp2
  go_ret
  exact ⟨ret_int (by unfold pairZ; omega), rfl⟩

theorem pairZ_bd (a b : Int) : 0 ≤ pairZ a b ∧ pairZ a b < 991 := by unfold pairZ; omega
theorem pairZ_left (a x b : Int) (h : 0 ≤ a ∧ a < 991) (k : 0 ≤ x ∧ x < 991) (e : pairZ x b = pairZ a b) : x = a := by unfold pairZ at e; omega
theorem pairZ_right (a b y : Int) (h : 0 ≤ b ∧ b < 991) (k : 0 ≤ y ∧ y < 991) (e : pairZ a y = pairZ a b) : y = b := by unfold pairZ at e; omega
theorem pairZ_swap (a b : Int) (h : 0 ≤ a ∧ a < 991) (k : 0 ≤ b ∧ b < 991) (e : pairZ b a = pairZ a b) : a = b := by unfold pairZ at e; omega

end Go.Proofs.Ytgpmodidpdjhkaa
