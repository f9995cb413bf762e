/- Contracts of chapter 1 (digests) and of its models: what each function returns, and that it leaves the world as it was. Conditions: the arguments of the combining functions are digests. -/
import Derived.Test.YtmepbogfdpmfaaaRows
import Derived.WalkKit
import Derived.ProofKit
import Derived.OpenShut
import Derived.ShutString
import Derived.ChangeOld
import Derived.Below
import Derived.Lib.Hide
namespace Go.Proofs.Ytmepbogfdpmfaaa
open Go.RowKit

theorem ret_int {k : IntKind} {a b : Int} (h : a = b) : Ending.returned (.int k a) = .returned (.int k b) := by rw [h]
theorem ret_bool {a b : Bool} (h : a = b) : Ending.returned (.bool a) = .returned (.bool b) := by rw [h]

def validB (a : Int) : Bool := decide (0 ≤ a) && decide (a < 991)
def pairZ (a b : Int) : Int := (31 * a + 17 * b + 5) % 991
def byteZ (d b : Int) : Int := (d * 257 + b + 1) % 991
theorem validB_iff (a : Int) : validB a = true ↔ 0 ≤ a ∧ a < 991 := by simp [validB]
theorem validB_not (a : Int) : validB a = false ↔ ¬ (0 ≤ a ∧ a < 991) := by rw [← validB_iff]; simp

















theorem pairZ_bd (a b : Int) : 0 ≤ pairZ a b ∧ pairZ a b < 991 := by unfold pairZ; omega
theorem pairZ_left (a x b : Int) (h : 0 ≤ a ∧ a < 991) (k : 0 ≤ x ∧ x < 991) (e : pairZ x b = pairZ a b) : x = a := by unfold pairZ at e; omega
theorem pairZ_right (a b y : Int) (h : 0 ≤ b ∧ b < 991) (k : 0 ≤ y ∧ y < 991) (e : pairZ a y = pairZ a b) : y = b := by unfold pairZ at e; omega
theorem pairZ_swap (a b : Int) (h : 0 ≤ a ∧ a < 991) (k : 0 ≤ b ∧ b < 991) (e : pairZ b a = pairZ a b) : a = b := by unfold pairZ at e; omega

end Go.Proofs.Ytmepbogfdpmfaaa
