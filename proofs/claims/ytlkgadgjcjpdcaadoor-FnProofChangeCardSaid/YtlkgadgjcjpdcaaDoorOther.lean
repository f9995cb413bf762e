/- Contract of the laws' function other: another digest. Condition: its first argument is a digest. -/
import Derived.Test.YtlkgadgjcjpdcaaDoorDig
namespace Go.Proofs.YtlkgadgjcjpdcaaDoor
open Go.RowKit

def otherZ (d by_ : Int) : Int := (d + 1 + by_ % 990) % 991
set_option maxHeartbeats 400000 in
theorem other_any (d : Int) (m : Nat) (w : World) (h0 : 0 ≤ d) (h1 : d < 991) (hm : m ≤ maxLen) :
    Calls Tryd.prog 15 #[.int .i64 d, .int .i64 (m : Int)] w fun e w' => e = .returned (.int .i64 (otherZ d m)) ∧ w = w' := by
  unfold maxLen at hm
  go_enter Tryd.func15, Tryd.ntmps15
  go_wp2
  go_ret
  exact ⟨ret_int (by unfold otherZ; omega), rfl⟩

theorem otherZ_bd (d : Int) (m : Nat) : 0 ≤ otherZ d m ∧ otherZ d m < 991 := by unfold otherZ; omega
theorem otherZ_ne (d : Int) (m : Nat) : otherZ d m ≠ d := by unfold otherZ; omega

end Go.Proofs.YtlkgadgjcjpdcaaDoor
