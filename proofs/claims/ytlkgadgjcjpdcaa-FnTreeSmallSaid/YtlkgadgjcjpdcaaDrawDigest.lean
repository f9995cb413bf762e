/- Contract of DrawTreeDigest: it draws at most 28 integers from -1 to 991. Condition: the code's bytes lie in memory. -/
import Derived.Test.YtlkgadgjcjpdcaaDrawLeaves
namespace Go.Proofs.Ytlkgadgjcjpdcaa
open Go.RowKit
set_option linter.unusedVariables false

set_option maxHeartbeats 1000000 in
theorem drawdigest_any (A : Option Addr) (len cap : Nat) (w : World) (hI : In w A len cap) :
    Calls Try.prog 5 #[.slice A len cap] w (ListDrawn w) := by
  have HI := Lib.hid hI
  clear hI
  go_enter Try.func5, Try.ntmps5
  go_wp2_with fail
  refine (open_any A len cap _ HI.out).mono ?_
  rintro e w1 ⟨len', cap', rfl, hR1, hb1⟩
  have HR1 := Lib.hid hR1
  have HB1 := Lib.hid hb1
  clear hR1 hb1
  go_wp2_with fail
  refine (leavesdraw_any HR1.out (by omega)).mono ?_
  rintro e w2 ⟨X, c, zs, p', rfl, hl, hp', hD⟩
  obtain ⟨b, hX⟩ := hD.some_
  subst hX
  have HD := Lib.hid hD
  clear hD
  go_wp2
  go_ret
  exact ⟨b, c, zs, rfl, hl, HD.out.near, HD.out.own.base_le HB1.out.size, HB1.out.trans HD.out.below⟩

end Go.Proofs.Ytlkgadgjcjpdcaa
