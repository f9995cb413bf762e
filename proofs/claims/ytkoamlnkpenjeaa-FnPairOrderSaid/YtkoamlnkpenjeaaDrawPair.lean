/- Contract of DrawDigestPair: two integers from -1 to 991; nothing that was there is changed. Condition: the code's bytes lie in memory. -/
import Derived.Test.YtkoamlnkpenjeaaDrawDig
import Derived.Test.YtkoamlnkpenjeaaPairs
namespace Go.Proofs.Ytkoamlnkpenjeaa
open Go.RowKit

def PairDrawn (w : World) (e : Ending) (w' : World) : Prop :=
  ∃ a b : Int, -1 ≤ a ∧ a ≤ 991 ∧ -1 ≤ b ∧ b ≤ 991 ∧ e = .returned (.tuple #[.int .i64 a, .int .i64 b]) ∧ Below w.heap.size w w'

set_option maxHeartbeats 1000000 in
theorem drawpair_any (A : Option Addr) (len cap : Nat) (w : World) (hI : In w A len cap) :
    Calls Try.prog 13 #[.slice A len cap] w (PairDrawn w) := by
  have HI := Lib.hid hI
  clear hI
  go_enter Try.func13, Try.ntmps13
  go_wp2_with fail
  refine (open_any A len cap _ HI.out).mono ?_
  rintro e w1 ⟨len', cap', rfl, hR1, hb1⟩
  have HR1 := Lib.hid hR1
  have HB1 := Lib.hid hb1
  clear hR1 hb1
  go_wp2_with fail
  refine (drawdig_any HR1.out (by omega)).mono ?_
  rintro e w2 ⟨a, p2, ha1, ha2, hp2, rfl, hR2, hb2⟩
  have HR2 := Lib.hid hR2
  have HB2 := Lib.hid hb2
  clear hR2 hb2
  go_wp2_with fail
  refine (drawdig_any HR2.out (by omega)).mono ?_
  rintro e w3 ⟨b, p3, hb1, hb2, hp3, rfl, hR3, hb3⟩
  have HB3 := Lib.hid hb3
  clear hR3 hb3
  go_wp2
  go_ret2
  exact ⟨a, b, ha1, ha2, hb1, hb2, rfl, (HB1.out.trans HB2.out).trans HB3.out⟩

def otherZ (d by_ : Int) : Int := (d + 1 + by_ % 990) % 991
set_option maxHeartbeats 400000 in
theorem other_any (d : Int) (m : Nat) (w : World) (h0 : 0 ≤ d) (h1 : d < 991) (hm : m ≤ maxLen) :
    Calls Try.prog 16 #[.int .i64 d, .int .i64 (m : Int)] w fun e w' => e = .returned (.int .i64 (otherZ d m)) ∧ w = w' := by
  unfold maxLen at hm
  go_enter Try.func16, Try.ntmps16
  go_wp2
  go_ret
  exact ⟨ret_int (by unfold otherZ; omega), rfl⟩

theorem otherZ_bd (d : Int) (m : Nat) : 0 ≤ otherZ d m ∧ otherZ d m < 991 := by unfold otherZ; omega
theorem otherZ_ne (d : Int) (m : Nat) : otherZ d m ≠ d := by unfold otherZ; omega
theorem pairZ_bd (a b : Int) : 0 ≤ pairZ a b ∧ pairZ a b < 991 := by unfold pairZ; omega
theorem pairZ_left (a x b : Int) (h : 0 ≤ a ∧ a < 991) (k : 0 ≤ x ∧ x < 991) (e : pairZ x b = pairZ a b) : x = a := by unfold pairZ at e; omega
theorem pairZ_right (a b y : Int) (h : 0 ≤ b ∧ b < 991) (k : 0 ≤ y ∧ y < 991) (e : pairZ a y = pairZ a b) : y = b := by unfold pairZ at e; omega
theorem pairZ_swap (a b : Int) (h : 0 ≤ a ∧ a < 991) (k : 0 ≤ b ∧ b < 991) (e : pairZ b a = pairZ a b) : a = b := by unfold pairZ at e; omega

end Go.Proofs.Ytkoamlnkpenjeaa
