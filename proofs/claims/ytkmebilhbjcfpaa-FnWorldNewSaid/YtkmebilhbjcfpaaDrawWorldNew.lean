/- Contract of DrawWorldNew: three numbers; nothing that was there is changed. Condition: the code's bytes lie in memory. -/
import Derived.Test.YtkmebilhbjcfpaaBaseC
import Derived.Test.YtkmebilhbjcfpaaBaseA
namespace Go.Proofs.Ytkmebilhbjcfpaa
open Go.RowKit
set_option linter.unusedVariables false

set_option maxHeartbeats 2000000 in
theorem drawWorldNew_any (A : Option Addr) (len cap : Nat) (w : World) (hI : In w A len cap) :
    Calls Try.prog 5 #[.slice A len cap] w fun e w' => ∃ s n b : Int, e = .returned (.tuple #[.int .i64 s, .int .i64 n, .int .i64 b]) ∧ (-1 ≤ n ∧ n ≤ 7) ∧ (-1 ≤ b ∧ b ≤ 6) ∧ Below w.heap.size w w' := by
  have HI := Lib.hid hI
  clear hI
  go_enter Try.func5, Try.ntmps5
  go_wp2_with fail
  refine (open_any A len cap _ HI.out).mono ?_
  rintro e w1 ⟨len', cap', rfl, hR1, hb1⟩
  have HR1 := Lib.hid hR1
  have HB1 := Lib.hid hb1
  clear hR1 hb1
  go_wp2_with fail
  refine (drawsec_any HR1.out (by omega)).mono ?_
  rintro e w2 ⟨d, p', h1, h2, h3, rfl, hR2, hb2, hg2⟩
  have HR2 := Lib.hid hR2
  have HB2 : Hid (Below w.heap.size w w2) := HB1.out.trans hb2
  clear hR2 hb2 hg2
  go_wp2_with fail
  refine (pick_any 9 HR2.out (by omega) (by omega) (by omega)).mono ?_
  rintro e w3 ⟨x, hx, rfl, hR3, hg3, hz3⟩
  have HR3 := Lib.hid hR3
  have HB3 : Hid (Below w.heap.size w w3) := HB2.out.grown hg3 HB2.out.size (fun k hk => by injection hk with hk; have := HR2.out.big; omega)
  have hw1 : IntKind.i64.wrap ((x : Int) - 1) = (x : Int) - 1 := IntWalk.i64_in _ (by omega)
  clear hR3 hg3 hz3
  go_wp2_with fail
  refine (pick_any 8 HR3.out (by omega) (by omega) (by omega)).mono ?_
  rintro e w4 ⟨y, hy, rfl, hR4, hg4, hz4⟩
  have HB4 : Hid (Below w.heap.size w w4) := HB3.out.grown hg4 HB3.out.size (fun k hk => by injection hk with hk; have := HR3.out.big; omega)
  have hw2 : IntKind.i64.wrap ((y : Int) - 1) = (y : Int) - 1 := IntWalk.i64_in _ (by omega)
  clear hR4 hg4 hz4
  go_wp2
  exact bodyPost_ret (v := .tuple #[.int .i64 d, .int .i64 ((x : Int) - 1), .int .i64 ((y : Int) - 1)]) (by simp [results, Try.results5, go_sem]) rfl ⟨d, _, _, rfl, by omega, by omega, HB4.out⟩
end Go.Proofs.Ytkmebilhbjcfpaa
