/- Contract of DrawTreeProof: it draws at most 28 integers from -1 to 991, and a number. Condition: the code's bytes lie in memory. -/
import Derived.Test.YtlkgadgjcjpdcaaDoorDrawLeaves
namespace Go.Proofs.YtlkgadgjcjpdcaaDoor
open Go.RowKit
set_option linter.unusedVariables false

/-- What a draw of leaves and a number hands back. -/
def ListNumDrawn (w : World) (e : Ending) (w' : World) : Prop :=
  ∃ b c zs m, e = .returned (.tuple #[.slice (some ⟨b, 0, none⟩) (List.length zs) c, .int .i64 m]) ∧ zs.length ≤ 28 ∧ Near zs ∧ -100 ≤ m ∧ m ≤ 100 ∧ OwnInts w' w.heap.size (some ⟨b, 0, none⟩) c zs ∧ Below w.heap.size w w'

set_option maxHeartbeats 2000000 in
theorem drawproof_any (A : Option Addr) (len cap : Nat) (w : World) (hI : In w A len cap) :
    Calls Tryd.prog 8 #[.slice A len cap] w (ListNumDrawn w) := by
  have HI := Lib.hid hI
  clear hI
  go_enter Tryd.func8, Tryd.ntmps8
  go_wp2_with fail
  refine (open_any A len cap _ HI.out).mono ?_
  rintro e w1 ⟨len', cap', rfl, hR1, hb1⟩
  have HR1 := Lib.hid hR1
  have HB1 := Lib.hid hb1
  clear hR1 hb1
  go_wp2_with fail
  refine (leavesdraw_any HR1.out (by omega)).mono ?_
  rintro e w2 ⟨X, c, zs, p', rfl, hl, hp', hD⟩
  obtain ⟨b, hX⟩ := hD.some_
  subst hX
  have HD := Lib.hid hD
  clear hD
  obtain ⟨n, HN⟩ : ∃ n, Hid (zs.length = n) := ⟨_, rfl⟩
  rw [HN.out] at hl ⊢
  by_cases hn1 : (n : Int) < 1
  · go_wp2_with fail
    refine (pick_any 1 HD.out.rd (by omega) (by omega) (by omega)).mono ?_
    rintro e w3 ⟨x, hx, rfl, hR3, hg3, hz3⟩
    have HD3 := Lib.hid (HD.out.pick hR3 hg3)
    clear hR3 hg3 hz3
    go_wp2_with fail
    refine (pick_any 14 HD3.out.rd (by omega) (by omega) (by omega)).mono ?_
    rintro e w4 ⟨y, hy, rfl, hR4, hg4, hz4⟩
    have HD4 := Lib.hid (HD3.out.pick hR4 hg4)
    clear hR4 hg4 hz4
    go_wp2_with fail
    refine (pick_any 5 HD4.out.rd (by omega) (by omega) (by omega)).mono ?_
    rintro e w5 ⟨z, hz, rfl, hR5, hg5, hz5⟩
    have HD5 := Lib.hid (HD4.out.pick hR5 hg5)
    clear hR5 hg5 hz5
    by_cases hy13 : y < 13
    · rw [show (y : Int) / 13 = 0 from by omega]
      go_wp2
      go_ret2
      exact ⟨b, c, zs, _, by rw [HN.out]; rfl, by rw [HN.out]; exact hl, HD5.out.near, by omega, by omega, HD5.out.own.base_le HB1.out.size, HB1.out.trans HD5.out.below⟩
    · rw [show (y : Int) / 13 = 1 from by omega]
      go_wp2
      go_ret2
      exact ⟨b, c, zs, _, by rw [HN.out]; rfl, by rw [HN.out]; exact hl, HD5.out.near, by omega, by omega, HD5.out.own.base_le HB1.out.size, HB1.out.trans HD5.out.below⟩
  · have hn2 : 1 ≤ n := by omega
    go_wp2_with fail
    refine (pick_any (n : Int) HD.out.rd (by omega) (by omega) (by omega)).mono ?_
    rintro e w3 ⟨x, hx, rfl, hR3, hg3, hz3⟩
    have HD3 := Lib.hid (HD.out.pick hR3 hg3)
    clear hR3 hg3 hz3
    go_wp2_with fail
    refine (pick_any 14 HD3.out.rd (by omega) (by omega) (by omega)).mono ?_
    rintro e w4 ⟨y, hy, rfl, hR4, hg4, hz4⟩
    have HD4 := Lib.hid (HD3.out.pick hR4 hg4)
    clear hR4 hg4 hz4
    go_wp2_with fail
    refine (pick_any 5 HD4.out.rd (by omega) (by omega) (by omega)).mono ?_
    rintro e w5 ⟨z, hz, rfl, hR5, hg5, hz5⟩
    have HD5 := Lib.hid (HD4.out.pick hR5 hg5)
    clear hR5 hg5 hz5
    by_cases hy13 : y < 13
    · rw [show (y : Int) / 13 = 0 from by omega]
      go_wp2
      go_ret2
      exact ⟨b, c, zs, _, by rw [HN.out]; rfl, by rw [HN.out]; exact hl, HD5.out.near, by omega, by omega, HD5.out.own.base_le HB1.out.size, HB1.out.trans HD5.out.below⟩
    · rw [show (y : Int) / 13 = 1 from by omega]
      go_wp2
      go_ret2
      exact ⟨b, c, zs, _, by rw [HN.out]; rfl, by rw [HN.out]; exact hl, HD5.out.near, by omega, by omega, HD5.out.own.base_le HB1.out.size, HB1.out.trans HD5.out.below⟩

end Go.Proofs.YtlkgadgjcjpdcaaDoor
