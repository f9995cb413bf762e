/- The walk of FnExactTreeCheck: it returns true and changes nothing that was there. Conditions: the argument's cells lie in memory; the table of math/bits holds what its text lays. -/
import Derived.Test.YtlkgadgjcjpdcaaDoorSpecCheck2
import Derived.Test.YtlkgadgjcjpdcaaDoorExactInts
namespace Go.Proofs.YtlkgadgjcjpdcaaDoor
open Go.RowKit
set_option linter.unusedVariables false

theorem int_of_wf {n : Int} (h : (Lit.int .i64 n).wf = true) : -9223372036854775808 ≤ n ∧ n ≤ 9223372036854775807 := by
  simp [Lit.wf, IntKind.min, IntKind.max, IntKind.bits, IntKind.signed] at h
  omega
theorem dec_self (l : List Int) : decide (l = l) = true := by simp

set_option maxHeartbeats 4000000 in
set_option maxRecDepth 100000 in
theorem walkExactCheck (digest n i leaf : Int) (A : Option Addr) (cap : Nat) (zs : List Int) (w : World) (hT : Tab w) (hI : IntsAt w w.heap.size A zs) (hm : zs.length ≤ maxLen) (hn0 : n ≤ 9223372036854775807) (hn1 : -9223372036854775808 ≤ n) :
    Calls Tryd.prog 7 #[.int .i64 digest, .int .i64 n, .int .i64 i, .int .i64 leaf, .slice A zs.length cap] w fun e w' => e = .returned (.bool true) ∧ Below w.heap.size w w' := by
  unfold maxLen at hm
  have HI := Lib.hid hI
  have HT := Lib.hid hT
  have HN0 := Lib.hid hn0
  have HN1 := Lib.hid hn1
  clear hI hT hn0 hn1
  by_cases hlen : zs.length ≤ 1048576
  · have HL := Lib.hid hlen
    have HLM : Hid (zs.length ≤ maxLen) := by show _ ≤ _; unfold maxLen; omega
    obtain ⟨R, HR⟩ : ∃ R, Hid (treeOkB digest n i leaf zs = R) := ⟨_, rfl⟩
    have hne : (R != R) = false := by simp
    go_enter Tryd.func7, Tryd.ntmps7
    go_wp2_with fail
    refine (toInts_any A cap zs _ HI.out HL.out).mono ?_
    rintro e w1 ⟨rfl, hown1, hb1⟩
    have HO1 := Lib.hid hown1
    have HB1 := Lib.hid hb1
    clear hown1 hb1
    go_wp2_with fail
    refine (stcheck_any digest n i leaf zs (some ⟨w.heap.size, 0, none⟩) zs.length _ HO1.out.ints HLM.out HN0.out HN1.out).mono ?_
    rintro e w' ⟨rfl, rfl⟩
    rw [HR.out]
    go_wp2_with fail
    refine (toInts_any A cap zs _ (HI.out.belowS HB1.out) HL.out).mono ?_
    rintro e w3 ⟨rfl, hown3, hb3⟩
    have HO3 := Lib.hid hown3
    have HB3 : Hid (Below w.heap.size w w3) := HB1.out.trans (hb3.mono HB1.out.size)
    clear hown3 hb3
    go_wp2_with fail
    refine (tcheck_any digest n i leaf zs (some ⟨w1.heap.size, 0, none⟩) zs.length _ (HT.out.below HB3.out) HO3.out.ints (.inr ⟨_, _, rfl⟩) (Nat.le_refl _) HLM.out).mono ?_
    rintro e w4 ⟨rfl, hb4⟩
    rw [HR.out]
    have HO34 := Lib.hid (HO3.out.below hb4)
    have HB4 : Hid (Below w.heap.size w w4) := HB3.out.trans (hb4.mono HB3.out.size)
    clear hb4
    go_wp2_with fail
    refine (toInts_any A cap zs _ (HI.out.belowS HB4.out) HL.out).mono ?_
    rintro e w5 ⟨rfl, hown5, hb5⟩
    have HO5 := Lib.hid hown5
    have HO35 := Lib.hid (HO34.out.below hb5)
    have HB5 : Hid (Below w.heap.size w w5) := HB4.out.trans (hb5.mono HB4.out.size)
    clear hown5 hb5
    go_wp2_with fail
    refine (eqi_any _ zs.length zs _ zs.length zs _ HO35.out.ints HO5.out.ints HLM.out HLM.out).mono ?_
    rintro e w' ⟨rfl, q2, rfl⟩
    rw [dec_self]
    go_wp2
    go_ret
    exact ⟨rfl, below_drewN HB5.out q2⟩
  · have h9 : 1048576 < zs.length := by omega
    clear hlen
    go_enter Tryd.func7, Tryd.ntmps7
    go_wp2
    go_ret
    exact ⟨rfl, Below.refl _ _⟩

end Go.Proofs.YtlkgadgjcjpdcaaDoor
