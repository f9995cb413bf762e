/- The walk of FnGrowthOther: it returns true and changes nothing that was there. Condition: the codes' bytes lie in memory. -/
import Derived.Test.YtajiciapiopjcaaSpecCheck
import Derived.Test.YtajiciapiopjcaaDrawGrowthCheck
import Derived.Test.YtajiciapiopjcaaOther
import Derived.Test.YtajiciapiopjcaaIn
namespace Go.Proofs.Ytajiciapiopjcaa
open Go.RowKit
set_option linter.unusedVariables false

set_option maxHeartbeats 4000000 in
set_option maxRecDepth 100000 in
theorem walkGrowthOther (A : Option Addr) (len cap : Nat) (A1 : Option Addr) (len1 cap1 : Nat) (w : World) (hI : In w A len cap) (hI1 : In w A1 len1 cap1) :
    Calls Try.prog 5 #[.slice A len cap, .slice A1 len1 cap1] w fun e w' => e = .returned (.bool true) ∧ Below w.heap.size w w' := by
  have hm := hI.len_le
  have hm1 := hI1.len_le
  have HM1 := Lib.hid hm1
  unfold maxLen at hm hm1
  have HI := Lib.hid hI
  clear hI hI1
  by_cases hlen : len ≤ 1048576
  · by_cases hlen1 : len1 ≤ 1048576
    · go_enter Try.func5, Try.ntmps5
      go_wp2_with fail
      refine (drawgc_any A len cap _ HI.out).mono ?_
      rintro e w1 ⟨m, old, n, dg, X, cx, zs, rfl, hz, hown1, hb1⟩
      have HO1 := Lib.hid hown1
      have HB1 := Lib.hid hb1
      have HC1 := Lib.hid hown1.le.1
      have HC2 := Lib.hid hown1.le.2
      clear hown1 hb1
      obtain ⟨bb, HBB⟩ : ∃ b, Hid (growOkB m old n dg zs = b) := ⟨_, rfl⟩
      go_wp2_with fail
      refine (gcheck_any zs m old n dg X cx _ HO1.out.ints HC1.out HC2.out).mono ?_
      rintro e w2 ⟨rfl, hb2⟩
      rw [HBB.out]
      have HO2 := Lib.hid (HO1.out.below hb2)
      have HB2 : Hid (Below w.heap.size w w2) := HB1.out.trans (hb2.mono HB1.out.size)
      clear hb2
      go_wp2_with fail
      refine (sgcheck_any zs m old n dg X cx _ HO2.out.ints HC1.out HC2.out).mono ?_
      rintro e w3 ⟨rfl, hb3⟩
      rw [HBB.out]
      have HO3 := Lib.hid (HO2.out.below hb3)
      have HB3 : Hid (Below w.heap.size w w3) := HB2.out.trans (hb3.mono HB2.out.size)
      clear hb3
      cases bb with
      | false =>
        go_wp2_with fail
        refine (sgcheck_any zs m old n dg X cx _ HO3.out.ints HC1.out HC2.out).mono ?_
        rintro e w4 ⟨rfl, hb4⟩
        rw [HBB.out]
        have HB4 : Hid (Below w.heap.size w w4) := HB3.out.trans (hb4.mono HB3.out.size)
        clear hb4
        go_wp2
        go_ret
        exact ⟨rfl, HB4.out⟩
      | true =>
        obtain ⟨j, k, rfl, rfl, hk16, hjk, hd, hlen, hfo, hfd⟩ := growOkB_true HBB.out
        have hob := foldZ_bd (j : Int) (zs.take (sizesOf 0 j).length) (by omega) (by omega)
        have hdb := foldZ_bd (k : Int) (mergeZ (growSizes j k) zs) (by omega) (by omega)
        rw [hfo] at hob
        rw [hfd] at hdb
        have HD := Lib.hid hd
        have HLEN := Lib.hid hlen
        have HFO := Lib.hid hfo
        have HFD := Lib.hid hfd
        obtain ⟨ho0, ho1⟩ := hob
        obtain ⟨hd0, hd1⟩ := hdb
        clear hd hlen hfo hfd
        obtain ⟨x, HX⟩ : ∃ x, Hid (otherZ old len1 = x) := ⟨_, rfl⟩
        obtain ⟨y, HY⟩ : ∃ y, Hid (otherZ dg len1 = y) := ⟨_, rfl⟩
        have hxn : x ≠ old := by rw [← HX.out]; exact otherZ_ne old len1
        have hyn : y ≠ dg := by rw [← HY.out]; exact otherZ_ne dg len1
        have hxb : (x == old) = false := by rw [beq_eq_false_iff_ne]; exact hxn
        have hyb : (y == dg) = false := by rw [beq_eq_false_iff_ne]; exact hyn
        have HR1 : Hid (growOkB (j : Int) x (k : Int) dg zs = false) := by
          show _ = _
          cases e : growOkB (j : Int) x (k : Int) dg zs with
          | false => rfl
          | true => exact absurd ((growOkB_of hk16 hjk HD.out e).2.1.symm.trans HFO.out) hxn
        have HR2 : Hid (growOkB (j : Int) old (k : Int) y zs = false) := by
          show _ = _
          cases e : growOkB (j : Int) old (k : Int) y zs with
          | false => rfl
          | true => exact absurd ((growOkB_of hk16 hjk HD.out e).2.2.symm.trans HFD.out) hyn
        clear hxn hyn
        go_wp2_with fail
        refine (other_any _ _ _ ho0 ho1 HM1.out).mono ?_
        rintro e w' ⟨rfl, rfl⟩
        rw [HX.out]
        go_wp2_with fail
        refine (other_any _ _ _ hd0 hd1 HM1.out).mono ?_
        rintro e w' ⟨rfl, rfl⟩
        rw [HY.out]
        go_wp2_with fail
        refine (gcheck_any zs _ _ _ _ X cx _ HO3.out.ints HC1.out HC2.out).mono ?_
        rintro e w4 ⟨rfl, hb4⟩
        rw [HR1.out]
        have HO4 := Lib.hid (HO3.out.below hb4)
        have HB4 : Hid (Below w.heap.size w w4) := HB3.out.trans (hb4.mono HB3.out.size)
        clear hb4
        go_wp2_with fail
        refine (gcheck_any zs _ _ _ _ X cx _ HO4.out.ints HC1.out HC2.out).mono ?_
        rintro e w5 ⟨rfl, hb5⟩
        rw [HR2.out]
        have HB5 : Hid (Below w.heap.size w w5) := HB4.out.trans (hb5.mono HB4.out.size)
        clear hb5
        go_wp2
        go_ret
        exact ⟨rfl, HB5.out⟩
    · have h9 : 1048576 < len1 := by omega
      clear hlen1
      go_enter Try.func5, Try.ntmps5
      go_wp2
      go_ret
      exact ⟨rfl, Below.refl _ _⟩
  · have h9 : 1048576 < len := by omega
    clear hlen
    go_enter Try.func5, Try.ntmps5
    go_wp2
    go_ret
    exact ⟨rfl, Below.refl _ _⟩

end Go.Proofs.Ytajiciapiopjcaa
