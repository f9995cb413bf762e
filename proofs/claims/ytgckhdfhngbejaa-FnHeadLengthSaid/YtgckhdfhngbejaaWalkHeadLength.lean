/- The walk of FnHeadLength: it returns true and changes nothing that was there. Condition: the codes' bytes lie in memory. -/
import Derived.Test.YtgckhdfhngbejaaDrawCheck
import Derived.Test.YtgckhdfhngbejaaSCheck
import Derived.Test.YtgckhdfhngbejaaOther
namespace Go.Proofs.Ytgckhdfhngbejaa
open Go.RowKit
set_option linter.unusedVariables false

set_option maxHeartbeats 4000000 in
set_option maxRecDepth 100000 in
theorem walkHeadLength (A : Option Addr) (len cap : Nat) (A1 : Option Addr) (len1 cap1 : Nat) (w : World) (hI : In w A len cap) (hI1 : In w A1 len1 cap1) :
    Calls Try.prog 6 #[.slice A len cap, .slice A1 len1 cap1] w fun e w' => e = .returned (.bool true) ∧ Below w.heap.size w w' := by
  have hm := hI.len_le
  have hm1 := hI1.len_le
  have HM1 := Lib.hid hm1
  unfold maxLen at hm hm1
  have HI := Lib.hid hI
  clear hI hI1
  by_cases hlen : len ≤ 1048576
  · by_cases hlen1 : len1 ≤ 1048576
    · go_enter Try.func6, Try.ntmps6
      go_wp2_with fail
      refine (drawcheck_any A len cap _ HI.out).mono ?_
      rintro e w1 ⟨p, l, d, s, hp0, hp1, hl0, hl1, hd0, hd1, hs0, hs1, rfl, hb1⟩
      have HB1 := Lib.hid hb1
      clear hb1
      have hz1 : w.heap.size ≤ w1.heap.size := HB1.out.size
      obtain ⟨R, HR⟩ : ∃ R, Hid (signedB p l d s = R) := ⟨_, rfl⟩
      go_wp2_with fail
      refine (check_any p l d s _).mono ?_
      rintro e w2 ⟨rfl, hb2⟩
      rw [HR.out]
      have HK2 : Hid (Blk w2 w1.heap.size 27 #[.int .i64 l, .int .i64 d, .int .i64 s]) := (Blk.new w1 27 #[.int .i64 l, .int .i64 d, .int .i64 s]).below hb2 (by simp)
      have HB2 : Hid (Below w.heap.size w w2) := (HB1.out.alloc hz1 _).trans (hb2.mono (by simp; omega))
      clear hb2
      have hz2 : w1.heap.size < w2.heap.size := HK2.out.lt
      have c0 : w2.cell? ⟨w1.heap.size, 0, none⟩ = some (.int .i64 l) := HK2.out.cell 0
      have c1 : w2.cell? ⟨w1.heap.size, 1, none⟩ = some (.int .i64 d) := HK2.out.cell 1
      have c2 : w2.cell? ⟨w1.heap.size, 2, none⟩ = some (.int .i64 s) := HK2.out.cell 2
      go_wp2_with fail
      refine (scheck_any p l d s _).mono ?_
      rintro e w3 ⟨rfl, hb3⟩
      rw [HR.out]
      have HK3 : Hid (Blk w3 w1.heap.size 27 #[.int .i64 l, .int .i64 d, .int .i64 s]) := HK2.out.below hb3 hz2
      have HB3 : Hid (Below w.heap.size w w3) := HB2.out.trans (hb3.mono HB2.out.size)
      clear hb3 c0 c1 c2
      have hz3 : w1.heap.size < w3.heap.size := HK3.out.lt
      have c0 : w3.cell? ⟨w1.heap.size, 0, none⟩ = some (.int .i64 l) := HK3.out.cell 0
      have c1 : w3.cell? ⟨w1.heap.size, 1, none⟩ = some (.int .i64 d) := HK3.out.cell 1
      have c2 : w3.cell? ⟨w1.heap.size, 2, none⟩ = some (.int .i64 s) := HK3.out.cell 2
      cases hR : R with
      | false =>
        go_wp2
        go_ret
        exact ⟨rfl, HB3.out⟩
      | true =>
        subst hR
        obtain ⟨⟨p0, p1⟩, ⟨l0, l1⟩, ⟨d0, d1⟩, ⟨s0, s1⟩, _⟩ := (signedB_iff _ _ _ _).1 HR.out
        have hyn := longZ_ne l len1
        have hyb := longZ_bd l len1
        obtain ⟨y, HY⟩ : ∃ y, Hid (longZ l len1 = y) := ⟨_, rfl⟩
        rw [HY.out] at hyn hyb
        obtain ⟨y0, y1⟩ := hyb
        have hyl : (y == l) = false := by rw [beq_eq_false_iff_ne]; exact hyn
        have hyd : decide (y = l) = false := by simp; exact hyn
        have HSN : Hid (signedB p y d s = false) := signed_length HR.out ⟨y0, y1⟩ hyn
        have hk : (l + 1 + (len1 : Int) % 16) % 17 = y := HY.out
        have HE := Lib.hid hk
        clear hk
        go_wp2_with fail
        rw [HE.out]
        refine (check_any p y d s _).mono ?_
        rintro e w5 ⟨rfl, hb5⟩
        rw [HSN.out]
        have HB5 : Hid (Below w.heap.size w w5) := (HB3.out.alloc (by omega) _).trans (hb5.mono (by simp; omega))
        clear hb5
        go_wp2
        go_ret
        exact ⟨rfl, HB5.out⟩
    · have h9 : 1048576 < len1 := by omega
      clear hlen1
      go_enter Try.func6, Try.ntmps6
      go_wp2
      go_ret
      exact ⟨rfl, Below.refl _ _⟩
  · have h9 : 1048576 < len := by omega
    clear hlen
    go_enter Try.func6, Try.ntmps6
    go_wp2
    go_ret
    exact ⟨rfl, Below.refl _ _⟩

end Go.Proofs.Ytgckhdfhngbejaa
