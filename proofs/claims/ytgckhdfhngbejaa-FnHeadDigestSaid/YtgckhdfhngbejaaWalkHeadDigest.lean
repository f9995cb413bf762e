/- The walk of FnHeadDigest: it returns true and changes nothing that was there. Condition: the codes' bytes lie in memory. -/
import Derived.Test.YtgckhdfhngbejaaDrawCheck
import Derived.Test.YtgckhdfhngbejaaSCheck
import Derived.Test.YtgckhdfhngbejaaOther
namespace Go.Proofs.Ytgckhdfhngbejaa
open Go.RowKit
set_option linter.unusedVariables false

set_option maxHeartbeats 4000000 in
set_option maxRecDepth 100000 in
theorem walkHeadDigest (A : Option Addr) (len cap : Nat) (A1 : Option Addr) (len1 cap1 : Nat) (w : World) (hI : In w A len cap) (hI1 : In w A1 len1 cap1) :
    Calls Try.prog 5 #[.slice A len cap, .slice A1 len1 cap1] w fun e w' => e = .returned (.bool true) ∧ Below w.heap.size w w' := by
  have hm := hI.len_le
  have hm1 := hI1.len_le
  have HM1 := Lib.hid hm1
  unfold maxLen at hm hm1
  have HI := Lib.hid hI
  clear hI hI1
  by_cases hlen : len ≤ 1048576
  · by_cases hlen1 : len1 ≤ 1048576
    · go_enter Try.func5, Try.ntmps5
      go_wp2_with fail
      refine (drawcheck_any A len cap _ HI.out).mono ?_
      rintro e w1 ⟨p, l, d, s, hp0, hp1, hl0, hl1, hd0, hd1, hs0, hs1, rfl, hb1⟩
      have HB1 := Lib.hid hb1
      clear hb1
      have hz1 : w.heap.size ≤ w1.heap.size := HB1.out.size
      obtain ⟨R, HR⟩ : ∃ R, Hid (signedB p l d s = R) := ⟨_, rfl⟩
      go_wp2_with fail
      refine (check_any p l d s _).mono ?_
      rintro e w2 ⟨rfl, hb2⟩
      rw [HR.out]
      have HK2 : Hid (Blk w2 w1.heap.size 27 #[.int .i64 l, .int .i64 d, .int .i64 s]) := (Blk.new w1 27 #[.int .i64 l, .int .i64 d, .int .i64 s]).below hb2 (by simp)
      have HB2 : Hid (Below w.heap.size w w2) := (HB1.out.alloc hz1 _).trans (hb2.mono (by simp; omega))
      clear hb2
      have hz2 : w1.heap.size < w2.heap.size := HK2.out.lt
      have c0 : w2.cell? ⟨w1.heap.size, 0, none⟩ = some (.int .i64 l) := HK2.out.cell 0
      have c1 : w2.cell? ⟨w1.heap.size, 1, none⟩ = some (.int .i64 d) := HK2.out.cell 1
      have c2 : w2.cell? ⟨w1.heap.size, 2, none⟩ = some (.int .i64 s) := HK2.out.cell 2
      go_wp2_with fail
      refine (scheck_any p l d s _).mono ?_
      rintro e w3 ⟨rfl, hb3⟩
      rw [HR.out]
      have HK3 : Hid (Blk w3 w1.heap.size 27 #[.int .i64 l, .int .i64 d, .int .i64 s]) := HK2.out.below hb3 hz2
      have HB3 : Hid (Below w.heap.size w w3) := HB2.out.trans (hb3.mono HB2.out.size)
      clear hb3 c0 c1 c2
      have hz3 : w1.heap.size < w3.heap.size := HK3.out.lt
      have c0 : w3.cell? ⟨w1.heap.size, 0, none⟩ = some (.int .i64 l) := HK3.out.cell 0
      have c1 : w3.cell? ⟨w1.heap.size, 1, none⟩ = some (.int .i64 d) := HK3.out.cell 1
      have c2 : w3.cell? ⟨w1.heap.size, 2, none⟩ = some (.int .i64 s) := HK3.out.cell 2
      cases hR : R with
      | false =>
        go_wp2
        go_ret
        exact ⟨rfl, HB3.out⟩
      | true =>
        subst hR
        obtain ⟨⟨p0, p1⟩, ⟨l0, l1⟩, ⟨d0, d1⟩, ⟨s0, s1⟩, _⟩ := (signedB_iff _ _ _ _).1 HR.out
        have hyn := otherZ_ne d len1
        obtain ⟨hy0, hy1⟩ := otherZ_bd d len1
        have hun := nextZ_ne s len1
        obtain ⟨hu0, hu1⟩ := nextZ_bd s len1
        obtain ⟨y, HY⟩ : ∃ y, Hid (otherZ d len1 = y) := ⟨_, rfl⟩
        obtain ⟨u, HU⟩ : ∃ u, Hid (nextZ s len1 = u) := ⟨_, rfl⟩
        rw [HY.out] at hyn hy0 hy1
        rw [HU.out] at hun hu0 hu1
        have hyd : (y == d) = false := by rw [beq_eq_false_iff_ne]; exact hyn
        have hus : (u == s) = false := by rw [beq_eq_false_iff_ne]; exact hun
        have HSN : Hid (signedB p l y s = false) := signed_digest HR.out ⟨hy0, hy1⟩ hyn
        have HUN : Hid (signedB p l d u = false) := signed_sign HR.out hun
        have HE : Hid (1 + (s + (len1 : Int) % 995) % 996 = u) := HU.out
        go_wp2_with fail
        refine (other_any d len1 _ d0 d1 HM1.out).mono ?_
        rintro e w' ⟨rfl, rfl⟩
        rw [HY.out]
        go_wp2_with fail
        rw [HE.out]
        refine (check_any p l y s _).mono ?_
        rintro e w5 ⟨rfl, hb5⟩
        rw [HSN.out]
        have HB5 : Hid (Below w.heap.size w w5) := ((HB3.out.alloc (by omega) _).alloc (by simp; omega) _).trans (hb5.mono (by simp; omega))
        have hk5 := ((HK3.out.alloc (.cells #[.int .i64 l, .int .i64 y, .int .i64 s] 27)).alloc (.cells #[.int .i64 l, .int .i64 d, .int .i64 u] 27)).below hb5 (by simp; omega)
        have hj5 := (Blk.new (w3.alloc (.cells #[.int .i64 l, .int .i64 y, .int .i64 s] 27)) 27 #[.int .i64 l, .int .i64 d, .int .i64 u]).below hb5 (by simp)
        rw [World.size_alloc] at hj5
        clear hb5 c0 c1 c2
        have c0 : w5.cell? ⟨w1.heap.size, 0, none⟩ = some (.int .i64 l) := hk5.cell 0
        have c1 : w5.cell? ⟨w1.heap.size, 1, none⟩ = some (.int .i64 d) := hk5.cell 1
        have c2 : w5.cell? ⟨w1.heap.size, 2, none⟩ = some (.int .i64 s) := hk5.cell 2
        have j0 : w5.cell? ⟨w3.heap.size + 1, 0, none⟩ = some (.int .i64 l) := hj5.cell 0
        have j1 : w5.cell? ⟨w3.heap.size + 1, 1, none⟩ = some (.int .i64 d) := hj5.cell 1
        have j2 : w5.cell? ⟨w3.heap.size + 1, 2, none⟩ = some (.int .i64 u) := hj5.cell 2
        clear hk5 hj5
        go_wp2_with fail
        refine (check_any p l d u _).mono ?_
        rintro e w6 ⟨rfl, hb6⟩
        rw [HUN.out]
        have HB6 : Hid (Below w.heap.size w w6) := HB5.out.trans (hb6.mono HB5.out.size)
        clear hb6
        go_wp2
        go_ret
        exact ⟨rfl, HB6.out⟩
    · have h9 : 1048576 < len1 := by omega
      clear hlen1
      go_enter Try.func5, Try.ntmps5
      go_wp2
      go_ret
      exact ⟨rfl, Below.refl _ _⟩
  · have h9 : 1048576 < len := by omega
    clear hlen
    go_enter Try.func5, Try.ntmps5
    go_wp2
    go_ret
    exact ⟨rfl, Below.refl _ _⟩

end Go.Proofs.Ytgckhdfhngbejaa
