/- The walk of FnPublic: it returns true and changes nothing that was there. Condition: the codes' bytes lie in memory. -/
import Derived.Test.YtgckhdfhngbejaaPublic
import Derived.Test.YtgckhdfhngbejaaDrawSecret
import Derived.Test.YtgckhdfhngbejaaIn
namespace Go.Proofs.Ytgckhdfhngbejaa
open Go.RowKit
set_option linter.unusedVariables false

set_option maxHeartbeats 2000000 in
set_option maxRecDepth 100000 in
theorem walkPublic (A : Option Addr) (len cap : Nat) (A1 : Option Addr) (len1 cap1 : Nat) (w : World) (hI : In w A len cap) (hI1 : In w A1 len1 cap1) :
    Calls Try.prog 7 #[.slice A len cap, .slice A1 len1 cap1] w fun e w' => e = .returned (.bool true) ∧ Below w.heap.size w w' := by
  have hm := hI.len_le
  have hm1 := hI1.len_le
  unfold maxLen at hm hm1
  have HI := Lib.hid hI
  clear hI hI1
  by_cases hlen : len ≤ 1048576
  · by_cases hlen1 : len1 ≤ 1048576
    · go_enter Try.func7, Try.ntmps7
      go_wp2_with fail
      refine (drawpublic_any A len cap _ HI.out).mono ?_
      rintro e w1 ⟨s, h1, h2, rfl, hb1⟩
      have HB1 := Lib.hid hb1
      clear hb1
      go_wp2_with fail
      refine (public_any _ _).mono ?_
      rintro e w' ⟨rfl, rfl⟩
      go_wp2_with fail
      refine (spublic_any _ _).mono ?_
      rintro e w' ⟨rfl, rfl⟩
      by_cases hs : 1 ≤ s ∧ s < 997
      · obtain ⟨t0, t1⟩ := publicOr_bd hs
        have hyn := nextZ_ne s len1
        obtain ⟨hy0, hy1⟩ := nextZ_bd s len1
        have hpn : publicOr (nextZ s len1) ≠ publicOr s := fun e => hyn (publicOr_inj ⟨hy0, hy1⟩ hs e)
        obtain ⟨t, HT⟩ : ∃ t, Hid (publicOr s = t) := ⟨_, rfl⟩
        obtain ⟨y, HY⟩ : ∃ y, Hid (nextZ s len1 = y) := ⟨_, rfl⟩
        obtain ⟨u, HU⟩ : ∃ u, Hid (publicOr y = u) := ⟨_, rfl⟩
        rw [HY.out] at hyn hpn hy0 hy1
        rw [HU.out, HT.out] at hpn
        rw [HT.out] at t0 t1 ⊢
        obtain ⟨s0, s1⟩ := hs
        have htz : (t == 0) = false := by rw [beq_eq_false_iff_ne]; omega
        have hyb : (y == s) = false := by rw [beq_eq_false_iff_ne]; exact hyn
        have hub : (u == t) = false := by rw [beq_eq_false_iff_ne]; exact hpn
        clear hyn hpn
        go_wp2_with fail
        rw [show 1 + (s + (len1 : Int) % 995) % 996 = y from HY.out]
        refine (public_any _ _).mono ?_
        rintro e w' ⟨rfl, rfl⟩
        rw [HU.out]
        go_wp2
        go_ret
        exact ⟨rfl, HB1.out⟩
      · have HE := Lib.hid (publicOr_n hs)
        rw [HE.out]
        clear hs
        go_wp2
        go_ret
        exact ⟨rfl, HB1.out⟩
    · have h9 : 1048576 < len1 := by omega
      clear hlen1
      go_enter Try.func7, Try.ntmps7
      go_wp2
      go_ret
      exact ⟨rfl, Below.refl _ _⟩
  · have h9 : 1048576 < len := by omega
    clear hlen
    go_enter Try.func7, Try.ntmps7
    go_wp2
    go_ret
    exact ⟨rfl, Below.refl _ _⟩

end Go.Proofs.Ytgckhdfhngbejaa
