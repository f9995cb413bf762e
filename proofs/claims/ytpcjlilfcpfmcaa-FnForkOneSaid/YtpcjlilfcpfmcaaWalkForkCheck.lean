/- The walks of FnForkCheck and FnForkOne: they return true and change nothing that was there. Condition: the codes' bytes lie in memory. -/
import Derived.Test.YtpcjlilfcpfmcaaDrawFork
namespace Go.Proofs.Ytpcjlilfcpfmcaa
open Go.RowKit
set_option linter.unusedVariables false

set_option maxHeartbeats 4000000 in
set_option maxRecDepth 100000 in
theorem walkForkCheck (A : Option Addr) (len cap : Nat) (w : World) (hI : In w A len cap) :
    Calls Try.prog 3 #[.slice A len cap] w fun e w' => e = .returned (.bool true) ∧ Below w.heap.size w w' := by
  have hm := hI.len_le
  unfold maxLen at hm
  have HI := Lib.hid hI
  clear hI
  by_cases hlen : len ≤ 1048576
  · go_enter Try.func3, Try.ntmps3
    go_wp2_with fail
    refine (drawForkCheck_any A len cap _ HI.out).mono ?_
    rintro e w1 ⟨p, a, b, c, x, y, z, rfl, hb1⟩
    have HB1 := Lib.hid hb1
    clear hb1
    obtain ⟨V, HV⟩ : ∃ V, Hid (w1.alloc (.cells (forkC p a b c x y z) 26) = V) := ⟨_, rfl⟩
    have HBV : Hid (Below w1.heap.size w1 V) := by rw [← HV.out]; exact (Below.refl _ w1).alloc (Nat.le_refl _) _
    have KV : Hid (Blk V w1.heap.size 26 (forkC p a b c x y z)) := by rw [← HV.out]; exact Blk.new w1 _ _
    have CV : Hid (∀ U, Calls Try.prog 10 #[forkV p a b c x y z] U fun e w' => e = .returned (.bool (forkB p a b c x y z)) ∧ Below U.heap.size U w') := forkCheck_any p a b c x y z
    have CS : Hid (∀ U, Calls Try.prog 11 #[forkV p a b c x y z] U fun e w' => e = .returned (.bool (forkB p a b c x y z)) ∧ Below U.heap.size U w') := sforkCheck_any p a b c x y z
    obtain ⟨R, HR⟩ : ∃ R, Hid (forkB p a b c x y z = R) := ⟨_, rfl⟩
    rw [HR.out] at CV CS
    go_wp2_with fail
    rw [HV.out]
    refine (CV.out _).mono ?_
    rintro e w2 ⟨rfl, hb2⟩
    have K2 := Lib.hid (KV.out.below hb2 KV.out.lt)
    have HB2 : Hid (Below w1.heap.size w1 w2) := HBV.out.trans (hb2.mono HBV.out.size)
    obtain ⟨k0, k1, k2, k3, k4, k5, k6⟩ := fork_cells K2.out
    clear hb2
    go_wp2_with fail
    refine (CS.out _).mono ?_
    rintro e w3 ⟨rfl, hb3⟩
    have K3 := Lib.hid (K2.out.below hb3 K2.out.lt)
    have HB3 : Hid (Below w1.heap.size w1 w3) := HB2.out.trans (hb3.mono HB2.out.size)
    have HB3w : Hid (Below w.heap.size w w3) := HB1.out.trans (HB3.out.mono HB1.out.size)
    have hz3 : w1.heap.size < w3.heap.size := K3.out.lt
    clear hb3 k0 k1 k2 k3 k4 k5 k6
    obtain ⟨k0, k1, k2, k3, k4, k5, k6⟩ := fork_cells K3.out
    cases hR : R with
    | false =>
      subst hR
      go_wp2
      go_ret
      exact ⟨rfl, HB3w.out⟩
    | true =>
      subst hR
      obtain ⟨s1, s2, hax, hby⟩ := (forkB_iff _ _ _ _ _ _ _).1 HR.out
      subst hax
      have HS1 := Lib.hid s1
      have HS2 := Lib.hid s2
      have HSW : Hid (forkB p a y z a b c = true) := by have h := forkB_swap p a b c a y z; rw [HR.out] at h; exact h
      have hbn : (b != y) = true := bne_iff_ne.2 hby
      have hbn2 : (b == y) = false := beq_eq_false_iff_ne.2 hby
      obtain ⟨U, HU⟩ : ∃ U, Hid (w3.alloc (.cells (forkC p a y z a b c) 26) = U) := ⟨_, rfl⟩
      have KU : Hid (Blk U w1.heap.size 26 (forkC p a b c a y z)) := by rw [← HU.out]; exact K3.out.alloc _
      have LU : Hid (Blk U w3.heap.size 26 (forkC p a y z a b c)) := by rw [← HU.out]; exact Blk.new w3 _ _
      have HBU : Hid (Below w.heap.size w U) := by rw [← HU.out]; exact HB3w.out.alloc HB3w.out.size _
      clear s1 s2
      go_wp2_with fail
      rw [HU.out]
      refine (check_any p a b c _).mono ?_
      rintro e w4 ⟨rfl, hb4⟩
      rw [HS1.out]
      have K4 := Lib.hid (KU.out.below hb4 KU.out.lt)
      have L4 := Lib.hid (LU.out.below hb4 LU.out.lt)
      have HB4 : Hid (Below w.heap.size w w4) := HBU.out.trans (hb4.mono HBU.out.size)
      clear hb4 k0 k1 k2 k3 k4 k5 k6
      obtain ⟨k0, k1, k2, k3, k4, k5, k6⟩ := fork_cells K4.out
      go_wp2_with fail
      refine (check_any p a y z _).mono ?_
      rintro e w5 ⟨rfl, hb5⟩
      rw [HS2.out]
      have K5 := Lib.hid (K4.out.below hb5 K4.out.lt)
      have L5 := Lib.hid (L4.out.below hb5 L4.out.lt)
      have HB5 : Hid (Below w.heap.size w w5) := HB4.out.trans (hb5.mono HB4.out.size)
      clear hb5 k0 k1 k2 k3 k4 k5 k6
      obtain ⟨k0, k1, k2, k3, k4, k5, k6⟩ := fork_cells K5.out
      obtain ⟨j0, j1, j2, j3, j4, j5, j6⟩ := fork_cells L5.out
      go_wp2_with fail
      refine (forkCheck_any p a y z a b c _).mono ?_
      rintro e w6 ⟨rfl, hb6⟩
      rw [HSW.out]
      have HB6 : Hid (Below w.heap.size w w6) := HB5.out.trans (hb6.mono HB5.out.size)
      clear hb6
      go_wp2
      go_ret
      exact ⟨rfl, HB6.out⟩
  · have h9 : 1048576 < len := by omega
    clear hlen
    go_enter Try.func3, Try.ntmps3
    go_wp2
    go_ret
    exact ⟨rfl, Below.refl _ _⟩

set_option maxHeartbeats 4000000 in
set_option maxRecDepth 100000 in
theorem walkForkOne (A : Option Addr) (len cap : Nat) (w : World) (hI : In w A len cap) :
    Calls Try.prog 4 #[.slice A len cap] w fun e w' => e = .returned (.bool true) ∧ Below w.heap.size w w' := by
  have hm := hI.len_le
  unfold maxLen at hm
  have HI := Lib.hid hI
  clear hI
  by_cases hlen : len ≤ 1048576
  · go_enter Try.func4, Try.ntmps4
    go_wp2_with fail
    refine (drawForkCheck_any A len cap _ HI.out).mono ?_
    rintro e w1 ⟨p, a, b, c, x, y, z, rfl, hb1⟩
    have HB1 := Lib.hid hb1
    clear hb1
    obtain ⟨V, HV⟩ : ∃ V, Hid (w1.alloc (.cells (forkC p a b c x y z) 26) = V) := ⟨_, rfl⟩
    have HBV : Hid (Below w1.heap.size w1 V) := by rw [← HV.out]; exact (Below.refl _ w1).alloc (Nat.le_refl _) _
    have KV : Hid (Blk V w1.heap.size 26 (forkC p a b c x y z)) := by rw [← HV.out]; exact Blk.new w1 _ _
    have CV : Hid (∀ U, Calls Try.prog 10 #[forkV p a b c x y z] U fun e w' => e = .returned (.bool (forkB p a b c x y z)) ∧ Below U.heap.size U w') := forkCheck_any p a b c x y z
    have CS : Hid (∀ U, Calls Try.prog 11 #[forkV p a b c x y z] U fun e w' => e = .returned (.bool (forkB p a b c x y z)) ∧ Below U.heap.size U w') := sforkCheck_any p a b c x y z
    obtain ⟨R, HR⟩ : ∃ R, Hid (forkB p a b c x y z = R) := ⟨_, rfl⟩
    rw [HR.out] at CV CS
    go_wp2_with fail
    rw [HV.out]
    refine (CV.out _).mono ?_
    rintro e w2 ⟨rfl, hb2⟩
    have K2 := Lib.hid (KV.out.below hb2 KV.out.lt)
    have HB2 : Hid (Below w1.heap.size w1 w2) := HBV.out.trans (hb2.mono HBV.out.size)
    obtain ⟨k0, k1, k2, k3, k4, k5, k6⟩ := fork_cells K2.out
    clear hb2
    go_wp2_with fail
    refine (CS.out _).mono ?_
    rintro e w3 ⟨rfl, hb3⟩
    have K3 := Lib.hid (K2.out.below hb3 K2.out.lt)
    have HB3 : Hid (Below w1.heap.size w1 w3) := HB2.out.trans (hb3.mono HB2.out.size)
    have HB3w : Hid (Below w.heap.size w w3) := HB1.out.trans (HB3.out.mono HB1.out.size)
    have hz3 : w1.heap.size < w3.heap.size := K3.out.lt
    clear hb3 k0 k1 k2 k3 k4 k5 k6
    obtain ⟨k0, k1, k2, k3, k4, k5, k6⟩ := fork_cells K3.out
    have HSF : Hid (forkB p a b c a b c = false) := forkB_self p a b c c
    have hRR : (R != R) = false := by simp
    clear CV CS
    go_wp2_with fail
    refine (forkCheck_any p a b c a b c _).mono ?_
    rintro e w4 ⟨rfl, hb4⟩
    rw [HSF.out]
    have K4 := Lib.hid (K3.out.below hb4 K3.out.lt)
    have HB4 : Hid (Below w.heap.size w w4) := HB3w.out.trans (hb4.mono HB3w.out.size)
    clear hb4 k0 k1 k2 k3 k4 k5 k6
    obtain ⟨k0, k1, k2, k3, k4, k5, k6⟩ := fork_cells K4.out
    cases hR : R with
    | true =>
      subst hR
      go_wp2
      go_ret
      exact ⟨rfl, HB4.out⟩
    | false =>
      subst hR
      by_cases hby : b = y
      · subst hby
        go_wp2
        go_ret
        exact ⟨rfl, HB4.out⟩
      · have hbn : (b != y) = true := bne_iff_ne.2 hby
        have hbn2 : (b == y) = false := beq_eq_false_iff_ne.2 hby
        by_cases hax : a = x
        · subst hax
          cases h1 : signedB p a b c with
          | false =>
            have HS1 := Lib.hid h1
            clear h1
            go_wp2_with fail
            refine (check_any p a b c _).mono ?_
            rintro e w5 ⟨rfl, hb5⟩
            rw [HS1.out]
            have HB5 : Hid (Below w.heap.size w w5) := HB4.out.trans (hb5.mono HB4.out.size)
            clear hb5
            go_wp2
            go_ret
            exact ⟨rfl, HB5.out⟩
          | true =>
            have h2 : signedB p a y z = false := by
              cases h2 : signedB p a y z with
              | false => rfl
              | true => exact absurd ((forkB_iff _ _ _ _ _ _ _).2 ⟨h1, h2, rfl, hby⟩) (by rw [HR.out]; decide)
            have HS1 := Lib.hid h1
            have HS2 := Lib.hid h2
            clear h1 h2
            go_wp2_with fail
            refine (check_any p a b c _).mono ?_
            rintro e w5 ⟨rfl, hb5⟩
            rw [HS1.out]
            have K5 := Lib.hid (K4.out.below hb5 K4.out.lt)
            have HB5 : Hid (Below w.heap.size w w5) := HB4.out.trans (hb5.mono HB4.out.size)
            clear hb5 k0 k1 k2 k3 k4 k5 k6
            obtain ⟨k0, k1, k2, k3, k4, k5, k6⟩ := fork_cells K5.out
            go_wp2_with fail
            refine (check_any p a y z _).mono ?_
            rintro e w6 ⟨rfl, hb6⟩
            rw [HS2.out]
            have HB6 : Hid (Below w.heap.size w w6) := HB5.out.trans (hb6.mono HB5.out.size)
            clear hb6
            go_wp2
            go_ret
            exact ⟨rfl, HB6.out⟩
        · have han : (a != x) = true := bne_iff_ne.2 hax
          have han2 : (a == x) = false := beq_eq_false_iff_ne.2 hax
          go_wp2
          go_ret
          exact ⟨rfl, HB4.out⟩
  · have h9 : 1048576 < len := by omega
    clear hlen
    go_enter Try.func4, Try.ntmps4
    go_wp2
    go_ret
    exact ⟨rfl, Below.refl _ _⟩

end Go.Proofs.Ytpcjlilfcpfmcaa
