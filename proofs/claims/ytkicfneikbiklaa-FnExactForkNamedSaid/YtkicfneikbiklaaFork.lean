/- Words for a proof of a fork in memory, and the contracts of ForkCheck and of its model: whether both heads are signed, of one length and with different digests. No conditions. -/
import Derived.Test.YtkicfneikbiklaaBaseE
namespace Go.Proofs.Ytkicfneikbiklaa
open Go.RowKit
set_option linter.unusedVariables false

/-- A proof of a fork as a value. -/
abbrev forkC (p a b c x y z : Int) : Array Value := #[.int .i64 p, .int .i64 a, .int .i64 b, .int .i64 c, .int .i64 x, .int .i64 y, .int .i64 z]
abbrev forkV (p a b c x y z : Int) : Value := .agg (forkC p a b c x y z)
def forkB (p a b c x y z : Int) : Bool := signedB p a b c && (signedB p x y z && (decide (a = x) && decide (b ≠ y)))
theorem forkB_iff (p a b c x y z : Int) : forkB p a b c x y z = true ↔ signedB p a b c = true ∧ signedB p x y z = true ∧ a = x ∧ b ≠ y := by
  unfold forkB; simp only [Bool.and_eq_true, decide_eq_true_eq]
theorem forkB_no {p a b c x y z : Int} (h : ¬ (signedB p a b c = true ∧ signedB p x y z = true ∧ a = x ∧ b ≠ y)) : forkB p a b c x y z = false := by
  rw [Bool.eq_false_iff]; exact fun e => h ((forkB_iff _ _ _ _ _ _ _).1 e)
theorem forkB_swap (p a b c x y z : Int) : forkB p x y z a b c = forkB p a b c x y z := by
  rw [Bool.eq_iff_iff, forkB_iff, forkB_iff]
  exact ⟨fun h => ⟨h.2.1, h.1, h.2.2.1.symm, fun e => h.2.2.2 e.symm⟩, fun h => ⟨h.2.1, h.1, h.2.2.1.symm, fun e => h.2.2.2 e.symm⟩⟩
theorem forkB_self (p a b c z : Int) : forkB p a b c a b z = false := forkB_no fun h => h.2.2.2 rfl
/-- The seven cells of a fork's block. -/
theorem fork_cells {W : World} {g : Nat} {t : TypeId} {v0 v1 v2 v3 v4 v5 v6 : Value} (h : Blk W g t #[v0, v1, v2, v3, v4, v5, v6]) : W.cell? ⟨g, 0, none⟩ = some v0 ∧ W.cell? ⟨g, 1, none⟩ = some v1 ∧ W.cell? ⟨g, 2, none⟩ = some v2 ∧ W.cell? ⟨g, 3, none⟩ = some v3 ∧ W.cell? ⟨g, 4, none⟩ = some v4 ∧ W.cell? ⟨g, 5, none⟩ = some v5 ∧ W.cell? ⟨g, 6, none⟩ = some v6 :=
  ⟨h.cell 0, h.cell 1, h.cell 2, h.cell 3, h.cell 4, h.cell 5, h.cell 6⟩

set_option maxHeartbeats 2000000 in
set_option maxRecDepth 100000 in
theorem forkCheck_any (p a b c x y z : Int) (w : World) :
    Calls Try.prog 11 #[forkV p a b c x y z] w fun e w' => e = .returned (.bool (forkB p a b c x y z)) ∧ Below w.heap.size w w' := by
  cases h1 : signedB p a b c with
  | false =>
    have HE : Hid (forkB p a b c x y z = false) := forkB_no fun k => by rw [h1] at k; cases k.1
    have H1 := Lib.hid h1
    rw [HE.out]
    clear h1
    go_enter Try.func11, Try.ntmps11
    go_wp2_with fail
    refine (check_any p a b c _).mono ?_
    rintro e w1 ⟨rfl, hb1⟩
    rw [H1.out]
    have HB1 : Hid (Below w.heap.size w w1) := ((Below.refl _ w).alloc (Nat.le_refl _) _).trans (hb1.mono (by simp))
    clear hb1
    go_wp2
    go_ret
    exact ⟨rfl, HB1.out⟩
  | true =>
    cases h2 : signedB p x y z with
    | false =>
      have HE : Hid (forkB p a b c x y z = false) := forkB_no fun k => by rw [h2] at k; cases k.2.1
      have H1 := Lib.hid h1
      have H2 := Lib.hid h2
      rw [HE.out]
      clear h1 h2
      go_enter Try.func11, Try.ntmps11
      go_wp2_with fail
      refine (check_any p a b c _).mono ?_
      rintro e w1 ⟨rfl, hb1⟩
      rw [H1.out]
      have hz1 : w.heap.size < w1.heap.size := by have := hb1.size; simp at this; omega
      have HK1 := Lib.hid ((Blk.new w 32 (forkC p a b c x y z)).below hb1 (by simp))
      obtain ⟨k0, k1, k2, k3, k4, k5, k6⟩ := fork_cells HK1.out
      have HB1 : Hid (Below w.heap.size w w1) := ((Below.refl _ w).alloc (Nat.le_refl _) _).trans (hb1.mono (by simp))
      clear hb1
      go_wp2_with fail
      refine (check_any p x y z _).mono ?_
      rintro e w2 ⟨rfl, hb2⟩
      rw [H2.out]
      have HB2 : Hid (Below w.heap.size w w2) := HB1.out.trans (hb2.mono HB1.out.size)
      clear hb2
      go_wp2
      go_ret
      exact ⟨rfl, HB2.out⟩
    | true =>
      have H1 := Lib.hid h1
      have H2 := Lib.hid h2
      clear h1 h2
      go_enter Try.func11, Try.ntmps11
      go_wp2_with fail
      refine (check_any p a b c _).mono ?_
      rintro e w1 ⟨rfl, hb1⟩
      rw [H1.out]
      have hz1 : w.heap.size < w1.heap.size := by have := hb1.size; simp at this; omega
      have HK1 := Lib.hid ((Blk.new w 32 (forkC p a b c x y z)).below hb1 (by simp))
      obtain ⟨k0, k1, k2, k3, k4, k5, k6⟩ := fork_cells HK1.out
      have HB1 : Hid (Below w.heap.size w w1) := ((Below.refl _ w).alloc (Nat.le_refl _) _).trans (hb1.mono (by simp))
      clear hb1
      go_wp2_with fail
      refine (check_any p x y z _).mono ?_
      rintro e w2 ⟨rfl, hb2⟩
      rw [H2.out]
      have HB2 : Hid (Below w.heap.size w w2) := HB1.out.trans (hb2.mono HB1.out.size)
      have HK2 := Lib.hid (HK1.out.below hb2 hz1)
      clear hb2 k0 k1 k2 k3 k4 k5 k6
      obtain ⟨k0, k1, k2, k3, k4, k5, k6⟩ := fork_cells HK2.out
      by_cases hl : a = x
      · subst hl
        by_cases hd : b = y
        · subst hd
          have HE : Hid (forkB p a b c a b z = false) := forkB_self p a b c z
          go_wp2
          go_ret
          rw [HE.out]
          exact ⟨rfl, HB2.out⟩
        · have HE : Hid (forkB p a b c a y z = true) := (forkB_iff _ _ _ _ _ _ _).2 ⟨H1.out, H2.out, rfl, hd⟩
          have hd1 : (b != y) = true := bne_iff_ne.2 hd
          go_wp2
          go_ret
          rw [HE.out]
          exact ⟨rfl, HB2.out⟩
      · have HE : Hid (forkB p a b c x y z = false) := forkB_no fun k => hl k.2.2.1
        have hd1 : (a == x) = false := beq_eq_false_iff_ne.2 hl
        go_wp2
        go_ret
        rw [HE.out]
        exact ⟨rfl, HB2.out⟩

set_option maxHeartbeats 2000000 in
set_option maxRecDepth 100000 in
theorem sforkCheck_any (p a b c x y z : Int) (w : World) :
    Calls Try.prog 14 #[forkV p a b c x y z] w fun e w' => e = .returned (.bool (forkB p a b c x y z)) ∧ Below w.heap.size w w' := by
  cases h1 : signedB p a b c with
  | false =>
    have HE : Hid (forkB p a b c x y z = false) := forkB_no fun k => by rw [h1] at k; cases k.1
    have H1 := Lib.hid h1
    rw [HE.out]
    clear h1
    go_enter Try.func14, Try.ntmps14
    go_wp2_with fail
    refine (scheck_any p a b c _).mono ?_
    rintro e w1 ⟨rfl, hb1⟩
    rw [H1.out]
    have HB1 : Hid (Below w.heap.size w w1) := ((Below.refl _ w).alloc (Nat.le_refl _) _).trans (hb1.mono (by simp))
    clear hb1
    go_wp2
    go_ret
    exact ⟨rfl, HB1.out⟩
  | true =>
    cases h2 : signedB p x y z with
    | false =>
      have HE : Hid (forkB p a b c x y z = false) := forkB_no fun k => by rw [h2] at k; cases k.2.1
      have H1 := Lib.hid h1
      have H2 := Lib.hid h2
      rw [HE.out]
      clear h1 h2
      go_enter Try.func14, Try.ntmps14
      go_wp2_with fail
      refine (scheck_any p a b c _).mono ?_
      rintro e w1 ⟨rfl, hb1⟩
      rw [H1.out]
      have hz1 : w.heap.size < w1.heap.size := by have := hb1.size; simp at this; omega
      have HK1 := Lib.hid ((Blk.new w 32 (forkC p a b c x y z)).below hb1 (by simp))
      obtain ⟨k0, k1, k2, k3, k4, k5, k6⟩ := fork_cells HK1.out
      have HB1 : Hid (Below w.heap.size w w1) := ((Below.refl _ w).alloc (Nat.le_refl _) _).trans (hb1.mono (by simp))
      clear hb1
      go_wp2_with fail
      refine (scheck_any p x y z _).mono ?_
      rintro e w2 ⟨rfl, hb2⟩
      rw [H2.out]
      have HB2 : Hid (Below w.heap.size w w2) := HB1.out.trans (hb2.mono HB1.out.size)
      clear hb2
      go_wp2
      go_ret
      exact ⟨rfl, HB2.out⟩
    | true =>
      have H1 := Lib.hid h1
      have H2 := Lib.hid h2
      clear h1 h2
      go_enter Try.func14, Try.ntmps14
      go_wp2_with fail
      refine (scheck_any p a b c _).mono ?_
      rintro e w1 ⟨rfl, hb1⟩
      rw [H1.out]
      have hz1 : w.heap.size < w1.heap.size := by have := hb1.size; simp at this; omega
      have HK1 := Lib.hid ((Blk.new w 32 (forkC p a b c x y z)).below hb1 (by simp))
      obtain ⟨k0, k1, k2, k3, k4, k5, k6⟩ := fork_cells HK1.out
      have HB1 : Hid (Below w.heap.size w w1) := ((Below.refl _ w).alloc (Nat.le_refl _) _).trans (hb1.mono (by simp))
      clear hb1
      go_wp2_with fail
      refine (scheck_any p x y z _).mono ?_
      rintro e w2 ⟨rfl, hb2⟩
      rw [H2.out]
      have HB2 : Hid (Below w.heap.size w w2) := HB1.out.trans (hb2.mono HB1.out.size)
      have HK2 := Lib.hid (HK1.out.below hb2 hz1)
      clear hb2 k0 k1 k2 k3 k4 k5 k6
      obtain ⟨k0, k1, k2, k3, k4, k5, k6⟩ := fork_cells HK2.out
      by_cases hl : a = x
      · subst hl
        by_cases hd : b = y
        · subst hd
          have HE : Hid (forkB p a b c a b z = false) := forkB_self p a b c z
          go_wp2
          go_ret
          rw [HE.out]
          exact ⟨rfl, HB2.out⟩
        · have HE : Hid (forkB p a b c a y z = true) := (forkB_iff _ _ _ _ _ _ _).2 ⟨H1.out, H2.out, rfl, hd⟩
          have hd1 : (b != y) = true := bne_iff_ne.2 hd
          go_wp2
          go_ret
          rw [HE.out]
          exact ⟨rfl, HB2.out⟩
      · have HE : Hid (forkB p a b c x y z = false) := forkB_no fun k => hl k.2.2.1
        have hd1 : (a == x) = false := beq_eq_false_iff_ne.2 hl
        go_wp2
        go_ret
        rw [HE.out]
        exact ⟨rfl, HB2.out⟩

end Go.Proofs.Ytkicfneikbiklaa
