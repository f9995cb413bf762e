/- The walk of FnForkNone: it returns true and changes nothing that was there. Condition: the code's bytes lie in memory. -/
import Derived.Test.YtheonknahkdfkaaDrawFork
import Derived.Test.YtheonknahkdfkaaNamed
import Derived.Test.YtheonknahkdfkaaSame
namespace Go.Proofs.Ytheonknahkdfkaa
open Go.RowKit
set_option linter.unusedVariables false

theorem fork_row (r : KD) {W : World} {g : Nat} (h : Blk W g 32 (forkC r.p r.a r.b r.c r.x r.y r.z)) : RowAt KK W W.heap.size (some ⟨g, 0, none⟩) [r] := fun _ => ⟨g, 0, rfl, h.lt, fun j x hj i v hv => by
  cases j with
  | zero =>
    simp only [List.getElem?_cons_zero, Option.some.injEq] at hj
    subst hj
    rw [show 0 + 0 * KK.k + i = i by omega, h.cell i]
    simpa [KK] using hv
  | succ j => simp at hj⟩
theorem int_row {W : World} {g : Nat} {p : Int} (h : Blk W g 3 #[.int .i64 p]) : IntsAt W W.heap.size (some ⟨g, 0, none⟩) [p] := fun _ => ⟨g, 0, rfl, h.lt, fun k hk => by
  obtain rfl : k = 0 := by simpa using hk
  exact h.cell 0⟩
theorem named_zero (A : Option Addr) (c : Nat) (U : World) :
    Calls Try.prog 8 #[.slice A 0 c] U fun e w' => e = .returned (.slice none 0 0) ∧ Below U.heap.size U w' := by
  refine (named_any A c [] U RowAt.nil (by simp)).mono ?_
  rintro e w' ⟨v, ss, rfl, hS, _, hnil, hb⟩
  have : ss = [] := List.Perm.eq_nil hS
  rw [hnil.2 this]
  exact ⟨rfl, hb⟩
theorem named_no (r : KD) (g c : Nat) (U : World) (h : Blk U g 32 (forkC r.p r.a r.b r.c r.x r.y r.z)) (hok : okK r = false) :
    Calls Try.prog 8 #[.slice (some ⟨g, 0, none⟩) 1 c] U fun e w' => e = .returned (.slice none 0 0) ∧ Below U.heap.size U w' := by
  refine (named_any (some ⟨g, 0, none⟩) c [r] U (fork_row r h) (by simp)).mono ?_
  rintro e w' ⟨v, ss, rfl, hS, _, hnil, hb⟩
  have e1 : namedD [r] = .map [] := by unfold namedD; rw [List.foldl_cons, List.foldl_nil, hok]; rfl
  rw [e1] at hS
  have : ss = [] := List.Perm.eq_nil hS
  rw [hnil.2 this]
  exact ⟨rfl, hb⟩
theorem named_yes (r : KD) (g c : Nat) (U : World) (h : Blk U g 32 (forkC r.p r.a r.b r.c r.x r.y r.z)) (hok : okK r = true) :
    Calls Try.prog 8 #[.slice (some ⟨g, 0, none⟩) 1 c] U fun e w' => ∃ g' c', e = .returned (.slice (some ⟨g', 0, none⟩) 1 c') ∧ OwnInts w' U.heap.size (some ⟨g', 0, none⟩) c' [r.p] ∧ Below U.heap.size U w' := by
  refine (named_any (some ⟨g, 0, none⟩) c [r] U (fork_row r h) (by simp)).mono ?_
  rintro e w' ⟨v, ss, rfl, hS, hrow, hnil, hb⟩
  have e1 : namedD [r] = (DataW.map []).put (.int .i64 r.p) (.lit (.bool true)) := by unfold namedD; rw [List.foldl_cons, List.foldl_nil, hok]; rfl
  rw [e1] at hS
  have e2 : ss = [r.p] := List.perm_singleton.1 hS
  subst e2
  rw [show [r.p].mergeSort (fun x y => decide (x ≤ y)) = [r.p] from by simp] at hrow
  obtain ⟨g', c', hv, _, _⟩ := World.ownsRow.form hrow (by simp)
  subst hv
  exact ⟨g', c', rfl, hrow, hb⟩

set_option maxHeartbeats 4000000 in
set_option maxRecDepth 100000 in
theorem walkForkNone (A : Option Addr) (len cap : Nat) (w : World) (hI : In w A len cap) :
    Calls Try.prog 4 #[.slice A len cap] w fun e w' => e = .returned (.bool true) ∧ Below w.heap.size w w' := by
  have hm := hI.len_le
  unfold maxLen at hm
  have HI := Lib.hid hI
  clear hI
  by_cases hlen : len ≤ 1048576
  · go_enter Try.func4, Try.ntmps4
    go_wp2_with fail
    refine (drawForkCheck_any A len cap _ HI.out).mono ?_
    rintro e w1 ⟨p, a, b, c, x, y, z, rfl, hb1⟩
    have HB1 := Lib.hid hb1
    clear hb1
    obtain ⟨V, HV⟩ : ∃ V, Hid (w1.alloc (.cells (forkC p a b c x y z) 32) = V) := ⟨_, rfl⟩
    have HBV : Hid (Below w1.heap.size w1 V) := by rw [← HV.out]; exact (Below.refl _ w1).alloc (Nat.le_refl _) _
    have KV : Hid (Blk V w1.heap.size 32 (forkC p a b c x y z)) := by rw [← HV.out]; exact Blk.new w1 _ _
    have CV : Hid (∀ U, Calls Try.prog 11 #[forkV p a b c x y z] U fun e w' => e = .returned (.bool (forkB p a b c x y z)) ∧ Below U.heap.size U w') := forkCheck_any p a b c x y z
    have CS : Hid (∀ U, Calls Try.prog 14 #[forkV p a b c x y z] U fun e w' => e = .returned (.bool (forkB p a b c x y z)) ∧ Below U.heap.size U w') := sforkCheck_any p a b c x y z
    obtain ⟨R, HR⟩ : ∃ R, Hid (forkB p a b c x y z = R) := ⟨_, rfl⟩
    rw [HR.out] at CV CS
    go_wp2_with fail
    rw [HV.out]
    refine (CV.out _).mono ?_
    rintro e w2 ⟨rfl, hb2⟩
    have K2 := Lib.hid (KV.out.below hb2 KV.out.lt)
    have HB2 : Hid (Below w1.heap.size w1 w2) := HBV.out.trans (hb2.mono HBV.out.size)
    obtain ⟨k0, k1, k2, k3, k4, k5, k6⟩ := fork_cells K2.out
    clear hb2
    go_wp2_with fail
    refine (CS.out _).mono ?_
    rintro e w3 ⟨rfl, hb3⟩
    have K3 := Lib.hid (K2.out.below hb3 K2.out.lt)
    have HB3 : Hid (Below w1.heap.size w1 w3) := HB2.out.trans (hb3.mono HB2.out.size)
    have HB3w : Hid (Below w.heap.size w w3) := HB1.out.trans (HB3.out.mono HB1.out.size)
    have hz3 : w1.heap.size < w3.heap.size := K3.out.lt
    clear hb3 k0 k1 k2 k3 k4 k5 k6
    obtain ⟨k0, k1, k2, k3, k4, k5, k6⟩ := fork_cells K3.out
    have hRR : (R != R) = false := by simp
    obtain ⟨U, HU⟩ : ∃ U, Hid (w3.alloc (.cells (forkC p a b c x y z) 32) = U) := ⟨_, rfl⟩
    have KU : Hid (Blk U w1.heap.size 32 (forkC p a b c x y z)) := by rw [← HU.out]; exact K3.out.alloc _
    have LU : Hid (Blk U w3.heap.size 32 (forkC p a b c x y z)) := by rw [← HU.out]; exact Blk.new w3 _ _
    have HBU : Hid (Below w.heap.size w U) := by rw [← HU.out]; exact HB3w.out.alloc HB3w.out.size _
    cases hR : R with
    | false =>
      subst hR
      have CN := Lib.hid (named_no ⟨p, a, b, c, x, y, z⟩ w3.heap.size 1 U LU.out HR.out)
      go_wp2_with fail
      rw [HU.out]
      refine CN.out.mono ?_
      rintro e w4 ⟨rfl, hb4⟩
      have HB4 : Hid (Below w.heap.size w w4) := HBU.out.trans (hb4.mono HBU.out.size)
      clear hb4 k0 k1 k2 k3 k4 k5 k6
      go_wp2_with fail
      refine (named_zero _ _ _).mono ?_
      rintro e w5 ⟨rfl, hb5⟩
      have HB5 : Hid (Below w.heap.size w w5) := by
        first
          | exact HB4.out.trans (hb5.mono HB4.out.size)
          | exact (HB4.out.alloc HB4.out.size _).trans (hb5.mono (HB4.out.alloc HB4.out.size _).size)
      clear hb5
      go_wp2
      go_ret
      exact ⟨rfl, HB5.out⟩
    | true =>
      subst hR
      have CN := Lib.hid (named_yes ⟨p, a, b, c, x, y, z⟩ w3.heap.size 1 U LU.out HR.out)
      go_wp2_with fail
      rw [HU.out]
      refine CN.out.mono ?_
      rintro e w4 ⟨g', c', rfl, ho4, hb4⟩
      have K4 := Lib.hid (KU.out.below hb4 KU.out.lt)
      have HO4 := Lib.hid ho4
      have HB4 : Hid (Below w.heap.size w w4) := HBU.out.trans (hb4.mono HBU.out.size)
      clear hb4 ho4 k0 k1 k2 k3 k4 k5 k6
      go_wp2_with fail
      refine (named_zero _ _ _).mono ?_
      rintro e w5 ⟨rfl, hb5⟩
      have hb45 : Below w4.heap.size w4 w5 := by
        first
          | exact hb5
          | exact ((Below.refl _ w4).alloc (Nat.le_refl _) _).trans (hb5.mono (by simp))
      have K5 := Lib.hid (K4.out.below hb45 K4.out.lt)
      have HO5 := Lib.hid (HO4.out.below hb45)
      have HB5 : Hid (Below w.heap.size w w5) := HB4.out.trans (hb45.mono HB4.out.size)
      have hz5 : w1.heap.size < w5.heap.size := K5.out.lt
      clear hb5 hb45
      obtain ⟨k0, k1, k2, k3, k4, k5, k6⟩ := fork_cells K5.out
      obtain ⟨Y, HY⟩ : ∃ Y, Hid (w5.alloc (.cells #[.int .i64 p] 3) = Y) := ⟨_, rfl⟩
      have LY : Hid (Blk Y w5.heap.size 3 #[.int .i64 p]) := by rw [← HY.out]; exact Blk.new w5 _ _
      have HOY : Hid (OwnInts Y U.heap.size (some ⟨g', 0, none⟩) c' [p]) := by rw [← HY.out]; exact HO5.out.alloc _
      have HBY : Hid (Below w.heap.size w Y) := by rw [← HY.out]; exact HB5.out.alloc HB5.out.size _
      have CE : Hid (Calls Try.prog 10 #[.slice (some ⟨g', 0, none⟩) 1 c', .slice (some ⟨w5.heap.size, 0, none⟩) 1 1] Y fun e w' => e = .returned (.bool true) ∧ ∃ q, w' = Y.drewN q) := by
        have h := same_any (some ⟨g', 0, none⟩) c' [p] (some ⟨w5.heap.size, 0, none⟩) 1 [p] Y HOY.out.ints (int_row LY.out) (by unfold maxLen; simp) (by unfold maxLen; simp)
        rw [decide_eq_true rfl] at h
        exact h
      go_wp2_with fail
      rw [HY.out]
      refine CE.out.mono ?_
      rintro e w6 ⟨rfl, q, rfl⟩
      go_wp2
      go_ret
      exact ⟨rfl, below_drewN HBY.out _⟩
  · have h9 : 1048576 < len := by omega
    clear hlen
    go_enter Try.func4, Try.ntmps4
    go_wp2
    go_ret
    exact ⟨rfl, Below.refl _ _⟩

end Go.Proofs.Ytheonknahkdfkaa
