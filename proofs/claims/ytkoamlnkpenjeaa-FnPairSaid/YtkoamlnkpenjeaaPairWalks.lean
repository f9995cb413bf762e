/- The walks of FnPairOrder and FnPair: each returns true and changes nothing that was there. Condition: the codes' bytes lie in memory. -/
import Derived.Test.YtkoamlnkpenjeaaDrawPair
import Derived.Test.YtkoamlnkpenjeaaIn
namespace Go.Proofs.Ytkoamlnkpenjeaa
open Go.RowKit

theorem pairOr_cases (a b : Int) : (pairOr a b = -1) ∨ ((0 ≤ a ∧ a < 991) ∧ (0 ≤ b ∧ b < 991) ∧ pairOr a b = pairZ a b) := by
  unfold pairOr
  split
  · rename_i h; exact .inr ⟨h.1, h.2, rfl⟩
  · exact .inl rfl

set_option maxHeartbeats 1000000 in
theorem walkPairOrder (A : Option Addr) (len cap : Nat) (w : World) (hI : In w A len cap) :
    Calls Try.prog 7 #[.slice A len cap] w fun e w' => e = .returned (.bool true) ∧ Below w.heap.size w w' := by
  have hm : len ≤ maxLen := Nat.le_trans hI.le hI.most
  unfold maxLen at hm
  have HI := Lib.hid hI
  clear hI
  by_cases hlen : len ≤ 1048576
  · go_enter Try.func7, Try.ntmps7
    go_wp2_with fail
    refine (drawpair_any A len cap _ HI.out).mono ?_
    rintro e w1 ⟨a, b, ha1, ha2, hb1, hb2, rfl, hbel⟩
    have HB := Lib.hid hbel
    clear hbel
    go_wp2_with fail
    refine (pair_any _ _ _).mono ?_
    rintro e w' ⟨rfl, rfl⟩
    go_wp2_with fail
    refine (spair_any _ _ _).mono ?_
    rintro e w' ⟨rfl, rfl⟩
    rcases pairOr_cases a b with h | ⟨ha, hb, h⟩
    · rw [h]
      go_wp2
      go_ret
      exact ⟨rfl, HB.out⟩
    · have hbd := pairZ_bd a b
      have hsw := pairZ_swap a b ha hb
      have hyy := pairOr_y hb ha
      rw [h]
      obtain ⟨t, ht⟩ : ∃ t, pairZ a b = t := ⟨_, rfl⟩
      obtain ⟨u, hu⟩ : ∃ u, pairZ b a = u := ⟨_, rfl⟩
      rw [ht] at hbd hsw ⊢
      rw [hu] at hsw hyy
      have HU := Lib.hid hyy
      have HF : Hid ((u == t) = (a == b)) := by
        show (u == t) = (a == b)
        by_cases hab : a = b
        · subst hab; rw [hu] at ht; subst ht; simp
        · have h1 : (u == t) = false := by simpa using (fun e => hab (hsw e))
          have h2 : (a == b) = false := by simpa using hab
          rw [h1, h2]
      have hbd0 := hbd.1
      have hd : decide (t < 0) = false := by simp; omega
      clear hsw hyy hbd h ha hb ht hu
      go_wp2_with fail
      refine (pair_any _ _ _).mono ?_
      rintro e w' ⟨rfl, rfl⟩
      rw [HU.out]
      go_wp2
      go_ret
      exact ⟨ret_bool (by rw [HF.out]; simp), HB.out⟩
  · have h9 : 1048576 < len := by omega
    clear hlen
    go_enter Try.func7, Try.ntmps7
    go_wp2
    go_ret
    exact ⟨rfl, Below.refl _ _⟩

set_option maxHeartbeats 1000000 in
theorem walkPair (A : Option Addr) (len cap : Nat) (A1 : Option Addr) (len1 cap1 : Nat) (w : World) (hI : In w A len cap) (hI1 : In w A1 len1 cap1) :
    Calls Try.prog 5 #[.slice A len cap, .slice A1 len1 cap1] w fun e w' => e = .returned (.bool true) ∧ Below w.heap.size w w' := by
  have hm := hI.len_le
  have hm1 := hI1.len_le
  have HM1 := Lib.hid hm1
  unfold maxLen at hm hm1
  have HI := Lib.hid hI
  clear hI hI1
  by_cases hlen : len ≤ 1048576
  · by_cases hlen1 : len1 ≤ 1048576
    · go_enter Try.func5, Try.ntmps5
      go_wp2_with fail
      refine (drawpair_any A len cap _ HI.out).mono ?_
      rintro e w1 ⟨a, b, ha1, ha2, hb1, hb2, rfl, hbel⟩
      have HB := Lib.hid hbel
      clear hbel
      go_wp2_with fail
      refine (pair_any _ _ _).mono ?_
      rintro e w' ⟨rfl, rfl⟩
      go_wp2_with fail
      refine (spair_any _ _ _).mono ?_
      rintro e w' ⟨rfl, rfl⟩
      rcases pairOr_cases a b with h | ⟨ha, hb, h⟩
      · rw [h]
        go_wp2
        go_ret
        exact ⟨rfl, HB.out⟩
      · have hbd := pairZ_bd a b
        have hxb := otherZ_bd a len1
        have hyb := otherZ_bd b len1
        have hxn := otherZ_ne a len1
        have hyn := otherZ_ne b len1
        have h1 : pairOr (otherZ a len1) b ≠ pairZ a b := by
          rw [pairOr_y hxb hb]; exact fun e => hxn (pairZ_left _ _ _ ha hxb e)
        have h2 : pairOr a (otherZ b len1) ≠ pairZ a b := by
          rw [pairOr_y ha hyb]; exact fun e => hyn (pairZ_right _ _ _ hb hyb e)
        rw [h]
        obtain ⟨t, ht⟩ : ∃ t, pairZ a b = t := ⟨_, rfl⟩
        rw [ht] at hbd h1 h2 ⊢
        have hbd0 := hbd.1
        have hd : decide (t < 0) = false := by simp; omega
        obtain ⟨ha3, ha4⟩ := ha
        obtain ⟨hb3, hb4⟩ := hb
        clear hbd h ht
        go_wp2_with fail
        refine (other_any _ _ _ (by omega) (by omega) HM1.out).mono ?_
        rintro e w' ⟨rfl, rfl⟩
        go_wp2_with fail
        refine (other_any _ _ _ (by omega) (by omega) HM1.out).mono ?_
        rintro e w' ⟨rfl, rfl⟩
        obtain ⟨x, hx⟩ : ∃ x, otherZ a len1 = x := ⟨_, rfl⟩
        obtain ⟨y, hy⟩ : ∃ y, otherZ b len1 = y := ⟨_, rfl⟩
        rw [hx] at hxb hxn h1 ⊢
        rw [hy] at hyb hyn h2 ⊢
        obtain ⟨u, hu⟩ : ∃ u, pairOr x b = u := ⟨_, rfl⟩
        obtain ⟨v, hv⟩ : ∃ v, pairOr a y = v := ⟨_, rfl⟩
        rw [hu] at h1
        rw [hv] at h2
        have HU := Lib.hid hu
        have HV := Lib.hid hv
        have hxf : (x == a) = false := by simpa using hxn
        have hyf : (y == b) = false := by simpa using hyn
        have huf : (u != t) = true := by simpa using h1
        have hvf : (v != t) = true := by simpa using h2
        clear hx hy hxb hyb hxn hyn h1 h2 hu hv
        go_wp2_with fail
        refine (pair_any _ _ _).mono ?_
        rintro e w' ⟨rfl, rfl⟩
        rw [HU.out]
        go_wp2_with fail
        refine (pair_any _ _ _).mono ?_
        rintro e w' ⟨rfl, rfl⟩
        rw [HV.out]
        go_wp2
        go_ret
        exact ⟨rfl, HB.out⟩
    · have h9 : 1048576 < len1 := by omega
      clear hlen1
      go_enter Try.func5, Try.ntmps5
      go_wp2
      go_ret
      exact ⟨rfl, Below.refl _ _⟩
  · have h9 : 1048576 < len := by omega
    clear hlen
    go_enter Try.func5, Try.ntmps5
    go_wp2
    go_ret
    exact ⟨rfl, Below.refl _ _⟩

end Go.Proofs.Ytkoamlnkpenjeaa
