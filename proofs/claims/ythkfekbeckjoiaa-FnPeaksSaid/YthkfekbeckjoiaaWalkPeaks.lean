/- The walk of FnPeaks: it returns true and changes nothing that was there. Condition: the code's bytes lie in memory. -/
import Derived.Test.YthkfekbeckjoiaaPeaks
import Derived.Test.YthkfekbeckjoiaaPeakLaws
import Derived.Test.YthkfekbeckjoiaaDrawPeaks
import Derived.Test.YthkfekbeckjoiaaSame
import Derived.Test.YthkfekbeckjoiaaIn
namespace Go.Proofs.Ythkfekbeckjoiaa
open Go.RowKit
set_option linter.unusedVariables false

set_option maxHeartbeats 2000000 in
theorem walkPeaks (A : Option Addr) (len cap : Nat) (w : World) (hI : In w A len cap) :
    Calls Try.prog 3 #[.slice A len cap] w fun e w' => e = .returned (.bool true) ∧ Below w.heap.size w w' := by
  have hm := hI.len_le
  unfold maxLen at hm
  have HI := Lib.hid hI
  clear hI
  by_cases hlen : len ≤ 1048576
  · go_enter Try.func3, Try.ntmps3
    go_wp2_with fail
    refine (drawpeaks_any A len cap _ HI.out).mono ?_
    rintro e w1 ⟨b, c, zs, rfl, hz28, hnear, hown1, hb1⟩
    have HO1 := Lib.hid hown1
    have HB1 := Lib.hid hb1
    have HNR := Lib.hid hnear
    clear hown1 hb1 hnear
    go_wp2_with fail
    refine (peaks_any zs b 0 c _ HO1.out.ints HO1.out.le.1 HO1.out.le.2).mono ?_
    rintro e w2 ⟨A2, c2, rfl, hown2, hb2⟩
    have HO2 := Lib.hid hown2
    have HB2 := Lib.hid hb2
    clear hown2 hb2
    go_wp2_with fail
    refine (speaks_any zs b 0 c _ (HO1.out.below HB2.out).ints HO1.out.le.1 HO1.out.le.2).mono ?_
    rintro e w3 ⟨A3, c3, rfl, hown3, hb3⟩
    have HO3 := Lib.hid hown3
    have HB3 := Lib.hid hb3
    have HO2' := Lib.hid (HO2.out.below hb3)
    have HB : Hid (Below w.heap.size w w3) := (HB1.out.trans (HB2.out.mono HB1.out.size)).trans (hb3.mono (Nat.le_trans HB1.out.size HB2.out.size))
    clear hown3 hb3
    have hle2 := HO2.out.le
    have hle3 := HO3.out.le
    have HL2 := Lib.hid (Nat.le_trans hle2.1 hle2.2)
    clear hle2 hle3
    go_wp2_with fail
    refine (same_any A2 c2 _ A3 c3 _ _ HO2'.out.ints HO3.out.ints HL2.out HL2.out).mono ?_
    rintro e w' ⟨rfl, q, rfl⟩
    have hdec : decide (peaksOr zs = peaksOr zs) = true := by simp
    rw [hdec]
    by_cases h0 : (peaksOr zs).length = 0
    · have hb0 : (((peaksOr zs).length : Int) == 0) = true := by simp [h0]
      have HH := Lib.hid h0
      clear h0
      go_wp2_with fail
      refine (same_any A2 c2 _ A3 c3 _ _ (HO2'.out.drewN q).ints (HO3.out.drewN q).ints HL2.out HL2.out).mono ?_
      rintro e w' ⟨rfl, q2, rfl⟩
      go_wp2
      go_ret
      exact ⟨ret_bool hdec, below_drewN HB.out _⟩
    · have hb0 : (((peaksOr zs).length : Int) == 0) = false := by rw [beq_eq_false_iff_ne]; omega
      obtain ⟨h16, hd, he⟩ := peaksOr_yes (zs := zs) (by omega)
      have HE : Hid ((peaksOr zs).length = popGo 6 zs.length) := by show _ = _; rw [he]; exact pop_peaks zs h16
      obtain ⟨n, HN⟩ : ∃ n, Hid (zs.length = n) := ⟨_, rfl⟩
      obtain ⟨m, HM⟩ : ∃ m, Hid ((peaksOr zs).length = m) := ⟨_, rfl⟩
      rw [HN.out] at h16 ⊢
      rw [HM.out] at hb0 ⊢
      clear h0 he hd hz28 hdec
      go_wp2
      go_loop [6, 7] (fun x i => ∃ k f t : Nat, k ≤ 16 ∧ t ≤ 16 ∧ x = .int .i64 t ∧ i = .int .i64 k ∧ Hid (k < 2 ^ f) ∧ t + f ≤ 6 ∧ Hid (t + popGo f k = popGo 6 n)) (fun _ i => (intOf i).toNat)
      case atStart => exact ⟨n, 6, 0, by omega, by omega, rfl, rfl, (by show n < 2 ^ 6; omega), by omega, (by show 0 + popGo 6 n = _; omega)⟩
      case round =>
        obtain ⟨k, f, t, hk, ht, rfl, rfl, HF, htf, HT⟩ := hrel
        by_cases hk0 : 0 < k
        · obtain ⟨f, rfl⟩ : ∃ f', f = f' + 1 := by
            cases f with
            | zero => have := HF.out; simp at this; omega
            | succ f => exact ⟨f, rfl⟩
          have HT2 : Hid (t + k % 2 + popGo f (k / 2) = popGo 6 n) := by show _ = _; rw [← HT.out, popGo_step hk0]; omega
          have HF2 : Hid (k / 2 < 2 ^ f) := by show _ < _; have := HF.out; rw [Nat.pow_succ] at this; omega
          go_wp2
          go_round
          case rel => exact ⟨k / 2, f, t + k % 2, by omega, by omega, by go_num, by go_num, HF2, by omega, HT2⟩
          case measure => simp [intOf]; omega
        · have HT2 : Hid (t = m) := by show _ = _; have := HT.out; rw [popGo_stop hk0] at this; have h2 := HE.out; rw [HM.out, HN.out] at h2; omega
          have hb1 : ((t : Int) == (m : Int)) = true := by simp [HT2.out]
          go_wp2
          go_ret
          exact ⟨rfl, below_drewN HB.out q⟩
  · have h9 : 1048576 < len := by omega
    clear hlen
    go_enter Try.func3, Try.ntmps3
    go_wp2
    go_ret
    exact ⟨rfl, Below.refl _ _⟩

end Go.Proofs.Ythkfekbeckjoiaa
