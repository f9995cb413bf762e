/- The walk of FnPeaksPair: it returns true and changes nothing that was there. Condition: the codes' bytes lie in memory. -/
import Derived.Test.YthkfekbeckjoiaaPeaks
import Derived.Test.YthkfekbeckjoiaaPeakLaws
import Derived.Test.YthkfekbeckjoiaaDrawPeaks
import Derived.Test.YthkfekbeckjoiaaSame
import Derived.Test.YthkfekbeckjoiaaIn
import Derived.Deep.RegionHeld3
import Derived.Test.YthkfekbeckjoiaaPairs
namespace Go.Proofs.Ythkfekbeckjoiaa
open Go.RowKit
set_option linter.unusedVariables false

theorem alloc_cell {V : World} {a : Addr} {o : Obj} {v : Value} (h : V.cell? a = some v) : (V.alloc o).cell? a = some v := (World.cell?_alloc_lt V o a (World.block_lt_of_cell? V a h)).trans h

set_option maxHeartbeats 4000000 in
set_option maxRecDepth 100000 in
theorem walkPeaksPair (A : Option Addr) (len cap : Nat) (w : World) (hI : In w A len cap) :
    Calls Try.prog 5 #[.slice A len cap] w fun e w' => e = .returned (.bool true) ∧ Below w.heap.size w w' := by
  have hm := hI.len_le
  unfold maxLen at hm
  have HI := Lib.hid hI
  clear hI
  by_cases hlen : len ≤ 1048576
  · go_enter Try.func5, Try.ntmps5
    go_wp2_with fail
    refine (drawpeaks_any A len cap _ HI.out).mono ?_
    rintro e w1 ⟨b, c, zs, rfl, hz28, hnear, hown1, hb1⟩
    have HO1 := Lib.hid hown1
    have HB1 := Lib.hid hb1
    have HNR := Lib.hid hnear
    clear hown1 hb1 hnear
    go_wp2_with fail
    refine (peaks_any zs b 0 c _ HO1.out.ints HO1.out.le.1 HO1.out.le.2).mono ?_
    rintro e w2 ⟨A2, c2, rfl, hown2, hb2⟩
    have HO2 := Lib.hid hown2
    have HB2 := Lib.hid hb2
    clear hown2 hb2
    go_wp2_with fail
    refine (speaks_any zs b 0 c _ (HO1.out.below HB2.out).ints HO1.out.le.1 HO1.out.le.2).mono ?_
    rintro e w3 ⟨A3, c3, rfl, hown3, hb3⟩
    have HO3 := Lib.hid hown3
    have HO2' := Lib.hid (HO2.out.below hb3)
    have HZ3 := Lib.hid ((HO1.out.below HB2.out).below hb3)
    have HB : Hid (Below w.heap.size w w3) := (HB1.out.trans (HB2.out.mono HB1.out.size)).trans (hb3.mono (Nat.le_trans HB1.out.size HB2.out.size))
    clear hown3 hb3
    have HL2 := Lib.hid (Nat.le_trans HO2.out.le.1 HO2.out.le.2)
    go_wp2_with fail
    refine (same_any A2 c2 _ A3 c3 _ _ HO2'.out.ints HO3.out.ints HL2.out HL2.out).mono ?_
    rintro e w' ⟨rfl, q, rfl⟩
    have hdec : decide (peaksOr zs = peaksOr zs) = true := by simp
    rw [hdec]
    by_cases h2 : zs.length < 2
    · have h2' : (zs.length : Int) < 2 := by omega
      go_wp2_with fail
      refine (same_any A2 c2 _ A3 c3 _ _ (HO2'.out.drewN q).ints (HO3.out.drewN q).ints HL2.out HL2.out).mono ?_
      rintro e w' ⟨rfl, q2, rfl⟩
      go_wp2
      go_ret
      exact ⟨ret_bool hdec, below_drewN HB.out _⟩
    · have h2' : ¬ (zs.length : Int) < 2 := by omega
      by_cases h0 : (peaksOr zs).length = 0
      · have hb0 : (((peaksOr zs).length : Int) == 0) = true := by simp [h0]
        have HH := Lib.hid h0
        clear h0
        go_wp2_with fail
        refine (same_any A2 c2 _ A3 c3 _ _ (HO2'.out.drewN q).ints (HO3.out.drewN q).ints HL2.out HL2.out).mono ?_
        rintro e w' ⟨rfl, q2, rfl⟩
        go_wp2
        go_ret
        exact ⟨ret_bool hdec, below_drewN HB.out _⟩
      · have hb0 : (((peaksOr zs).length : Int) == 0) = false := by rw [beq_eq_false_iff_ne]; omega
        obtain ⟨h16, hd, he⟩ := peaksOr_yes (zs := zs) (by omega)
        have HD := Lib.hid hd
        have HE := Lib.hid he
        clear h0 he hd hz28
        obtain ⟨n, HN⟩ : ∃ n, Hid (zs.length = n) := ⟨_, rfl⟩
        have hn2 : 2 ≤ n := by rw [← HN.out]; omega
        have HCA := Lib.hid HO1.out.le.1
        have hca : zs.length ≤ c := HO1.out.le.1
        have HCB := Lib.hid HO1.out.le.2
        have hv0 := HD.out.at_ 0 (by omega)
        have hv1 := HD.out.at_ 1 (by omega)
        have hl2 : (zs.take 2).length = 2 := by rw [List.length_take]; omega
        have hl1 : (zs.take 1).length = 1 := by rw [List.length_take]; omega
        have e2 : peaksOr (zs.take 2) = [pairZ (nth zs 0) (nth zs 1)] := by
          rw [peaksOr_of (by omega) (HD.out.take 2), cover_two _ hl2]
          have a0 : nth (zs.take 2) 0 = nth zs 0 := by unfold nth; rw [List.getD_eq_getElem?_getD, List.getD_eq_getElem?_getD, List.getElem?_take_of_lt (by omega)]
          have a1 : nth (zs.take 2) 1 = nth zs 1 := by unfold nth; rw [List.getD_eq_getElem?_getD, List.getD_eq_getElem?_getD, List.getElem?_take_of_lt (by omega)]
          rw [a0, a1]
        have e1 : peaksOr (zs.take 1) = zs.take 1 := by rw [peaksOr_of (by omega) (HD.out.take 1), cover_one _ hl1]
        have HZ := Lib.hid (HZ3.out.drewN q)
        have HF : Hid (Below w.heap.size w (w3.drewN q)) := below_drewN HB.out q
        obtain ⟨W, HW⟩ : ∃ W, Hid (w3.drewN q = W) := ⟨_, rfl⟩
        rw [HW.out] at HF HZ ⊢
        obtain ⟨u, HU⟩ : ∃ u, Hid (pairZ (nth zs 0) (nth zs 1) = u) := ⟨_, rfl⟩
        rw [HU.out] at e2
        have HPO := Lib.hid (pairOr_y hv0 hv1)
        have C1 : Hid (∀ V : World, Below W.heap.size W V → Calls Try.prog 13 #[.slice (some ⟨b, 0, none⟩) 2 c] V (RetInts V [u])) := fun V hV => by
          have := peaks_any (zs.take 2) b 0 c V ((HZ.out.below hV).ints.first 2) (by omega) HCB.out
          rw [hl2, e2] at this
          exact this
        have C3 : Hid (∀ V : World, Below W.heap.size W V → Calls Try.prog 13 #[.slice (some ⟨b, 0, none⟩) 1 c] V (RetInts V (zs.take 1))) := fun V hV => by
          have := peaks_any (zs.take 1) b 0 c V ((HZ.out.below hV).ints.first 1) (by omega) HCB.out
          rw [hl1, e1] at this
          exact this
        have C2 : Hid (∀ V : World, Calls Try.prog 16 #[.int .i64 (nth zs 0), .int .i64 (nth zs 1)] V fun e w' => e = .returned (.int .i64 u) ∧ V = w') := fun V => by
          have := pair_any (nth zs 0) (nth zs 1) V
          rw [HPO.out, HU.out] at this
          exact this
        have S1 : Hid (∀ (V : World) (A5 : Option Addr) (c5 g5 : Nat), IntsAt V V.heap.size A5 [u] → IntsAt V V.heap.size (some ⟨g5, 0, none⟩) [u] → Calls Try.prog 15 #[.slice A5 1 c5, .slice (some ⟨g5, 0, none⟩) 1 1] V fun e w' => e = .returned (.bool true) ∧ ∃ q, w' = V.drewN q) := fun V A5 c5 g5 ha hb => by
          have := same_any A5 c5 [u] (some ⟨g5, 0, none⟩) 1 [u] V ha hb (by simp [maxLen]) (by simp [maxLen])
          simpa using this
        have S2 : Hid (∀ (V : World) (A7 : Option Addr) (c7 : Nat), IntsAt V V.heap.size A7 (zs.take 1) → IntsAt V V.heap.size (some ⟨b, 0, none⟩) (zs.take 1) → Calls Try.prog 15 #[.slice A7 1 c7, .slice (some ⟨b, 0, none⟩) 1 c] V fun e w' => e = .returned (.bool true) ∧ ∃ q, w' = V.drewN q) := fun V A7 c7 ha hb => by
          have := same_any A7 c7 (zs.take 1) (some ⟨b, 0, none⟩) c (zs.take 1) V ha hb (by rw [hl1]; simp [maxLen]) (by rw [hl1]; simp [maxLen])
          rw [hl1] at this
          simpa using this
        have k0 : W.cell? ⟨b, 0, none⟩ = some (.int .i64 (nth zs 0)) := by
          have h1 := (HZ.out.ints.lt (by omega)).2 0 (by omega)
          rw [Nat.zero_add] at h1
          exact h1
        have k1 : W.cell? ⟨b, 1, none⟩ = some (.int .i64 (nth zs 1)) := by
          have h1 := (HZ.out.ints.lt (by omega)).2 1 (by omega)
          rw [Nat.zero_add] at h1
          exact h1
        have k0d : W.drew.cell? ⟨b, 0, none⟩ = some (.int .i64 (nth zs 0)) := k0
        have k1d : W.drew.cell? ⟨b, 1, none⟩ = some (.int .i64 (nth zs 1)) := k1
        have HL1 := Lib.hid hl1
        have hbw := (HZ.out.ints.lt (by omega)).1
        have hci : (n : Int) ≤ (c : Int) := by have := HN.out; omega
        have hni : (2 : Int) ≤ (n : Int) := by omega
        have hci2 : (2 : Int) ≤ (c : Int) := by omega
        have hc2 : 2 ≤ c := by omega
        have hn2' : ¬ (n : Int) < 2 := by omega
        have hi00 : 0 < n := by omega
        have hi01 : (0 : Int) < (n : Int) := by omega
        have hi10 : 1 < n := by omega
        have hi11 : (1 : Int) < (n : Int) := by omega
        have hi20 : 1 ≤ c := by omega
        have hi21 : (1 : Int) ≤ (c : Int) := by omega
        rw [HN.out]
        rw [HN.out] at h2'
        clear e1 e2 hl1 hl2 hca h16 h2
        go_wp2_with fail
        go_region_held3 (fun w' => w'.cell? ⟨b, 0, none⟩ = some (.int .i64 (nth zs 0)) ∧ w'.cell? ⟨b, 1, none⟩ = some (.int .i64 (nth zs 1)))
          (first | (with_reducible exact ⟨k0, k1⟩) | (with_reducible exact ⟨k0d, k1d⟩) | (with_reducible exact ⟨l0, l1⟩) | (with_reducible exact ⟨alloc_cell l0, alloc_cell l1⟩) | (with_reducible exact ⟨m0, m1⟩) | (with_reducible exact ⟨n0, n1⟩) | (with_reducible exact ⟨r0, r1⟩))
          (first
            | (go_at_call 13; (with_reducible refine (C1.out W.drew (below_drew (Below.refl _ _))).mono ?_); rintro e w5 ⟨A5, c5, rfl, hown5, hb5⟩; have HO5 := Lib.hid hown5; have HB5 : Hid (Below W.heap.size W w5) := below_drew_l hb5; have l0 : w5.cell? ⟨b, 0, none⟩ = some (.int .i64 (nth zs 0)) := ((HB5.out.cell (p := ⟨b, 0, none⟩) hbw).trans k0); have l1 : w5.cell? ⟨b, 1, none⟩ = some (.int .i64 (nth zs 1)) := ((HB5.out.cell (p := ⟨b, 1, none⟩) hbw).trans k1); clear hown5 hb5)
            | (go_at_call 16; (with_reducible refine (C2.out _).mono ?_); rintro e w' ⟨rfl, rfl⟩)
            | (go_at_call 15; (with_reducible refine (S1.out _ A5 c5 w5.heap.size (HO5.out.ints.allocS _) (one_new w5 u)).mono ?_); rintro e w' ⟨rfl, q6, rfl⟩; have HB6 : Hid (Below W.heap.size W ((w5.alloc (.cells #[.int .i64 u] 3)).drewN q6)) := below_drewN (HB5.out.alloc HB5.out.size _) q6; have m0 : ((w5.alloc (.cells #[.int .i64 u] 3)).drewN q6).cell? ⟨b, 0, none⟩ = some (.int .i64 (nth zs 0)) := ((HB6.out.cell (p := ⟨b, 0, none⟩) hbw).trans k0); have m1 : ((w5.alloc (.cells #[.int .i64 u] 3)).drewN q6).cell? ⟨b, 1, none⟩ = some (.int .i64 (nth zs 1)) := ((HB6.out.cell (p := ⟨b, 1, none⟩) hbw).trans k1))
            | (go_at_call 13; (with_reducible refine (C3.out _ HB6.out).mono ?_); rintro e w7 ⟨A7, c7, rfl, hown7, hb7⟩; have HO7 := Lib.hid hown7; have HB7 : Hid (Below W.heap.size W w7) := HB6.out.trans (hb7.mono HB6.out.size); have n0 : w7.cell? ⟨b, 0, none⟩ = some (.int .i64 (nth zs 0)) := ((HB7.out.cell (p := ⟨b, 0, none⟩) hbw).trans k0); have n1 : w7.cell? ⟨b, 1, none⟩ = some (.int .i64 (nth zs 1)) := ((HB7.out.cell (p := ⟨b, 1, none⟩) hbw).trans k1); clear hown7 hb7; rw [HL1.out])
            | (go_at_call 15; (with_reducible refine (S2.out _ A7 c7 HO7.out.ints ((HZ.out.below HB7.out).ints.first 1)).mono ?_); rintro e w' ⟨rfl, q8, rfl⟩; have r0 : (w7.drewN q8).cell? ⟨b, 0, none⟩ = some (.int .i64 (nth zs 0)) := n0; have r1 : (w7.drewN q8).cell? ⟨b, 1, none⟩ = some (.int .i64 (nth zs 1)) := n1))
        go_wp2
        go_ret
        exact ⟨rfl, below_drewN (HF.out.trans (HB7.out.mono HF.out.size)) _⟩
  · have h9 : 1048576 < len := by omega
    clear hlen
    go_enter Try.func5, Try.ntmps5
    go_wp2
    go_ret
    exact ⟨rfl, Below.refl _ _⟩

end Go.Proofs.Ythkfekbeckjoiaa
