/- The walk of FnTreeDigest: it returns true and changes nothing that was there. Condition: the codes' bytes lie in memory. -/
import Derived.Test.YthkfekbeckjoiaaPeaks
import Derived.Test.YthkfekbeckjoiaaPeakLaws
import Derived.Test.YthkfekbeckjoiaaDrawDigest
import Derived.Test.YthkfekbeckjoiaaPairs
import Derived.Test.YthkfekbeckjoiaaIn
namespace Go.Proofs.Ythkfekbeckjoiaa
open Go.RowKit
set_option linter.unusedVariables false

set_option maxHeartbeats 4000000 in
set_option maxRecDepth 100000 in
theorem walkTreeDigest (A : Option Addr) (len cap : Nat) (w : World) (hI : In w A len cap) :
    Calls Try.prog 6 #[.slice A len cap] w fun e w' => e = .returned (.bool true) ∧ Below w.heap.size w w' := by
  have hm := hI.len_le
  unfold maxLen at hm
  have HI := Lib.hid hI
  clear hI
  by_cases hlen : len ≤ 1048576
  · go_enter Try.func6, Try.ntmps6
    go_wp2_with fail
    refine (drawdigest_any A len cap _ HI.out).mono ?_
    rintro e w1 ⟨b, c, zs, rfl, hz28, hnear, hown1, hb1⟩
    have HO1 := Lib.hid hown1
    have HB1 := Lib.hid hb1
    have HNR := Lib.hid hnear
    clear hown1 hb1 hnear
    go_wp2_with fail
    refine (digest_any zs b 0 c _ HO1.out.ints HO1.out.le.1 HO1.out.le.2).mono ?_
    rintro e w2 ⟨rfl, hb2⟩
    have HB2 := Lib.hid hb2
    clear hb2
    go_wp2_with fail
    refine (sdigest_any zs b 0 c _ (HO1.out.below HB2.out).ints HO1.out.le.1 HO1.out.le.2).mono ?_
    rintro e w3 ⟨rfl, hb3⟩
    have HZ3 := Lib.hid ((HO1.out.below HB2.out).below hb3)
    have HB : Hid (Below w.heap.size w w3) := (HB1.out.trans (HB2.out.mono HB1.out.size)).trans (hb3.mono (Nat.le_trans HB1.out.size HB2.out.size))
    clear hb3
    rcases digestOr_cases zs with h | ⟨h16, hd, h, hz0, hz1⟩
    · rw [h]
      clear h
      go_wp2
      go_ret
      exact ⟨rfl, HB.out⟩
    · rw [h]
      have HD := Lib.hid hd
      obtain ⟨t, HT⟩ : ∃ t, Hid (digestZ zs = t) := ⟨_, rfl⟩
      rw [HT.out] at hz0 hz1 ⊢
      have hneg : decide (t < 0) = false := by simp; omega
      clear h hd hz28
      obtain ⟨n, HN⟩ : ∃ n, Hid (zs.length = n) := ⟨_, rfl⟩
      have HC1 := Lib.hid HZ3.out.le.1
      have HC2 := Lib.hid HZ3.out.le.2
      go_wp2_with fail
      refine (peaks_any zs b 0 c _ HZ3.out.ints HC1.out HC2.out).mono ?_
      rintro e w4 ⟨A4, c4, rfl, hown4, hb4⟩
      have HO4 := Lib.hid hown4
      have HB4 : Hid (Below w.heap.size w w4) := HB.out.trans (hb4.mono HB.out.size)
      clear hown4 hb4
      have HPE : Hid (peaksOr zs = coverZ zs 0) := peaksOr_of h16 HD.out
      rw [HPE.out] at HO4 ⊢
      obtain ⟨ps, HP⟩ : ∃ ps, Hid (coverZ zs 0 = ps) := ⟨_, rfl⟩
      rw [HP.out] at HO4 ⊢
      have hpd : Digs ps := by rw [← HP.out]; exact coverZ_digs zs 0 HD.out h16
      have HPD := Lib.hid hpd
      have HFT : Hid (foldZ n ps = t) := by show _ = _; rw [← HT.out, ← HP.out, ← HN.out]; rfl
      have HLE := HO4.out.le
      have hlm := Nat.le_trans HLE.1 HLE.2
      unfold maxLen at hlm
      obtain ⟨m, HM⟩ : ∃ m, Hid (ps.length = m) := ⟨_, rfl⟩
      rw [HM.out] at hlm ⊢
      rw [HN.out] at h16 ⊢
      clear hpd HLE
      go_wp2
      go_loop [6, 8] (fun x i => ∃ k : Nat, k ≤ m ∧ i = .int .i64 k ∧ x = .int .i64 (foldFrom n ps k)) (fun _ i => m - (intOf i).toNat)
      case atStart => exact ⟨0, Nat.zero_le _, rfl, rfl⟩
      case round =>
        obtain ⟨k, hk, rfl, rfl⟩ := hrel
        obtain ⟨hb0, hb1⟩ := foldFrom_bd n ps k (by omega) (by omega) (by rw [HM.out]; exact hk)
        by_cases hlt : k < m
        · have hlz : k < ps.length := by rw [HM.out]; exact hlt
          have HS := Lib.hid (foldFrom_step n ps k hlz)
          obtain ⟨hv0, hv1⟩ := HPD.out.at_ k hlz
          obtain ⟨b5, o5, rfl, hb5, hc⟩ := HO4.out.ints (by omega)
          have hck := hc k hlz
          have HPO := Lib.hid (pairOr_y ⟨hb0, hb1⟩ ⟨hv0, hv1⟩)
          clear hc hlz
          go_wp2_with fail
          refine (pair_any _ _ _).mono ?_
          rintro e w' ⟨rfl, rfl⟩
          rw [HPO.out]
          go_wp2
          go_round
          case rel => exact ⟨k + 1, by omega, by go_num, by rw [HS.out]⟩
          case measure => simp [intOf]; omega
        · have HEE : Hid (foldFrom n ps k = t) := by show _ = _; rw [← HFT.out]; unfold foldFrom; rw [List.take_of_length_le (by rw [HM.out]; omega)]
          rw [HEE.out]
          have hfin : (t == t) = true := by simp
          go_wp2
          go_ret
          exact ⟨ret_bool (by simp), HB4.out⟩
  · have h9 : 1048576 < len := by omega
    clear hlen
    go_enter Try.func6, Try.ntmps6
    go_wp2
    go_ret
    exact ⟨rfl, Below.refl _ _⟩

end Go.Proofs.Ythkfekbeckjoiaa
