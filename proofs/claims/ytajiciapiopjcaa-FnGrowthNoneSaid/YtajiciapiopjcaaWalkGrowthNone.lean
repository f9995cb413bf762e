/- The walk of FnGrowthNone: it returns true and changes nothing that was there. Condition: the codes' bytes lie in memory. -/
import Derived.Test.YtajiciapiopjcaaGrowCheck
import Derived.Test.YtajiciapiopjcaaGrowth
import Derived.Test.YtajiciapiopjcaaDrawDigest
import Derived.Test.YtajiciapiopjcaaOther
import Derived.Test.YtajiciapiopjcaaIn
namespace Go.Proofs.Ytajiciapiopjcaa
open Go.RowKit
set_option linter.unusedVariables false

set_option maxHeartbeats 4000000 in
set_option maxRecDepth 100000 in
theorem walkGrowthNone (A : Option Addr) (len cap : Nat) (A1 : Option Addr) (len1 cap1 : Nat) (w : World) (hI : In w A len cap) (hI1 : In w A1 len1 cap1) :
    Calls Try.prog 8 #[.slice A len cap, .slice A1 len1 cap1] w fun e w' => e = .returned (.bool true) ∧ Below w.heap.size w w' := by
  have hm := hI.len_le
  have hm1 := hI1.len_le
  have HM1 := Lib.hid hm1
  unfold maxLen at hm hm1
  have HI := Lib.hid hI
  clear hI hI1
  by_cases hlen : len ≤ 1048576
  · by_cases hlen1 : len1 ≤ 1048576
    · go_enter Try.func8, Try.ntmps8
      go_wp2_with fail
      refine (drawdigest_any A len cap _ HI.out).mono ?_
      rintro e w1 ⟨b, c, zs, rfl, hz28, hnear, hown1, hb1⟩
      have HO1 := Lib.hid hown1
      have HB1 := Lib.hid hb1
      have HNR := Lib.hid hnear
      clear hown1 hb1 hnear
      go_wp2_with fail
      refine (digest_any zs b 0 c _ HO1.out.ints HO1.out.le.1 HO1.out.le.2).mono ?_
      rintro e w2 ⟨rfl, hb2⟩
      have HB2 := Lib.hid hb2
      clear hb2
      go_wp2_with fail
      refine (sdigest_any zs b 0 c _ (HO1.out.below HB2.out).ints HO1.out.le.1 HO1.out.le.2).mono ?_
      rintro e w3 ⟨rfl, hb3⟩
      have HZ3 := Lib.hid ((HO1.out.below HB2.out).below hb3)
      have HB : Hid (Below w.heap.size w w3) := (HB1.out.trans (HB2.out.mono HB1.out.size)).trans (hb3.mono (Nat.le_trans HB1.out.size HB2.out.size))
      clear hb3
      rcases digestOr_cases zs with h | ⟨h16, hd, h, hz0, hz1⟩
      · rw [h]
        clear h
        go_wp2
        go_ret
        exact ⟨rfl, HB.out⟩
      · rw [h]
        have HD := Lib.hid hd
        obtain ⟨t, HT⟩ : ∃ t, Hid (digestZ zs = t) := ⟨_, rfl⟩
        rw [HT.out] at hz0 hz1 ⊢
        have hneg : decide (t < 0) = false := by simp; omega
        clear h hd hz28
        have HLV : Hid (leavesB zs = true) := leavesB_of h16 HD.out
        have HPZ : Hid (peaksOr zs = coverZ zs 0) := peaksOr_of h16 HD.out
        have hgz : growthZ zs zs.length = coverZ zs 0 := by
          unfold growthZ growthG
          rw [List.take_length]
          have : coverG pairZ 0 zs zs.length = [] := by
            unfold coverG places
            rw [placesGo_stop (by omega)]; rfl
          rw [this, List.append_nil]; rfl
        have hacc := growth_accept zs zs.length h16 (Nat.le_refl _) HD.out
        rw [List.take_length, hgz, HT.out, ← HPZ.out] at hacc
        obtain ⟨P, HP⟩ : ∃ P, Hid (peaksOr zs = P) := ⟨_, rfl⟩
        rw [HP.out] at hacc
        obtain ⟨y, HY⟩ : ∃ y, Hid (otherZ t ((len1 % 989 : Nat) : Int) = y) := ⟨_, rfl⟩
        have hyn : y ≠ t := by rw [← HY.out]; exact otherZ_ne t (len1 % 989)
        have hrej : growOkB (zs.length : Int) t (zs.length : Int) y P = false := by
          cases e : growOkB (zs.length : Int) t (zs.length : Int) y P with
          | false => rfl
          | true =>
            have hdp : Digs P := by rw [← HP.out, HPZ.out]; exact coverZ_digs zs 0 HD.out h16
            have h1 := growOkB_of h16 (Nat.le_refl _) hdp hacc
            have h2 := growOkB_of h16 (Nat.le_refl _) hdp e
            exact absurd (h2.2.2.symm.trans h1.2.2) hyn
        have HACC := Lib.hid hacc
        have HREJ := Lib.hid hrej
        have HC1 := Lib.hid HZ3.out.le.1
        have HC2 := Lib.hid HZ3.out.le.2
        have HLM : Hid (len1 % 989 ≤ maxLen) := by show _ ≤ _; unfold maxLen; omega
        clear hacc hrej hgz hyn
        go_wp2_with fail
        refine (peaks_any zs b 0 c _ HZ3.out.ints HC1.out HC2.out).mono ?_
        rintro e V ⟨A4, c4, rfl, hown4, hb4⟩
        rw [HP.out] at hown4 ⊢
        have HO4 := Lib.hid hown4
        have HBV : Hid (Below w.heap.size w V) := HB.out.trans (hb4.mono HB.out.size)
        clear hown4 hb4
        go_wp2_with fail
        refine (gcheck_any P _ _ _ _ A4 c4 _ HO4.out.ints HO4.out.le.1 HO4.out.le.2).mono ?_
        rintro e V1 ⟨rfl, hb5⟩
        rw [HACC.out]
        have HV1 := Lib.hid hb5
        clear hb5
        go_wp2_with fail
        rw [show ((len1 : Int) % 989) = ((len1 % 989 : Nat) : Int) from by omega]
        refine (other_any _ _ _ hz0 hz1 HLM.out).mono ?_
        rintro e w' ⟨rfl, rfl⟩
        rw [HY.out]
        go_wp2_with fail
        refine (gcheck_any P _ _ _ _ A4 c4 _ (HO4.out.below HV1.out).ints HO4.out.le.1 HO4.out.le.2).mono ?_
        rintro e V2 ⟨rfl, hb6⟩
        rw [HREJ.out]
        have HV2 : Hid (Below V.heap.size V V2) := HV1.out.trans (hb6.mono HV1.out.size)
        clear hb6
        go_wp2
        go_ret
        exact ⟨rfl, HBV.out.trans (HV2.out.mono HBV.out.size)⟩
    · have h9 : 1048576 < len1 := by omega
      clear hlen1
      go_enter Try.func8, Try.ntmps8
      go_wp2
      go_ret
      exact ⟨rfl, Below.refl _ _⟩
  · have h9 : 1048576 < len := by omega
    clear hlen
    go_enter Try.func8, Try.ntmps8
    go_wp2
    go_ret
    exact ⟨rfl, Below.refl _ _⟩

end Go.Proofs.Ytajiciapiopjcaa
