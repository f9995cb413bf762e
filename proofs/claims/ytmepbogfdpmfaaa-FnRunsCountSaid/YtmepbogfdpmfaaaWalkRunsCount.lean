/- The walk of FnRunsCount: it returns true and changes nothing that was there. Condition: the code's bytes lie in memory. -/
import Derived.Test.YtmepbogfdpmfaaaRunsLaws
import Derived.Test.YtmepbogfdpmfaaaDrawBits
import Derived.Test.YtmepbogfdpmfaaaExactKeep
import Derived.Test.YtmepbogfdpmfaaaSame
import Derived.Deep.QuietTactic
import Derived.BigQuiet
import Derived.IntWalk
namespace Go.Proofs.Ytmepbogfdpmfaaa
open Go.RowKit
set_option linter.unusedVariables false

set_option maxHeartbeats 4000000 in
set_option maxRecDepth 100000 in
theorem walkRunsCount (A : Option Addr) (len cap : Nat) (w : World) (hI : In w A len cap) :
    Calls Try.prog 5 #[.slice A len cap] w fun e w' => e = .returned (.bool true) ∧ Below w.heap.size w w' := by
  have hm := hI.len_le
  unfold maxLen at hm
  have HI := Lib.hid hI
  clear hI
  by_cases hlen : len ≤ 1048576
  · go_enter Try.func5, Try.ntmps5
    go_wp2_with fail
    refine (drawruns_any A len cap _ HI.out).mono ?_
    rintro e w1 ⟨b, c, bs, rfl, hz18, hown1, hb1⟩
    have HO1 := Lib.hid hown1
    have HB1 := Lib.hid hb1
    have HLM : Hid (bs.length ≤ maxLen) := by show _ ≤ _; unfold maxLen; omega
    clear hown1 hb1
    go_wp2_with fail
    refine (bitsRuns_any _ c bs _ HO1.out.ints).mono ?_
    rintro e w2 ⟨A2, c2, rfl, hown2, hb2⟩
    have HG2 := Lib.hid hown2
    have HO2 := Lib.hid (HO1.out.below hb2)
    have HB2 : Hid (Below w.heap.size w w2) := HB1.out.trans (hb2.mono HB1.out.size)
    clear hown2 hb2
    go_wp2_with fail
    refine (sbitsRuns_any _ c bs _ HO2.out.ints HLM.out).mono ?_
    rintro e w3 ⟨A3, c3, rfl, hown3, hb3⟩
    have HS3 := Lib.hid hown3
    have HG3 := Lib.hid (HG2.out.below hb3)
    have HO3 := Lib.hid (HO2.out.below hb3)
    have HB3 : Hid (Below w.heap.size w w3) := HB2.out.trans (hb3.mono HB2.out.size)
    clear hown3 hb3
    have HRM : Hid ((runsOr bs).length ≤ maxLen) := by show _ ≤ _; have := runsOr_short bs; unfold maxLen; omega
    go_wp2_with fail
    refine (same_any A2 c2 _ A3 c3 _ _ HG3.out.ints HS3.out.ints HRM.out HRM.out).mono ?_
    rintro e w' ⟨rfl, q, rfl⟩
    rw [deci_same]
    by_cases h16 : bs.length ≤ 16
    · have hdx : decide (16 < bs.length) = false := by simp; omega
      have htold := runs_told bs
      have HRY : Hid (runsOr bs = runsInts bs) := runsOr_yes h16
      obtain ⟨zs, HZ⟩ : ∃ zs, Hid (runsInts bs = zs) := ⟨_, rfl⟩
      rw [HZ.out] at htold
      have HT := Lib.hid htold
      clear htold
      have hg := HG3.out
      rw [HRY.out, HZ.out] at hg
      have HG := Lib.hid hg
      clear hg
      have hL : (runsOr bs).length ≤ 17 := runsOr_short bs
      have HC : Hid (countOr bs = (cntB bs : Int)) := countOr_yes h16
      obtain ⟨L, HL⟩ : ∃ L, Hid ((runsOr bs).length = L) := ⟨_, rfl⟩
      have HLZ : Hid (zs.length = L) := by show _ = _; rw [← HL.out, HRY.out, HZ.out]
      rw [HL.out] at hL ⊢
      have hsum : sumN zs L = bs.length := by rw [← HLZ.out, ← bitsTo_length, HT.out.bits]
      have hodd : oddSum zs L = cntB bs := by rw [← HLZ.out, ← cntB_bitsTo, HT.out.bits]
      have HSUM := Lib.hid hsum
      have HODD := Lib.hid hodd
      obtain ⟨m, HM⟩ : ∃ m, Hid (bs.length = m) := ⟨_, rfl⟩
      rw [HM.out] at h16 hz18 hdx ⊢
      clear hsum hodd
      go_wp2
      go_loop [6, 7, 8] (fun x y i => ∃ k s t : Nat, k ≤ L ∧ s ≤ 16 ∧ t ≤ 16 ∧ x = .int .i64 (s : Int) ∧ y = .int .i64 (t : Int) ∧ i = .int .i64 k ∧ Hid (oddSum zs k = s) ∧ Hid (sumN zs k = t)) (fun _ _ i => L - (intOf i).toNat)
      case atStart => exact ⟨0, 0, 0, by omega, by omega, by omega, rfl, rfl, rfl, rfl, rfl⟩
      case round =>
        obtain ⟨k, s, t, hk, hs, ht, rfl, rfl, rfl, HS, HTT⟩ := hrel
        by_cases hlt : k < L
        · have hkz : k < zs.length := by rw [HLZ.out]; exact hlt
          obtain ⟨blk, o, rfl, hbl, hc⟩ := HG.out.ints (by omega)
          have hck := hc k hkz
          have hnn := HT.out.nonneg k
          obtain ⟨z, hz⟩ := Int.eq_ofNat_of_zero_le hnn
          rw [hz] at hck
          have hki : (k : Int) < (L : Int) := by omega
          have hs1 : sumN zs (k + 1) = t + z := by rw [sumN, HTT.out, hz]; rfl
          have ho1 : oddSum zs (k + 1) = s + (if par k then z else 0) := by rw [oddSum, HS.out, hz]; rfl
          have hle := sumN_le zs (k := k + 1) (n := L) (by omega)
          rw [HSUM.out, HM.out, hs1] at hle
          have hz16 : z ≤ 16 := by omega
          have HS1 := Lib.hid hs1
          have hle2 := oddSum_le zs (k + 1)
          rw [hs1, ho1] at hle2
          clear hc hkz hs1 hnn hz
          by_cases hp : k % 2 = 1
          · have hpk : par k = true := by simp [par, hp]
            rw [hpk] at ho1 hle2
            have HO : Hid (oddSum zs (k + 1) = s + z) := ho1
            have hle3 : s + z ≤ 16 := by simp at hle2; omega
            have hpb : ((k : Int) % 2 == 1) = true := by simp; omega
            clear ho1 hpk hp hle2
            go_wp2
            go_round
            case rel => exact ⟨k + 1, s + z, t + z, by omega, by omega, by omega, by go_num, by go_num, by go_num, HO, HS1⟩
            case measure => simp [intOf]; omega
          · have hpk : par k = false := by simp [par, hp]
            rw [hpk] at ho1 hle2
            have HO : Hid (oddSum zs (k + 1) = s) := ho1
            have hpb : ((k : Int) % 2 == 1) = false := beq_eq_false_iff_ne.2 (by omega)
            clear ho1 hpk hp hle2
            go_wp2
            go_round
            case rel => exact ⟨k + 1, s, t + z, by omega, by omega, by omega, rfl, by go_num, by go_num, HO, HS1⟩
            case measure => simp [intOf]; omega
        · have hkL : k = L := by omega
          subst hkL
          have hsc : s = cntB bs := by rw [← HS.out]; exact HODD.out
          have htm : t = m := by rw [← HTT.out, ← HM.out]; exact HSUM.out
          have hcall := bitsCount_any (some ⟨b, 0, none⟩) c bs _ (HO3.out.drewN q).ints
          rw [HM.out, HC.out, ← hsc] at hcall
          have HCALL := Lib.hid hcall
          have he1 : ((s : Int) == (s : Int)) = true := by simp
          have he2 : ((t : Int) == (m : Int)) = true := by simp [htm]
          clear hcall hsc htm
          go_wp2_with (go_at_call 17; refine HCALL.out.mono ?_; rintro e w6 ⟨rfl, hb6⟩)
          go_ret
          exact ⟨rfl, HB3.out.trans ((below_drewN_l hb6).mono HB3.out.size)⟩
    · have hdx : decide (16 < bs.length) = true := by simp; omega
      go_wp2_with fail
      refine (same_any A2 c2 _ A3 c3 _ _ (HG3.out.drewN q).ints (HS3.out.drewN q).ints HRM.out HRM.out).mono ?_
      rintro e w' ⟨rfl, q1, rfl⟩
      rw [deci_same]
      go_wp2
      go_ret
      exact ⟨rfl, below_drewN HB3.out _⟩
  · have h9 : 1048576 < len := by omega
    clear hlen
    go_enter Try.func5, Try.ntmps5
    go_wp2
    go_ret
    exact ⟨rfl, Below.refl _ _⟩

end Go.Proofs.Ytmepbogfdpmfaaa
