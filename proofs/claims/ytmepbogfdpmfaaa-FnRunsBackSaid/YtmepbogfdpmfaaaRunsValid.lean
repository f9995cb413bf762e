/- Contracts of leastRun and runsValid: whether lengths are those of runs of at most 16 bits; nothing is changed. Condition: the lengths lie in memory. -/
import Derived.Test.YtmepbogfdpmfaaaRunsGood
namespace Go.Proofs.Ytmepbogfdpmfaaa
open Go.RowKit
set_option linter.unusedVariables false

set_option maxHeartbeats 400000 in
theorem leastRun_any (A : Option Addr) (n cap i : Nat) (w : World) :
    Calls Try.prog 38 #[.slice A n cap, .int .i64 (i : Int)] w fun e w' => e = .returned (.int .i64 (leastN n i)) ∧ w = w' := by
  by_cases h0 : i = 0
  · subst h0
    by_cases h1 : 1 < n
    · have HE : Hid (leastN n 0 = 0) := by show _ = _; unfold leastN; rw [if_pos ⟨rfl, h1⟩]
      have hd : decide (1 < n) = true := by simp [h1]
      go_enter Try.func38, Try.ntmps38
      go_wp2
      go_ret
      exact ⟨ret_int HE.out.symm, rfl⟩
    · have HE : Hid (leastN n 0 = 1) := by show _ = _; unfold leastN; rw [if_neg (by omega)]
      have hd : decide (1 < n) = false := by simp; omega
      go_enter Try.func38, Try.ntmps38
      go_wp2
      go_ret
      exact ⟨ret_int HE.out.symm, rfl⟩
  · have HE : Hid (leastN n i = 1) := by show _ = _; unfold leastN; rw [if_neg (by omega)]
    have hd : ((i : Int) == 0) = false := beq_eq_false_iff_ne.2 (by omega)
    clear h0
    go_enter Try.func38, Try.ntmps38
    go_wp2
    go_ret
    exact ⟨ret_int HE.out.symm, rfl⟩

set_option maxHeartbeats 2000000 in
theorem runsValid_any (A : Option Addr) (cap : Nat) (zs : List Int) (w : World) (hI : IntsAt w w.heap.size A zs) (hm : zs.length ≤ maxLen) :
    Calls Try.prog 31 #[.slice A zs.length cap] w fun e w' => e = .returned (.bool (goodK zs zs.length)) ∧ w = w' := by
  unfold maxLen at hm
  have HI := Lib.hid hI
  clear hI
  obtain ⟨m, HM⟩ : ∃ m, Hid (zs.length = m) := ⟨_, rfl⟩
  rw [HM.out] at hm ⊢
  go_enter Try.func31, Try.ntmps31
  go_wp2
  go_loop [3, 8] (fun x i => ∃ k r : Nat, k ≤ m ∧ r ≤ 16 ∧ x = .int .i64 (r : Int) ∧ i = .int .i64 k ∧ Hid (goodK zs k = true) ∧ Hid (sumN zs k + r = 16)) (fun _ i => m - (intOf i).toNat)
  case atStart => exact ⟨0, 16, by omega, by omega, rfl, rfl, rfl, rfl⟩
  case round =>
    obtain ⟨k, r, hk, hr, rfl, rfl, HG, HS⟩ := hrel
    by_cases hlt : k < m
    · have hkz : k < zs.length := by rw [HM.out]; exact hlt
      obtain ⟨b, o, rfl, hb, hc⟩ := HI.out (by omega)
      have hck := hc k hkz
      have hki : (k : Int) < (m : Int) := by omega
      have h01 := leastN_01 m k
      have hstep : goodK zs (k + 1) = decide (leastN m k ≤ nth zs k ∧ nth zs k + (sumN zs k : Int) ≤ 16) := by rw [goodK, HG.out, HM.out, Bool.true_and]
      have hsn : sumN zs (k + 1) = sumN zs k + (nth zs k).toNat := rfl
      have hss := HS.out
      obtain ⟨L, HLL⟩ : ∃ L, Hid (leastN m k = L) := ⟨_, rfl⟩
      obtain ⟨z, HZ⟩ : ∃ z, Hid (nth zs k = z) := ⟨_, rfl⟩
      rw [HLL.out] at h01 hstep
      rw [HZ.out] at hck hstep hsn
      have CALL : Hid (Calls Try.prog 38 #[.slice (some ⟨b, o, none⟩) m cap, .int .i64 (k : Int)] w fun e w' => e = .returned (.int .i64 L) ∧ w = w') := by
        have := leastRun_any (some ⟨b, o, none⟩) m cap k w
        rw [HLL.out] at this
        exact this
      by_cases hz : z < L
      · have HF : Hid (goodK zs m = false) := by
          show _ = _
          refine goodK_not (k := k + 1) ?_ (by omega)
          rw [hstep, decide_eq_false_iff_not]
          omega
        clear hc hkz hstep hsn hss
        go_wp2_with (go_at_call 38; refine CALL.out.mono ?_; rintro e w' ⟨rfl, rfl⟩)
        go_ret
        exact ⟨ret_bool HF.out.symm, rfl⟩
      · by_cases hzr : (r : Int) < z
        · have HF : Hid (goodK zs m = false) := by
            show _ = _
            refine goodK_not (k := k + 1) ?_ (by omega)
            rw [hstep, decide_eq_false_iff_not]
            omega
          clear hc hkz hstep hsn hss
          go_wp2_with (go_at_call 38; refine CALL.out.mono ?_; rintro e w' ⟨rfl, rfl⟩)
          go_ret
          exact ⟨ret_bool HF.out.symm, rfl⟩
        · obtain ⟨y, hy⟩ := Int.eq_ofNat_of_zero_le (show 0 ≤ z by omega)
          have HG1 : Hid (goodK zs (k + 1) = true) := by
            show _ = _
            rw [hstep, decide_eq_true_iff]
            omega
          have HS1 : Hid (sumN zs (k + 1) + (r - y) = 16) := by
            show _ = _
            rw [hsn, hy]
            show sumN zs k + y + (r - y) = 16
            omega
          subst hy
          have hyr : y ≤ r := by omega
          clear hc hkz hstep hsn hss
          go_wp2_with (go_at_call 38; refine CALL.out.mono ?_; rintro e w' ⟨rfl, rfl⟩)
          go_round
          case rel => exact ⟨k + 1, r - y, by omega, by omega, by go_num, by go_num, HG1, HS1⟩
          case measure => simp [intOf]; omega
    · have hkm : k = m := by omega
      subst hkm
      go_wp2
      go_ret
      exact ⟨ret_bool HG.out.symm, rfl⟩

end Go.Proofs.Ytmepbogfdpmfaaa
