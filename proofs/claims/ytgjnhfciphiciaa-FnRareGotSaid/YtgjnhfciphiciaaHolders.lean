/- Contracts of the laws' functions holders and hasInt. Conditions: the bits and the integers lie in memory. -/
import Derived.Test.YtgjnhfciphiciaaPeers
import Derived.IntWalk
namespace Go.Proofs.Ytgjnhfciphiciaa
open Go.RowKit
set_option linter.unusedVariables false

/-- How many peers have a block, be it any number. -/
def hasB (zs : List Bool) (b : Nat) : Bool := bth zs b

set_option maxHeartbeats 2000000 in
theorem holders_any (A : Option Addr) (cap k : Nat) (hs : List PH) (w : World) (B : Nat) (hP : PAt w B A hs) :
    Calls Try.prog 16 #[.slice A hs.length cap, .int .i64 (k : Int)] w fun e w' => e = .returned (.int .i64 ((cntB (pz hs) k : Nat) : Int)) ∧ w' = w := by
  have hmx := hP.most
  unfold maxLen at hmx
  have HP := Lib.hid hP
  obtain ⟨n, HN⟩ : ∃ n, Hid (hs.length = n) := ⟨_, rfl⟩
  rw [HN.out] at hmx ⊢
  clear hP
  go_enter Try.func16, Try.ntmps16
  go_wp2
  go_loopw [5, 6] (fun x i w' => ∃ (q c : Nat), q ≤ n ∧ x = .int .i64 (c : Int) ∧ i = .int .i64 (q : Int) ∧ Hid (c = cntB ((pz hs).take q) k) ∧ c ≤ q ∧ Hid (w' = w)) (fun _ i _ => n - (intOf i).toNat)
  case atStart => exact ⟨0, 0, by omega, rfl, rfl, rfl, Nat.le_refl _, rfl⟩
  case round =>
    obtain ⟨q, c, hq, rfl, rfl, HC, hcq, HW⟩ := hrel
    have hw : wr = w := HW.out
    subst hw
    clear HW
    by_cases hlt : q < n
    · have hqz : q < hs.length := by rw [HN.out]; exact hlt
      obtain ⟨b, o, rfl, _, hc⟩ := HP.out.cell q hqz
      have hfit := HP.out.fit _ (hth_mem hs q hqz)
      have hI := HP.out.one q hqz
      have HT : Hid (cntB ((pz hs).take (q + 1)) k = c + if bth (hth hs q).zs k = true then 1 else 0) := by
        show _ = _
        rw [cntB_take (pz hs) q k (by rw [pz_length]; exact hqz), pth_pz, HC.out]
      have hqi : (q : Int) < (n : Int) := by omega
      by_cases hk : k < (hth hs q).zs.length
      · obtain ⟨b2, o2, hA2, _, hc2⟩ := hI (by omega)
        have hck := hc2 k hk
        rw [hA2] at hc
        obtain ⟨v, HV⟩ : ∃ v, Hid (bth (hth hs q).zs k = v) := ⟨_, rfl⟩
        rw [HV.out] at HT hck
        obtain ⟨m, HM⟩ : ∃ m, Hid ((hth hs q).zs.length = m) := ⟨_, rfl⟩
        rw [HM.out] at hc hk
        have hki : (k : Int) < (m : Int) := by omega
        clear hqz hc2 hI hfit hA2
        cases v with
        | true =>
          go_wp2
          go_roundw
          case rel => exact ⟨q + 1, c + 1, by omega, by go_num, by go_num, HT.out.symm, by omega, (by first | exact Lib.hid trivial | exact Lib.hid rfl)⟩
          case measure => simp [intOf]; omega
        | false =>
          go_wp2
          go_roundw
          case rel => exact ⟨q + 1, c, by omega, rfl, by go_num, HT.out.symm, by omega, (by first | exact Lib.hid trivial | exact Lib.hid rfl)⟩
          case measure => simp [intOf]; omega
      · have hbo := bth_out (hth hs q).zs k (by omega)
        rw [hbo] at HT
        obtain ⟨m, HM⟩ : ∃ m, Hid ((hth hs q).zs.length = m) := ⟨_, rfl⟩
        rw [HM.out] at hc hk
        have hki : ¬ (k : Int) < (m : Int) := by omega
        have hkd : decide ((k : Int) < (m : Int)) = false := by simp; omega
        clear hqz hI hfit hbo
        go_wp2
        go_roundw
        case rel => exact ⟨q + 1, c, by omega, rfl, by go_num, HT.out.symm, by omega, (by first | exact Lib.hid trivial | exact Lib.hid rfl)⟩
        case measure => simp [intOf]; omega
    · have hqn : q = n := by omega
      subst hqn
      have HE : Hid (c = cntB (pz hs) k) := by
        show _ = _
        rw [HC.out, ← HN.out, ← pz_length hs, List.take_length]
      go_wp2
      go_ret
      exact ⟨by rw [← HE.out]; rfl, rfl⟩

set_option maxHeartbeats 1000000 in
theorem hasInt_any (A : Option Addr) (cap : Nat) (zs : List Int) (x : Int) (w : World) (hI : IntsAt w w.heap.size A zs) (hm : zs.length ≤ maxLen) :
    Calls Try.prog 21 #[.slice A zs.length cap, .int .i64 x] w fun e w' => e = .returned (.bool (decide (x ∈ zs))) ∧ w' = w := by
  unfold maxLen at hm
  have HI := Lib.hid hI
  clear hI
  obtain ⟨m, HM⟩ : ∃ m, Hid (zs.length = m) := ⟨_, rfl⟩
  rw [HM.out] at hm ⊢
  go_enter Try.func21, Try.ntmps21
  go_wp2
  go_loop [5] (fun i => ∃ k : Nat, k ≤ m ∧ i = .int .i64 k ∧ Hid (x ∉ zs.take k)) (fun i => m - (intOf i).toNat)
  case atStart => exact ⟨0, by omega, rfl, (by show x ∉ _; simp)⟩
  case round =>
    obtain ⟨k, hk, rfl, HN⟩ := hrel
    by_cases hlt : k < m
    · have hkz : k < zs.length := by rw [HM.out]; exact hlt
      obtain ⟨b, o, rfl, hb, hc⟩ := HI.out (by omega)
      have hck := hc k hkz
      have hki : (k : Int) < (m : Int) := by omega
      have htk : zs.take (k + 1) = zs.take k ++ [nth zs k] := by
        rw [List.take_succ_eq_append_getElem hkz, nth, List.getD_eq_getElem?_getD, List.getElem?_eq_getElem hkz]; rfl
      by_cases hv : nth zs k = x
      · have HE : Hid (decide (x ∈ zs) = true) := by
          show _ = _
          rw [decide_eq_true_iff]
          exact List.mem_of_mem_take (i := k + 1) (by rw [htk, hv]; simp)
        have hvb : (nth zs k == x) = true := by simp [hv]
        clear hc hkz htk hv
        go_wp2
        go_ret
        exact ⟨ret_bool HE.out.symm, rfl⟩
      · have HN2 : Hid (x ∉ zs.take (k + 1)) := by
          show x ∉ _
          rw [htk, List.mem_append]
          rintro (h | h)
          · exact HN.out h
          · exact hv (by have e : x = nth zs k := by simpa using h
                         exact e.symm)
        have hvb : (nth zs k == x) = false := by simp [hv]
        clear hc hkz htk hv
        go_wp2
        go_round
        case rel => exact ⟨k + 1, by omega, by go_num, HN2⟩
        case measure => simp [intOf]; omega
    · have HE : Hid (decide (x ∈ zs) = false) := by
        show _ = _
        rw [decide_eq_false_iff_not]
        have := HN.out
        rwa [List.take_of_length_le (by rw [HM.out]; omega)] at this
      go_wp2
      go_ret
      exact ⟨ret_bool HE.out.symm, rfl⟩

end Go.Proofs.Ytgjnhfciphiciaa
