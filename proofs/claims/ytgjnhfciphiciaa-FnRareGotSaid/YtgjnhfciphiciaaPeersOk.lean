/- Contracts of peersValid and of wantedBlocks: a heap of the wanted blocks. Conditions: the bits lie in memory. -/
import Derived.Test.YtgjnhfciphiciaaPeers
import Derived.Shelf.Abstract
namespace Go.Proofs.Ytgjnhfciphiciaa
open Go.RowKit
set_option linter.unusedVariables false

set_option maxHeartbeats 1000000 in
theorem longBits_any (A : Option Addr) (n cap : Nat) (w : World) :
    Calls Try.prog 43 #[.slice A n cap] w fun e w' => e = .returned (.bool (!decide (n ≤ 16))) ∧ w' = w := by
  go_enter Try.func43, Try.ntmps43
  go_wp2_with fail
  refine (bitsValid_any _ _ _ _).mono ?_
  rintro e w1 ⟨rfl, rfl⟩
  go_wp2
  go_ret
  exact ⟨rfl, rfl⟩

set_option maxHeartbeats 2000000 in
theorem longIndex_any (A : Option Addr) (cap : Nat) (hs : List PH) (w : World) (B : Nat) (hP : PAt w B A hs) :
    Calls Try.prog 47 #[.slice A hs.length cap, .func (.func 43) #[] #[]] w fun e w' => ∃ r : Int, e = .returned (.int .i64 r) ∧ (decide (0 ≤ r) = !smallP (pz hs)) ∧ w' = w := by
  have hmx := hP.most
  unfold maxLen at hmx
  have HP := Lib.hid hP
  obtain ⟨n, HN⟩ : ∃ n, Hid (hs.length = n) := ⟨_, rfl⟩
  rw [HN.out] at hmx ⊢
  clear hP
  have eg : ∀ args w, (callFunc 43 args).run Try.prog w = .ok (.enter 43 args) w := enters_of Try.func43 (by kernel_rfl) rfl
  go_enter Try.func47, Try.ntmps47
  go_wp2
  go_loopw [5, 8] (fun _ i w' => ∃ k : Nat, k ≤ n ∧ i = .int .i64 k ∧ Hid (w' = w) ∧ Hid (∀ j, j < k → (pth (pz hs) j).length ≤ 16)) (fun _ i _ => n - (intOf i).toNat)
  case atStart => exact ⟨0, Nat.zero_le _, rfl, (by first | exact Lib.hid trivial | exact Lib.hid rfl), fun j hj => absurd hj (Nat.not_lt_zero _)⟩
  case round =>
    obtain ⟨k, hk, rfl, HW, HA⟩ := hrel
    have hw : wr = w := HW.out
    subst hw
    clear HW
    by_cases hlt : k < n
    · have hqz : k < hs.length := by rw [HN.out]; exact hlt
      obtain ⟨b, o, rfl, _, hc⟩ := HP.out.cell k hqz
      have HZ : Hid (pth (pz hs) k = (hth hs k).zs) := pth_pz hs k
      have C := Lib.hid (longBits_any (hth hs k).a (hth hs k).zs.length (hth hs k).c wr)
      obtain ⟨m, HM⟩ : ∃ m, Hid ((hth hs k).zs.length = m) := ⟨_, rfl⟩
      rw [HM.out] at C hc
      obtain ⟨h, HH⟩ : ∃ h, Hid (hth hs k = h) := ⟨_, rfl⟩
      rw [HH.out] at C hc
      obtain ⟨ha, hcp, hz⟩ := h
      have hki : (k : Int) < (n : Int) := by omega
      clear hqz
      cases hq : decide (m ≤ 16) with
      | true =>
        rw [hq] at C
        have HQ := Lib.hid (of_decide_eq_true hq)
        clear hq
        go_wp2_with (go_at_fn 43; refine C.out.mono ?_; rintro e w' ⟨rfl, rfl⟩)
        go_wp2
        go_roundw
        case rel =>
          refine ⟨k + 1, by omega, by go_num, (by first | exact Lib.hid trivial | exact Lib.hid rfl), (show Hid _ from fun j hj => ?_)⟩
          by_cases e : j = k
          · subst e; rw [HZ.out, HM.out]; exact HQ.out
          · exact HA.out j (by omega)
        case measure => simp [intOf]; omega
      | false =>
        rw [hq] at C
        have HQ := Lib.hid (of_decide_eq_false hq)
        clear hq
        have HNO : Hid (smallP (pz hs) = false) := smallP_no (i := k) (by rw [pz_length, HN.out]; exact hlt) (by rw [HZ.out, HM.out]; exact HQ.out)
        go_wp2_with (go_at_fn 43; refine C.out.mono ?_; rintro e w' ⟨rfl, rfl⟩)
        go_wp2
        go_ret
        exact ⟨(k : Int), rfl, by rw [HNO.out]; simp, rfl⟩
    · have hkn : k = n := by omega
      subst hkn
      have HYES : Hid (smallP (pz hs) = true) := (smallP_iff _).2 fun j hj => HA.out j (by rw [pz_length, HN.out] at hj; exact hj)
      go_wp2
      go_ret
      exact ⟨-1, rfl, by rw [HYES.out]; decide, rfl⟩
theorem ret_flag {r : Int} {b : Bool} (h : decide (0 ≤ r) = !b) : Ending.returned (.bool (decide (0 ≤ r))) = Ending.returned (.bool (!b)) := by rw [h]
set_option maxHeartbeats 1000000 in
theorem longSome_any (A : Option Addr) (cap : Nat) (hs : List PH) (w : World) (B : Nat) (hP : PAt w B A hs) :
    Calls Try.prog 42 #[.slice A hs.length cap, .func (.func 43) #[] #[]] w fun e w' => e = .returned (.bool (!smallP (pz hs))) ∧ w' = w := by
  have C := Lib.hid (longIndex_any A cap hs w B hP)
  clear hP
  go_enter Try.func42, Try.ntmps42
  go_wp2_with fail
  refine C.out.mono ?_
  rintro e w1 ⟨r, rfl, hr, rfl⟩
  have HR := Lib.hid hr
  clear hr
  go_wp2
  go_ret
  exact ⟨ret_flag HR.out, rfl⟩
set_option maxHeartbeats 1000000 in
theorem peersValid_any (A : Option Addr) (cap : Nat) (hs : List PH) (w : World) (B : Nat) (hP : PAt w B A hs) :
    Calls Try.prog 31 #[.slice A hs.length cap] w fun e w' => e = .returned (.bool (okP (pz hs))) ∧ w' = w := by
  have C := Lib.hid (longSome_any A cap hs w B hP)
  have HO : Hid (okP (pz hs) = (decide (hs.length ≤ 6) && smallP (pz hs))) := by show _ = _; unfold okP; rw [pz_length]
  obtain ⟨n, HN⟩ : ∃ n, Hid (hs.length = n) := ⟨_, rfl⟩
  rw [HN.out] at C HO ⊢
  clear hP
  by_cases h6 : n ≤ 6
  · have h7 : ¬ (6 : Int) < (n : Int) := by omega
    go_enter Try.func31, Try.ntmps31
    go_wp2_with fail
    refine C.out.mono ?_
    rintro e w1 ⟨rfl, rfl⟩
    go_wp2
    go_ret
    exact ⟨by rw [HO.out, decide_eq_true h6]; simp, rfl⟩
  · have h7 : (6 : Int) < (n : Int) := by omega
    go_enter Try.func31, Try.ntmps31
    go_wp2
    go_ret
    exact ⟨by rw [HO.out, decide_eq_false h6]; rfl, rfl⟩

end Go.Proofs.Ytgjnhfciphiciaa
