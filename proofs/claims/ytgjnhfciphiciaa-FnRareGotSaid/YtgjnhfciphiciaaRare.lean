/- Contracts of RareCount, RareWhole, RareOrder and RarePick. Conditions: the bits lie in memory. -/
import Derived.Test.YtgjnhfciphiciaaWanted
import Derived.Deep.LoopGhost
namespace Go.Proofs.Ytgjnhfciphiciaa
open Go.RowKit
set_option linter.unusedVariables false

theorem countZ_no {ps : List (List Bool)} {b : Int} (h : ¬ (okP ps = true ∧ 0 ≤ b ∧ b < 16)) : countZ ps b = -1 := by unfold countZ; rw [if_neg h]
theorem wholeZ_no {ps : List (List Bool)} {b : Int} (h : ¬ (okP ps = true ∧ 0 ≤ b ∧ b ≤ 16)) : wholeZ ps b = -1 := by unfold wholeZ; rw [if_neg h]

set_option maxHeartbeats 2000000 in
theorem count_any (A : Option Addr) (cap : Nat) (hs : List PH) (b : Int) (w : World) (B : Nat) (hP : PAt w B A hs) :
    Calls Try.prog 14 #[.slice A hs.length cap, .int .i64 b] w fun e w' => e = .returned (.int .i64 (countZ (pz hs) b)) ∧ w' = w := by
  have C1 := Lib.hid (peersValid_any A cap hs w B hP)
  have HP := Lib.hid hP
  have C2 : Hid (∀ k : Nat, Calls Try.prog 32 #[.slice A hs.length cap, .int .i64 (k : Int)] w fun e w'' => e = .returned (.int .i64 ((cntB (pz hs) k : Nat) : Int)) ∧ w'' = w) := fun k => having_any A cap k hs w _ HP.out
  obtain ⟨n, HN⟩ : ∃ n, Hid (hs.length = n) := ⟨_, rfl⟩
  rw [HN.out] at C1 C2 ⊢
  clear hP
  cases hok : okP (pz hs) with
  | false =>
    rw [hok] at C1
    rw [countZ_no (by rw [hok]; exact fun h => by cases h.1)]
    clear hok
    go_enter Try.func14, Try.ntmps14
    go_wp2_with fail
    refine C1.out.mono ?_
    rintro e w1 ⟨rfl, rfl⟩
    go_wp2
    go_ret
    exact ⟨rfl, rfl⟩
  | true =>
    rw [hok] at C1
    by_cases h0 : b < 0
    · rw [countZ_no (by omega)]
      clear hok
      go_enter Try.func14, Try.ntmps14
      go_wp2_with fail
      refine C1.out.mono ?_
      rintro e w1 ⟨rfl, rfl⟩
      go_wp2
      go_ret
      exact ⟨rfl, rfl⟩
    · by_cases h1 : 16 ≤ b
      · rw [countZ_no (by omega)]
        clear hok
        go_enter Try.func14, Try.ntmps14
        go_wp2_with fail
        refine C1.out.mono ?_
        rintro e w1 ⟨rfl, rfl⟩
        go_wp2
        go_ret
        exact ⟨rfl, rfl⟩
      · have HE : Hid (countZ (pz hs) b = ((cntB (pz hs) b.toNat : Nat) : Int)) := by
          show _ = _
          unfold countZ
          rw [if_pos ⟨hok, by omega, by omega⟩]
        rw [HE.out]
        obtain ⟨k, rfl⟩ : ∃ k : Nat, b = (k : Int) := ⟨b.toNat, by omega⟩
        have C3 := Lib.hid (C2.out k)
        rw [Int.toNat_natCast]
        clear hok HE C2
        go_enter Try.func14, Try.ntmps14
        go_wp2_with fail
        refine C1.out.mono ?_
        rintro e w1 ⟨rfl, rfl⟩
        go_wp2_with fail
        refine C3.out.mono ?_
        rintro e w1 ⟨rfl, rfl⟩
        go_wp2
        go_ret
        exact ⟨rfl, rfl⟩

set_option maxHeartbeats 3000000 in
theorem whole_any (A : Option Addr) (cap : Nat) (hs : List PH) (l : Int) (w : World) (B : Nat) (hP : PAt w B A hs) :
    Calls Try.prog 26 #[.slice A hs.length cap, .int .i64 l] w fun e w' => e = .returned (.int .i64 (wholeZ (pz hs) l)) ∧ w' = w := by
  have C1 := Lib.hid (peersValid_any A cap hs w B hP)
  have HP := Lib.hid hP
  have C2 : Hid (∀ k : Nat, Calls Try.prog 32 #[.slice A hs.length cap, .int .i64 (k : Int)] w fun e w'' => e = .returned (.int .i64 ((cntB (pz hs) k : Nat) : Int)) ∧ w'' = w) := fun k => having_any A cap k hs w _ HP.out
  have HL0 : Hid (least (pz hs) 0 = hs.length) := pz_length hs
  obtain ⟨n, HN⟩ : ∃ n, Hid (hs.length = n) := ⟨_, rfl⟩
  rw [HN.out] at C1 C2 HL0 ⊢
  clear hP
  cases hok : okP (pz hs) with
  | false =>
    rw [hok] at C1
    rw [wholeZ_no (by rw [hok]; exact fun h => by cases h.1)]
    clear hok
    go_enter Try.func26, Try.ntmps26
    go_wp2_with fail
    refine C1.out.mono ?_
    rintro e w1 ⟨rfl, rfl⟩
    go_wp2
    go_ret
    exact ⟨rfl, rfl⟩
  | true =>
    rw [hok] at C1
    by_cases h0 : l < 0
    · rw [wholeZ_no (by omega)]
      clear hok
      go_enter Try.func26, Try.ntmps26
      go_wp2_with fail
      refine C1.out.mono ?_
      rintro e w1 ⟨rfl, rfl⟩
      go_wp2
      go_ret
      exact ⟨rfl, rfl⟩
    · by_cases h1 : 16 < l
      · rw [wholeZ_no (by omega)]
        clear hok
        go_enter Try.func26, Try.ntmps26
        go_wp2_with fail
        refine C1.out.mono ?_
        rintro e w1 ⟨rfl, rfl⟩
        go_wp2
        go_ret
        exact ⟨rfl, rfl⟩
      · have HE : Hid (wholeZ (pz hs) l = ((least (pz hs) l.toNat : Nat) : Int)) := by
          show _ = _
          unfold wholeZ
          rw [if_pos ⟨hok, by omega, by omega⟩]
        rw [HE.out]
        obtain ⟨m, rfl⟩ : ∃ m : Nat, l = (m : Int) := ⟨l.toNat, by omega⟩
        rw [Int.toNat_natCast]
        clear hok HE
        go_enter Try.func26, Try.ntmps26
        go_wp2_with fail
        refine C1.out.mono ?_
        rintro e w1 ⟨rfl, rfl⟩
        go_wp2
        go_loopw [5, 21] (fun x i w' => ∃ (k c : Nat), k ≤ m ∧ x = .int .i64 (c : Int) ∧ i = .int .i64 (k : Int) ∧ Hid (least (pz hs) k = c) ∧ Hid (w' = w1)) (fun _ i _ => m - (intOf i).toNat)
        case atStart => exact ⟨0, n, by omega, rfl, rfl, HL0, (by first | exact Lib.hid trivial | exact Lib.hid rfl)⟩
        case round =>
          obtain ⟨k, c, hk, rfl, rfl, HC, HW⟩ := hrel
          have hw : wr = w1 := HW.out
          subst hw
          clear HW
          by_cases hlt : k < m
          · have hki : (k : Int) < (m : Int) := by omega
            have C3 := Lib.hid (C2.out k)
            obtain ⟨d, HD⟩ : ∃ d, Hid (cntB (pz hs) k = d) := ⟨_, rfl⟩
            rw [HD.out] at C3
            by_cases hcd : c ≤ d
            · have hci : (c : Int) ≤ (d : Int) := by omega
              have HS : Hid (least (pz hs) (k + 1) = c) := by show min _ _ = _; rw [HC.out, HD.out]; omega
              go_wp2_with fail
              refine C3.out.mono ?_
              rintro e w2 ⟨rfl, rfl⟩
              go_wp2
              go_roundw
              case rel => exact ⟨k + 1, c, by omega, by go_num, by go_num, HS, (by first | exact Lib.hid trivial | exact Lib.hid rfl)⟩
              case measure => simp [intOf]; omega
            · have hci : ¬ (c : Int) ≤ (d : Int) := by omega
              have HS : Hid (least (pz hs) (k + 1) = d) := by show min _ _ = _; rw [HC.out, HD.out]; omega
              go_wp2_with fail
              refine C3.out.mono ?_
              rintro e w2 ⟨rfl, rfl⟩
              go_wp2
              go_roundw
              case rel => exact ⟨k + 1, d, by omega, by go_num, by go_num, HS, (by first | exact Lib.hid trivial | exact Lib.hid rfl)⟩
              case measure => simp [intOf]; omega
          · have hkm : k = m := by omega
            subst hkm
            go_wp2
            go_ret
            exact ⟨by rw [HC.out]; rfl, rfl⟩

end Go.Proofs.Ytgjnhfciphiciaa
