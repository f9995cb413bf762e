/- Contracts of the model of rarest blocks: the bits of peers, the number of peers that have a block, complete copies. Conditions: the bits lie in memory. -/
import Derived.Test.YtgjnhfciphiciaaRare
import Derived.Test.YtgjnhfciphiciaaBaseA
namespace Go.Proofs.Ytgjnhfciphiciaa
open Go.RowKit
set_option linter.unusedVariables false

set_option maxHeartbeats 1000000 in
theorem bat_any (A : Option Addr) (cap k : Nat) (zs : List Bool) (w : World) (B : Nat) (hI : BoolsAt w B A zs) :
    Calls Try.prog 40 #[.slice A zs.length cap, .int .i64 (k : Int)] w fun e w' => e = .returned (.bool (bth zs k)) ∧ w' = w := by
  by_cases hk : k < zs.length
  · obtain ⟨b, o, rfl, _, hc⟩ := hI (by omega)
    have c0 := hc k hk
    have hkk : (k : Int) < (zs.length : Int) := by omega
    obtain ⟨n, HN⟩ : ∃ n, Hid (zs.length = n) := ⟨_, rfl⟩
    obtain ⟨v, HV⟩ : ∃ v, Hid (bth zs k = v) := ⟨_, rfl⟩
    rw [HN.out] at hkk hk ⊢
    rw [HV.out] at c0 ⊢
    clear hI hc
    go_enter Try.func40, Try.ntmps40
    go_wp2
    go_ret
    exact ⟨rfl, rfl⟩
  · rw [bth_out zs k (by omega)]
    have hkk : ¬ (k : Int) < (zs.length : Int) := by omega
    obtain ⟨n, HN⟩ : ∃ n, Hid (zs.length = n) := ⟨_, rfl⟩
    rw [HN.out] at hkk hk ⊢
    clear hI
    go_enter Try.func40, Try.ntmps40
    go_wp2
    go_ret
    exact ⟨rfl, rfl⟩

theorem okP_small {ps : List (List Bool)} {n : Nat} (hn : ps.length = n) (h : ∀ j, j < n → (pth ps j).length ≤ 16) : okP ps = decide (n ≤ 6) := by
  unfold okP
  rw [(smallP_iff ps).2 (by rw [hn]; exact h), Bool.and_true, hn]

set_option maxHeartbeats 2000000 in
theorem speers_any (A : Option Addr) (cap : Nat) (hs : List PH) (w : World) (B : Nat) (hP : PAt w B A hs) :
    Calls Try.prog 33 #[.slice A hs.length cap] w fun e w' => e = .returned (.bool (okP (pz hs))) ∧ w' = w := by
  have hmx := hP.most
  unfold maxLen at hmx
  have HP := Lib.hid hP
  have HZ0 : Hid ((pz hs).length = hs.length) := pz_length hs
  obtain ⟨n, HN⟩ : ∃ n, Hid (hs.length = n) := ⟨_, rfl⟩
  rw [HN.out] at hmx HZ0 ⊢
  clear hP
  go_enter Try.func33, Try.ntmps33
  go_wp2
  go_loopw [3] (fun i w' => ∃ k : Nat, k ≤ n ∧ i = .int .i64 k ∧ Hid (w' = w) ∧ Hid (∀ j, j < k → (pth (pz hs) j).length ≤ 16)) (fun i _ => n - (intOf i).toNat)
  case atStart => exact ⟨0, Nat.zero_le _, rfl, (by first | exact Lib.hid trivial | exact Lib.hid rfl), fun j hj => absurd hj (Nat.not_lt_zero _)⟩
  case round =>
    obtain ⟨k, hk, rfl, HW, HA⟩ := hrel
    have hw : wr = w := HW.out
    subst hw
    clear HW
    by_cases hlt : k < n
    · have hqz : k < hs.length := by rw [HN.out]; exact hlt
      obtain ⟨b, o, rfl, _, hc⟩ := HP.out.cell k hqz
      have HZ : Hid (pth (pz hs) k = (hth hs k).zs) := pth_pz hs k
      obtain ⟨m, HM⟩ : ∃ m, Hid ((hth hs k).zs.length = m) := ⟨_, rfl⟩
      rw [HM.out] at hc
      obtain ⟨h, HH⟩ : ∃ h, Hid (hth hs k = h) := ⟨_, rfl⟩
      rw [HH.out] at hc
      obtain ⟨ha, hcp, hz⟩ := h
      have hki : (k : Int) < (n : Int) := by omega
      clear hqz
      by_cases hq : m ≤ 16
      · have hqi : ¬ (16 : Int) < (m : Int) := by omega
        go_wp2
        go_roundw
        case rel =>
          refine ⟨k + 1, by omega, by go_num, (by first | exact Lib.hid trivial | exact Lib.hid rfl), (show Hid _ from fun j hj => ?_)⟩
          by_cases e : j = k
          · subst e; rw [HZ.out, HM.out]; exact hq
          · exact HA.out j (by omega)
        case measure => simp [intOf]; omega
      · have hqi : (16 : Int) < (m : Int) := by omega
        have HE : Hid (okP (pz hs) = false) := by
          show _ = _
          refine okP_no _ fun h => hq ?_
          rw [← HM.out, ← HZ.out]
          have := (smallP_iff (pz hs)).1 (by unfold smallP; exact decide_eq_true h.2) k (by rw [HZ0.out]; exact hlt)
          exact this
        go_wp2
        go_ret
        exact ⟨by rw [HE.out]; rfl, rfl⟩
    · have hkn : k = n := by omega
      subst hkn
      have HE : Hid (okP (pz hs) = decide ((k : Int) ≤ 6)) := by
        show _ = _
        rw [okP_small HZ0.out HA.out, decide_eq_decide]; omega
      go_wp2
      go_ret
      exact ⟨by rw [HE.out]; simp, rfl⟩

set_option maxHeartbeats 2000000 in
theorem scount_any (A : Option Addr) (cap k : Nat) (hs : List PH) (w : World) (B : Nat) (hP : PAt w B A hs) :
    Calls Try.prog 35 #[.slice A hs.length cap, .int .i64 (k : Int)] w fun e w' => e = .returned (.int .i64 ((cntB (pz hs) k : Nat) : Int)) ∧ w' = w := by
  have hmx := hP.most
  unfold maxLen at hmx
  have HP := Lib.hid hP
  obtain ⟨n, HN⟩ : ∃ n, Hid (hs.length = n) := ⟨_, rfl⟩
  rw [HN.out] at hmx ⊢
  clear hP
  go_enter Try.func35, Try.ntmps35
  go_wp2
  go_loopw [5, 6] (fun x i w' => ∃ (q c : Nat), q ≤ n ∧ x = .int .i64 (c : Int) ∧ i = .int .i64 (q : Int) ∧ Hid (c = cntB ((pz hs).take q) k) ∧ c ≤ q ∧ Hid (w' = w)) (fun _ i _ => n - (intOf i).toNat)
  case atStart => exact ⟨0, 0, by omega, rfl, rfl, rfl, Nat.le_refl _, rfl⟩
  case round =>
    obtain ⟨q, c, hq, rfl, rfl, HC, hcq, HW⟩ := hrel
    have hw : wr = w := HW.out
    subst hw
    clear HW
    by_cases hlt : q < n
    · have hqz : q < hs.length := by rw [HN.out]; exact hlt
      obtain ⟨b, o, rfl, _, hc⟩ := HP.out.cell q hqz
      have C := Lib.hid (bat_any (hth hs q).a (hth hs q).c k (hth hs q).zs wr B (HP.out.one q hqz))
      have HT : Hid (cntB ((pz hs).take (q + 1)) k = c + if bth (hth hs q).zs k = true then 1 else 0) := by
        show _ = _
        rw [cntB_take (pz hs) q k (by rw [pz_length]; exact hqz), pth_pz, HC.out]
      obtain ⟨v, HV⟩ : ∃ v, Hid (bth (hth hs q).zs k = v) := ⟨_, rfl⟩
      rw [HV.out] at C HT
      obtain ⟨h, HH⟩ : ∃ h, Hid (hth hs q = h) := ⟨_, rfl⟩
      rw [HH.out] at C hc
      obtain ⟨ha, hcp, hz⟩ := h
      have hqi : (q : Int) < (n : Int) := by omega
      clear hqz
      cases v with
      | true =>
        go_wp2_with fail
        refine C.out.mono ?_
        rintro e w1 ⟨rfl, rfl⟩
        clear C
        go_wp2
        go_roundw
        case rel => exact ⟨q + 1, c + 1, by omega, by go_num, by go_num, HT.out.symm, by omega, (by first | exact Lib.hid trivial | exact Lib.hid rfl)⟩
        case measure => simp [intOf]; omega
      | false =>
        go_wp2_with fail
        refine C.out.mono ?_
        rintro e w1 ⟨rfl, rfl⟩
        clear C
        go_wp2
        go_roundw
        case rel => exact ⟨q + 1, c, by omega, rfl, by go_num, HT.out.symm, by omega, (by first | exact Lib.hid trivial | exact Lib.hid rfl)⟩
        case measure => simp [intOf]; omega
    · have hqn : q = n := by omega
      subst hqn
      have HE : Hid (c = cntB (pz hs) k) := by
        show _ = _
        rw [HC.out, ← HN.out, ← pz_length hs, List.take_length]
      go_wp2
      go_ret
      exact ⟨by rw [← HE.out]; rfl, rfl⟩

/-- l6In, answering what it decides. -/
theorem in_any (n lo hi : Int) (w : World) :
    Calls Try.prog 34 #[.int .i64 n, .int .i64 lo, .int .i64 hi] w fun e w' => e = .returned (.bool (decide (lo ≤ n ∧ n ≤ hi))) ∧ w' = w := by
  by_cases h : lo ≤ n ∧ n ≤ hi
  · rw [decide_eq_true h]
    exact (in_yes n lo hi w h.1 h.2).mono fun e w' k => ⟨k.1, k.2.symm⟩
  · rw [decide_eq_false h]
    exact (in_no n lo hi w h).mono fun e w' k => ⟨k.1, k.2.symm⟩

set_option maxHeartbeats 2000000 in
theorem srareCount_any (A : Option Addr) (cap : Nat) (hs : List PH) (b : Int) (w : World) (B : Nat) (hP : PAt w B A hs) :
    Calls Try.prog 15 #[.slice A hs.length cap, .int .i64 b] w fun e w' => e = .returned (.int .i64 (countZ (pz hs) b)) ∧ w' = w := by
  have C1 := Lib.hid (speers_any A cap hs w B hP)
  have HP := Lib.hid hP
  have C2 : Hid (∀ k : Nat, Calls Try.prog 35 #[.slice A hs.length cap, .int .i64 (k : Int)] w fun e w'' => e = .returned (.int .i64 ((cntB (pz hs) k : Nat) : Int)) ∧ w'' = w) := fun k => scount_any A cap k hs w _ HP.out
  obtain ⟨n, HN⟩ : ∃ n, Hid (hs.length = n) := ⟨_, rfl⟩
  rw [HN.out] at C1 C2 ⊢
  clear hP
  cases hok : okP (pz hs) with
  | false =>
    rw [hok] at C1
    rw [countZ_no (by rw [hok]; exact fun h => by cases h.1)]
    clear hok
    go_enter Try.func15, Try.ntmps15
    go_wp2_with fail
    refine C1.out.mono ?_
    rintro e w1 ⟨rfl, rfl⟩
    go_wp2
    go_ret
    exact ⟨rfl, rfl⟩
  | true =>
    rw [hok] at C1
    by_cases h0 : 0 ≤ b ∧ b ≤ 15
    · have HE : Hid (countZ (pz hs) b = ((cntB (pz hs) b.toNat : Nat) : Int)) := by
        show _ = _
        unfold countZ
        rw [if_pos ⟨hok, by omega, by omega⟩]
      rw [HE.out]
      obtain ⟨k, rfl⟩ : ∃ k : Nat, b = (k : Int) := ⟨b.toNat, by omega⟩
      have C3 := Lib.hid (C2.out k)
      have C4 : Hid (Calls Try.prog 34 #[.int .i64 (k : Int), .int .i64 0, .int .i64 15] w fun e w' => e = .returned (.bool true) ∧ w' = w) := by
        have := in_any (k : Int) 0 15 w; rw [decide_eq_true h0] at this; exact this
      rw [Int.toNat_natCast]
      clear hok HE C2
      go_enter Try.func15, Try.ntmps15
      go_wp2_with fail
      refine C1.out.mono ?_
      rintro e w1 ⟨rfl, rfl⟩
      go_wp2_with fail
      refine C4.out.mono ?_
      rintro e w1 ⟨rfl, rfl⟩
      go_wp2_with fail
      refine C3.out.mono ?_
      rintro e w1 ⟨rfl, rfl⟩
      go_wp2
      go_ret
      exact ⟨rfl, rfl⟩
    · rw [countZ_no (by omega)]
      have C4 : Hid (Calls Try.prog 34 #[.int .i64 b, .int .i64 0, .int .i64 15] w fun e w' => e = .returned (.bool false) ∧ w' = w) := by
        have := in_any b 0 15 w; rw [decide_eq_false h0] at this; exact this
      clear hok
      go_enter Try.func15, Try.ntmps15
      go_wp2_with fail
      refine C1.out.mono ?_
      rintro e w1 ⟨rfl, rfl⟩
      go_wp2_with fail
      refine C4.out.mono ?_
      rintro e w1 ⟨rfl, rfl⟩
      go_wp2
      go_ret
      exact ⟨rfl, rfl⟩

set_option maxHeartbeats 3000000 in
theorem srareWhole_any (A : Option Addr) (cap : Nat) (hs : List PH) (l : Int) (w : World) (B : Nat) (hP : PAt w B A hs) :
    Calls Try.prog 27 #[.slice A hs.length cap, .int .i64 l] w fun e w' => e = .returned (.int .i64 (wholeZ (pz hs) l)) ∧ w' = w := by
  have C1 := Lib.hid (speers_any A cap hs w B hP)
  have HP := Lib.hid hP
  have C2 : Hid (∀ k : Nat, Calls Try.prog 35 #[.slice A hs.length cap, .int .i64 (k : Int)] w fun e w'' => e = .returned (.int .i64 ((cntB (pz hs) k : Nat) : Int)) ∧ w'' = w) := fun k => scount_any A cap k hs w _ HP.out
  have HL0 : Hid (least (pz hs) 0 = hs.length) := pz_length hs
  obtain ⟨n, HN⟩ : ∃ n, Hid (hs.length = n) := ⟨_, rfl⟩
  rw [HN.out] at C1 C2 HL0 ⊢
  clear hP
  cases hok : okP (pz hs) with
  | false =>
    rw [hok] at C1
    rw [wholeZ_no (by rw [hok]; exact fun h => by cases h.1)]
    clear hok
    go_enter Try.func27, Try.ntmps27
    go_wp2_with fail
    refine C1.out.mono ?_
    rintro e w1 ⟨rfl, rfl⟩
    go_wp2
    go_ret
    exact ⟨rfl, rfl⟩
  | true =>
    rw [hok] at C1
    by_cases h0 : 0 ≤ l ∧ l ≤ 16
    · have HE : Hid (wholeZ (pz hs) l = ((least (pz hs) l.toNat : Nat) : Int)) := by
        show _ = _
        unfold wholeZ
        rw [if_pos ⟨hok, by omega, by omega⟩]
      rw [HE.out]
      obtain ⟨m, rfl⟩ : ∃ m : Nat, l = (m : Int) := ⟨l.toNat, by omega⟩
      have C4 : Hid (Calls Try.prog 34 #[.int .i64 (m : Int), .int .i64 0, .int .i64 16] w fun e w' => e = .returned (.bool true) ∧ w' = w) := by
        have := in_any (m : Int) 0 16 w; rw [decide_eq_true h0] at this; exact this
      rw [Int.toNat_natCast]
      clear hok HE
      go_enter Try.func27, Try.ntmps27
      go_wp2_with fail
      refine C1.out.mono ?_
      rintro e w1 ⟨rfl, rfl⟩
      go_wp2_with fail
      refine C4.out.mono ?_
      rintro e w1 ⟨rfl, rfl⟩
      go_wp2
      go_loopw [5, 6] (fun x i w' => ∃ (k c : Nat), k ≤ m ∧ x = .int .i64 (c : Int) ∧ i = .int .i64 (k : Int) ∧ Hid (least (pz hs) k = c) ∧ Hid (w' = w1)) (fun _ i _ => m - (intOf i).toNat)
      case atStart => exact ⟨0, n, by omega, rfl, rfl, HL0, (by first | exact Lib.hid trivial | exact Lib.hid rfl)⟩
      case round =>
        obtain ⟨k, c, hk, rfl, rfl, HC, HW⟩ := hrel
        have hw : wr = w1 := HW.out
        subst hw
        clear HW
        by_cases hlt : k < m
        · have hki : (k : Int) < (m : Int) := by omega
          have C3 := Lib.hid (C2.out k)
          obtain ⟨d, HD⟩ : ∃ d, Hid (cntB (pz hs) k = d) := ⟨_, rfl⟩
          rw [HD.out] at C3
          by_cases hcd : c ≤ d
          · have hci : (c : Int) ≤ (d : Int) := by omega
            have HS : Hid (least (pz hs) (k + 1) = c) := by show min _ _ = _; rw [HC.out, HD.out]; omega
            go_wp2_with fail
            refine C3.out.mono ?_
            rintro e w2 ⟨rfl, rfl⟩
            go_wp2
            go_roundw
            case rel => exact ⟨k + 1, c, by omega, by go_num, by go_num, HS, (by first | exact Lib.hid trivial | exact Lib.hid rfl)⟩
            case measure => simp [intOf]; omega
          · have hci : ¬ (c : Int) ≤ (d : Int) := by omega
            have HS : Hid (least (pz hs) (k + 1) = d) := by show min _ _ = _; rw [HC.out, HD.out]; omega
            go_wp2_with fail
            refine C3.out.mono ?_
            rintro e w2 ⟨rfl, rfl⟩
            go_wp2
            go_roundw
            case rel => exact ⟨k + 1, d, by omega, by go_num, by go_num, HS, (by first | exact Lib.hid trivial | exact Lib.hid rfl)⟩
            case measure => simp [intOf]; omega
        · have hkm : k = m := by omega
          subst hkm
          go_wp2
          go_ret
          exact ⟨by rw [HC.out]; rfl, rfl⟩
    · rw [wholeZ_no (by omega)]
      have C4 : Hid (Calls Try.prog 34 #[.int .i64 l, .int .i64 0, .int .i64 16] w fun e w' => e = .returned (.bool false) ∧ w' = w) := by
        have := in_any l 0 16 w; rw [decide_eq_false h0] at this; exact this
      clear hok
      go_enter Try.func27, Try.ntmps27
      go_wp2_with fail
      refine C1.out.mono ?_
      rintro e w1 ⟨rfl, rfl⟩
      go_wp2_with fail
      refine C4.out.mono ?_
      rintro e w1 ⟨rfl, rfl⟩
      go_wp2
      go_ret
      exact ⟨rfl, rfl⟩

end Go.Proofs.Ytgjnhfciphiciaa
