/- The walk of FnWants: it returns true and changes nothing that was there. Condition: the code's bytes lie in memory. -/
import Derived.Test.YtmgdngmcgokeeaaWalkWants
import Derived.Deep.QuietTactic
import Derived.BigQuiet
import Derived.IntWalk
namespace Go.Proofs.Ytmgdngmcgokeeaa
open Go.RowKit
set_option linter.unusedVariables false

set_option maxHeartbeats 1000000 in
theorem hasInt_any (A : Option Addr) (cap : Nat) (zs : List Int) (x : Int) (w : World) (hI : IntsAt w w.heap.size A zs) (hm : zs.length ≤ maxLen) :
    Calls Try.prog 17 #[.slice A zs.length cap, .int .i64 x] w fun e w' => e = .returned (.bool (decide (x ∈ zs))) ∧ w' = w := by
  unfold maxLen at hm
  have HI := Lib.hid hI
  clear hI
  obtain ⟨m, HM⟩ : ∃ m, Hid (zs.length = m) := ⟨_, rfl⟩
  rw [HM.out] at hm ⊢
  go_enter Try.func17, Try.ntmps17
  go_wp2
  go_loop [5] (fun i => ∃ k : Nat, k ≤ m ∧ i = .int .i64 k ∧ Hid (x ∉ zs.take k)) (fun i => m - (intOf i).toNat)
  case atStart => exact ⟨0, by omega, rfl, (by show x ∉ _; simp)⟩
  case round =>
    obtain ⟨k, hk, rfl, HN⟩ := hrel
    by_cases hlt : k < m
    · have hkz : k < zs.length := by rw [HM.out]; exact hlt
      obtain ⟨b, o, rfl, hb, hc⟩ := HI.out (by omega)
      have hck := hc k hkz
      have hki : (k : Int) < (m : Int) := by omega
      have htk : zs.take (k + 1) = zs.take k ++ [nth zs k] := by
        rw [List.take_succ_eq_append_getElem hkz, nth, List.getD_eq_getElem?_getD, List.getElem?_eq_getElem hkz]; rfl
      by_cases hv : nth zs k = x
      · have HE : Hid (decide (x ∈ zs) = true) := by
          show _ = _
          rw [decide_eq_true_iff]
          exact List.mem_of_mem_take (i := k + 1) (by rw [htk, hv]; simp)
        have hvb : (nth zs k == x) = true := by simp [hv]
        clear hc hkz htk hv
        go_wp2
        go_ret
        exact ⟨ret_bool HE.out.symm, rfl⟩
      · have HN2 : Hid (x ∉ zs.take (k + 1)) := by
          show x ∉ _
          rw [htk, List.mem_append]
          rintro (h | h)
          · exact HN.out h
          · exact hv (by have e : x = nth zs k := by simpa using h
                         exact e.symm)
        have hvb : (nth zs k == x) = false := by simp [hv]
        clear hc hkz htk hv
        go_wp2
        go_round
        case rel => exact ⟨k + 1, by omega, by go_num, HN2⟩
        case measure => simp [intOf]; omega
    · have HE : Hid (decide (x ∈ zs) = false) := by
        show _ = _
        rw [decide_eq_false_iff_not]
        have := HN.out
        rwa [List.take_of_length_le (by rw [HM.out]; omega)] at this
      go_wp2
      go_ret
      exact ⟨ret_bool HE.out.symm, rfl⟩

set_option maxHeartbeats 4000000 in
set_option maxRecDepth 100000 in
theorem walkWants (A : Option Addr) (len cap : Nat) (w : World) (hI : In w A len cap) :
    Calls Try.prog 4 #[.slice A len cap] w fun e w' => e = .returned (.bool true) ∧ Below w.heap.size w w' := by
  have hm := hI.len_le
  unfold maxLen at hm
  have HI := Lib.hid hI
  clear hI
  by_cases hlen : len ≤ 1048576
  · go_enter Try.func4, Try.ntmps4
    go_wp2_with fail
    refine (drawwants_any A len cap _ HI.out).mono ?_
    rintro e w1 ⟨b, c, xs, b1, c1, ys, rfl, hx18, hy18, hownx, howny, hb1⟩
    have HX1 := Lib.hid hownx
    have HY1 := Lib.hid howny
    have HB1 := Lib.hid hb1
    have HLX : Hid (xs.length ≤ maxLen) := by show _ ≤ _; unfold maxLen; omega
    have HLY : Hid (ys.length ≤ maxLen) := by show _ ≤ _; unfold maxLen; omega
    clear hownx howny hb1
    go_wp2_with fail
    refine (bitsWants_any _ c xs _ c1 ys _ HX1.out.ints HY1.out.ints).mono ?_
    rintro e w2 ⟨A2, c2, rfl, hown2, hb2⟩
    have HO2 := Lib.hid hown2
    have HX2 := Lib.hid (HX1.out.below hb2)
    have HY2 := Lib.hid (HY1.out.below hb2)
    have HB2 : Hid (Below w.heap.size w w2) := HB1.out.trans (hb2.mono HB1.out.size)
    clear hown2 hb2
    go_wp2_with fail
    refine (sbitsWants_any _ c xs _ c1 ys _ HX2.out.ints HY2.out.ints HLX.out HLY.out).mono ?_
    rintro e w3 ⟨A3, c3, rfl, hown3, hb3⟩
    have HO3 := Lib.hid hown3
    have HO23 := Lib.hid (HO2.out.below hb3)
    have HX3 := Lib.hid (HX2.out.below hb3)
    have HY3 := Lib.hid (HY2.out.below hb3)
    have HB3 : Hid (Below w.heap.size w w3) := HB2.out.trans (hb3.mono HB2.out.size)
    clear hown3 hb3
    have HWM : Hid ((wantsOr xs ys).length ≤ maxLen) := by show _ ≤ _; have := wantsOr_short xs ys; unfold maxLen; omega
    go_wp2_with fail
    refine (same_any A2 c2 _ A3 c3 _ _ HO23.out.ints HO3.out.ints HWM.out HWM.out).mono ?_
    rintro e w' ⟨rfl, q, rfl⟩
    rw [deci_self]
    by_cases h16 : xs.length ≤ 16 ∧ ys.length ≤ 16
    · obtain ⟨hx16, hy16⟩ := h16
      have hdx : decide (16 < xs.length) = false := by simp; omega
      have hdy : decide (16 < ys.length) = false := by simp; omega
      obtain ⟨L, HL⟩ : ∃ L, Hid ((wantsOr xs ys).length = L) := ⟨_, rfl⟩
      have hL : L ≤ 16 := by rw [← HL.out]; exact wantsOr_short xs ys
      rw [HL.out]
      have HWK : Hid (wantsOr xs ys = wantsK xs ys xs.length) := wantsOr_yes hx16 hy16
      have HUP : Hid ((wantsOr xs ys).Pairwise (· < ·)) := by show List.Pairwise _ _; rw [HWK.out]; exact wantsK_up xs ys _
      have HMEM : Hid (∀ k : Nat, k < xs.length → (decide ((k : Int) ∈ wantsOr xs ys) = (bth xs k && !bth ys k))) := by
        intro k hk
        rw [HWK.out, Bool.eq_iff_iff, decide_eq_true_iff, wantsK_mem]
        constructor
        · rintro ⟨i, hi, e, h1, h2⟩
          obtain rfl : k = i := by omega
          simp [h1, h2]
        · intro h
          simp at h
          exact ⟨k, hk, rfl, h.1, h.2⟩
      have HLM : Hid (L ≤ maxLen) := by show _ ≤ _; unfold maxLen; omega
      obtain ⟨m, HM⟩ : ∃ m, Hid (xs.length = m) := ⟨_, rfl⟩
      obtain ⟨m1, HM1⟩ : ∃ m1, Hid (ys.length = m1) := ⟨_, rfl⟩
      rw [HM.out] at hx16 hx18 hdx ⊢
      rw [HM1.out] at hy16 hy18 hdy ⊢
      go_wp2
      go_loopw [6] (fun i wr => ∃ k : Nat, k ≤ m ∧ i = .int .i64 k ∧ Hid (OwnBools wr w.heap.size (some ⟨b, 0, none⟩) c xs ∧ OwnBools wr w.heap.size (some ⟨b1, 0, none⟩) c1 ys ∧ OwnInts wr w1.heap.size A2 c2 (wantsOr xs ys)) ∧ Hid (Below w.heap.size w wr)) (fun i _ => m - (intOf i).toNat)
      case atStart => exact ⟨0, by omega, rfl, ⟨HX3.out.drewN q, HY3.out.drewN q, HO23.out.drewN q⟩, below_drewN HB3.out q⟩
      case round =>
        clear HX3 HY3 HO23 HO3 HB3 HX2 HY2 HO2 HB2 HX1 HY1
        obtain ⟨k, hk, rfl, HA, HB⟩ := hrel
        by_cases hlx : k < m
        · have hzx : k < xs.length := by rw [HM.out]; exact hlx
          have hcx := (HA.out.1.ints.lt (by omega)).2 k hzx
          rw [Nat.zero_add] at hcx
          have hkx : (k : Int) < (m : Int) := by omega
          have hk0 : (0 : Int) ≤ (k : Int) := by omega
          have hmem := HMEM.out k hzx
          have HC : ∀ r : Bool, Hid ((bth xs k && !bth ys k) = r) → Hid (∀ n, Calls Try.prog 17 #[.slice A2 L c2, .int .i64 (k : Int)] (wr.drewN n) fun e w' => e = .returned (.bool r) ∧ w' = wr.drewN n) := by
            intro r hr n
            have := hasInt_any A2 c2 (wantsOr xs ys) (k : Int) (wr.drewN n) (HA.out.2.2.drewN n).ints (by rw [HL.out]; exact HLM.out)
            rw [hmem, hr.out, HL.out] at this
            exact this
          clear hmem
          cases hv : bth xs k with
          | false =>
            have HC0 := HC false (by show _ = _; rw [hv]; rfl)
            rw [hv] at hcx
            clear HC hv hzx
            go_wp2_with fail
            go_quiet ((go_at_call 17; exact Calls.quiet_of_same (HC0.out _)))
            go_wp2
            go_roundw
            case rel => exact ⟨k + 1, by omega, by go_num, ⟨HA.out.1.drewN _, HA.out.2.1.drewN _, HA.out.2.2.drewN _⟩, below_drewN HB.out _⟩
            case measure => simp [intOf]; omega
          | true =>
            rw [hv] at hcx
            by_cases hly : k < m1
            · have hzy : k < ys.length := by rw [HM1.out]; exact hly
              have hcy := (HA.out.2.1.ints.lt (by omega)).2 k hzy
              rw [Nat.zero_add] at hcy
              have hky : (k : Int) < (m1 : Int) := by omega
              have hdk : decide (m1 ≤ k) = false := by simp; omega
              cases hu : bth ys k with
              | false =>
                have HC0 := HC true (by show _ = _; rw [hv, hu]; rfl)
                rw [hu] at hcy
                clear HC hv hu hzx hzy
                go_wp2_with fail
                go_quiet ((go_at_call 17; exact Calls.quiet_of_same (HC0.out _)))
                go_wp2
                go_roundw
                case rel => exact ⟨k + 1, by omega, by go_num, ⟨HA.out.1.drewN _, HA.out.2.1.drewN _, HA.out.2.2.drewN _⟩, below_drewN HB.out _⟩
                case measure => simp [intOf]; omega
              | true =>
                have HC0 := HC false (by show _ = _; rw [hv, hu]; rfl)
                rw [hu] at hcy
                clear HC hv hu hzx hzy
                go_wp2_with fail
                go_quiet ((go_at_call 17; exact Calls.quiet_of_same (HC0.out _)))
                go_wp2
                go_roundw
                case rel => exact ⟨k + 1, by omega, by go_num, ⟨HA.out.1.drewN _, HA.out.2.1.drewN _, HA.out.2.2.drewN _⟩, below_drewN HB.out _⟩
                case measure => simp [intOf]; omega
            · have hdk : decide (m1 ≤ k) = true := by simp; omega
              have HC0 := HC true (by show _ = _; rw [hv, bth_beyond (bs := ys) (k := k) (by rw [HM1.out]; omega)]; rfl)
              clear HC hv hzx
              go_wp2_with fail
              go_quiet ((go_at_call 17; exact Calls.quiet_of_same (HC0.out _)))
              go_wp2
              go_roundw
              case rel => exact ⟨k + 1, by omega, by go_num, ⟨HA.out.1.drewN _, HA.out.2.1.drewN _, HA.out.2.2.drewN _⟩, below_drewN HB.out _⟩
              case measure => simp [intOf]; omega
        · have HW := Lib.hid HA.out.2.2
          obtain ⟨w4, HW4⟩ : ∃ w4, Hid (wr = w4) := ⟨_, rfl⟩
          rw [HW4.out] at HW HB ⊢
          clear HMEM HA HW4
          go_wp2
          go_loopw [7] (fun i wr => ∃ j : Nat, (j = 0 ∨ j + 1 ≤ L) ∧ i = .int .i64 ((j : Int) + 1) ∧ ∃ q, wr = w4.drewN q) (fun i _ => L + 1 - (intOf i).toNat)
          case atStart => exact ⟨0, .inl rfl, rfl, 0, rfl⟩
          case round =>
            obtain ⟨j, hj, rfl, q4, rfl⟩ := hrel
            by_cases hlt : j + 1 < L
            · obtain ⟨bo, oo, rfl, hbo, hco⟩ := HW.out.ints (by rw [HL.out]; omega)
              have h1 := hco j (by rw [HL.out]; omega)
              have h2 := hco (j + 1) (by rw [HL.out]; omega)
              have hup := up_nth HUP.out (k := j) (by rw [HL.out]; omega)
              have hge : decide (nth (wantsOr xs ys) (j + 1) ≤ nth (wantsOr xs ys) j) = false := by simp; omega
              have hw1 : IntKind.i64.wrap ((j : Int) + 1 - 1) = (j : Int) := by rw [show (j : Int) + 1 - 1 = (j : Int) by omega]; exact IntWalk.i64_in _ (by omega)
              have hw2 : IntKind.i64.wrap (j : Int) = (j : Int) := IntWalk.i64_in _ (by omega)
              have hj0 : (0 : Int) ≤ (j : Int) := by omega
              have hj1 : (j : Int) < (L : Int) := by omega
              have hj2 : (0 : Int) ≤ (j : Int) + 1 := by omega
              have hj3 : (j : Int) + 1 < (L : Int) := by omega
              have hj4 : ((j : Int) + 1).toNat = j + 1 := by omega
              have hjn : j < L := by omega
              clear hco hup
              go_wp2_with fail
              go_quiet (fail)
              clear hw1 hw2 hj4
              go_wp2
              go_roundw
              case rel => exact ⟨j + 1, .inr (by omega), by go_num, _, rfl⟩
              case measure => simp [intOf]; omega
            · have hge : (L : Int) ≤ (j : Int) + 1 := by omega
              go_wp2
              go_ret
              exact ⟨rfl, below_drewN HB.out _⟩
    · have hcases : (16 < xs.length) ∨ (xs.length ≤ 16 ∧ 16 < ys.length) := by omega
      clear h16
      rcases hcases with h | ⟨h, h'⟩
      · have hdx : decide (16 < xs.length) = true := by simp [h]
        go_wp2_with fail
        refine (sbitsWants_any _ c xs _ c1 ys _ (HX3.out.drewN q).ints (HY3.out.drewN q).ints HLX.out HLY.out).mono ?_
        rintro e w4 ⟨A4, c4, rfl, hown4, hb4⟩
        have HO4 := Lib.hid hown4
        have HO24 := Lib.hid ((HO23.out.drewN q).below hb4)
        have HB4 : Hid (Below w.heap.size w w4) := HB3.out.trans ((below_drewN_l hb4).mono HB3.out.size)
        clear hown4 hb4
        go_wp2_with fail
        refine (same_any A2 c2 _ A4 c4 _ _ HO24.out.ints HO4.out.ints HWM.out HWM.out).mono ?_
        rintro e w' ⟨rfl, q1, rfl⟩
        rw [deci_self]
        go_wp2
        go_ret
        exact ⟨rfl, below_drewN HB4.out _⟩
      · have hdx : decide (16 < xs.length) = false := by simp; omega
        have hdy : decide (16 < ys.length) = true := by simp [h']
        go_wp2_with fail
        refine (sbitsWants_any _ c xs _ c1 ys _ (HX3.out.drewN q).ints (HY3.out.drewN q).ints HLX.out HLY.out).mono ?_
        rintro e w4 ⟨A4, c4, rfl, hown4, hb4⟩
        have HO4 := Lib.hid hown4
        have HO24 := Lib.hid ((HO23.out.drewN q).below hb4)
        have HB4 : Hid (Below w.heap.size w w4) := HB3.out.trans ((below_drewN_l hb4).mono HB3.out.size)
        clear hown4 hb4
        go_wp2_with fail
        refine (same_any A2 c2 _ A4 c4 _ _ HO24.out.ints HO4.out.ints HWM.out HWM.out).mono ?_
        rintro e w' ⟨rfl, q1, rfl⟩
        rw [deci_self]
        go_wp2
        go_ret
        exact ⟨rfl, below_drewN HB4.out _⟩
  · have h9 : 1048576 < len := by omega
    clear hlen
    go_enter Try.func4, Try.ntmps4
    go_wp2
    go_ret
    exact ⟨rfl, Below.refl _ _⟩

end Go.Proofs.Ytmgdngmcgokeeaa
