/- The searches of the model and of the laws in a list of integers; the model's range check. Condition: the list lies in memory. -/
import Derived.Test.YteceamnmcningaaBaseA
import Derived.Lib.Hide
namespace Go.Proofs.Yteceamnmcningaa
open Go.RowKit
set_option linter.unusedVariables false



set_option maxHeartbeats 2000000 in
set_option maxRecDepth 100000 in
theorem hasL_any (A : Option Addr) (cap : Nat) (xs : List Int) (a : Int) (w : World) (hI : IntsAt w w.heap.size A xs) (hm : xs.length ≤ maxLen) :
    Calls Try.prog 29 #[.slice A xs.length cap, .int .i64 a] w fun e w' => e = .returned (.bool (decide (a ∈ xs))) ∧ w' = w := by
  unfold maxLen at hm
  have HI := Lib.hid hI
  obtain ⟨n, HN⟩ : ∃ n, Hid (xs.length = n) := ⟨_, rfl⟩
  rw [HN.out] at hm ⊢
  clear hI
  go_enter Try.func29, Try.ntmps29
  go_wp2
  go_loop [5] (fun i => ∃ k : Nat, k ≤ n ∧ i = .int .i64 (k : Int) ∧ Hid (a ∉ xs.take k)) (fun i => n - (intOf i).toNat)
  case atStart => exact ⟨0, Nat.zero_le _, rfl, by show a ∉ List.take 0 xs; simp⟩
  case round =>
    obtain ⟨k, hk, rfl, HK⟩ := hrel
    by_cases hlt : k < n
    · have hkz : k < xs.length := by rw [HN.out]; exact hlt
      obtain ⟨b, o, rfl, hb, hc⟩ := HI.out (by omega)
      have hck := hc k hkz
      obtain ⟨x, HX⟩ : ∃ x, Hid (nth xs k = x) := ⟨_, rfl⟩
      have HT : Hid (xs.take (k + 1) = xs.take k ++ [x]) := by
        show _ = _
        rw [List.take_succ_eq_append_getElem hkz, ← HX.out]
        unfold nth
        rw [List.getD_eq_getElem?_getD, List.getElem?_eq_getElem hkz]; rfl
      rw [HX.out] at hck
      have hki : (k : Int) < (n : Int) := by omega
      have hk0 : (0 : Int) ≤ (k : Int) := by omega
      clear hc hkz hb
      by_cases hxa : x = a
      · subst hxa
        have HM : Hid (decide (x ∈ xs) = true) := decide_eq_true (List.mem_of_mem_take (i := k + 1) (by rw [HT.out]; simp))
        have hee : (x == x) = true := by simp
        go_wp2
        go_ret
        exact ⟨ret_bool HM.out.symm, rfl⟩
      · have hne : (x == a) = false := beq_eq_false_iff_ne.2 hxa
        have HK' : Hid (a ∉ xs.take (k + 1)) := by
          show _
          rw [HT.out, List.mem_append]
          rintro (h | h)
          · exact HK.out h
          · exact hxa (List.mem_singleton.1 h).symm
        clear hxa
        go_wp2
        go_round
        case rel => exact ⟨k + 1, by omega, by go_num, HK'⟩
        case measure => simp [intOf]; omega
    · have hkn : k = n := by omega
      subst hkn
      have HM : Hid (decide (a ∈ xs) = false) := decide_eq_false (by have h := HK.out; rw [← HN.out, List.take_length] at h; exact h)
      go_wp2
      go_ret
      exact ⟨ret_bool HM.out.symm, rfl⟩

theorem l6in_any (a lo hi : Int) (w : World) :
    Calls Try.prog 38 #[.int .i64 a, .int .i64 lo, .int .i64 hi] w fun e w' => e = .returned (.bool (decide (lo ≤ a) && decide (a ≤ hi))) ∧ w' = w := by
  by_cases h1 : lo ≤ a
  · by_cases h2 : a ≤ hi
    · rw [decide_eq_true h1, decide_eq_true h2]
      exact (in_yes a lo hi w h1 h2).mono fun e w' ⟨he, hw⟩ => ⟨he, hw.symm⟩
    · rw [decide_eq_true h1, decide_eq_false h2]
      exact (in_no a lo hi w (fun h => h2 h.2)).mono fun e w' ⟨he, hw⟩ => ⟨he, hw.symm⟩
  · rw [decide_eq_false h1]
    exact (in_no a lo hi w (fun h => h1 h.1)).mono fun e w' ⟨he, hw⟩ => ⟨he, hw.symm⟩

end Go.Proofs.Yteceamnmcningaa
