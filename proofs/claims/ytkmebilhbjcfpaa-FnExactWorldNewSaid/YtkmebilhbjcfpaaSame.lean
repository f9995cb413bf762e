/- Contract of the laws' function sameInts: it reports whether two slices read as the same list; it changes nothing. Condition: both lie in memory. -/
import Derived.Test.YtkmebilhbjcfpaaBaseA
import Derived.Deep.QuietTactic
import Derived.BigQuiet
namespace Go.Proofs.Ytkmebilhbjcfpaa
open Go.RowKit
set_option linter.unusedVariables false

theorem same_take (a b : List Int) (k : Nat) (ha : k < a.length) (hb : k < b.length) (h : a.take k = b.take k) (e : nth a k = nth b k) : a.take (k + 1) = b.take (k + 1) := by
  rw [List.take_succ_eq_append_getElem ha, List.take_succ_eq_append_getElem hb, h]
  unfold nth at e
  rw [List.getD_eq_getElem?_getD, List.getD_eq_getElem?_getD, List.getElem?_eq_getElem ha, List.getElem?_eq_getElem hb] at e
  simp at e
  rw [e]
theorem same_ne (a b : List Int) (k : Nat) (e : nth a k ≠ nth b k) : decide (a = b) = false := by
  rw [decide_eq_false_iff_not]
  intro h
  subst h
  exact e rfl

set_option maxHeartbeats 1000000 in
theorem same_any (A : Option Addr) (cap : Nat) (xs : List Int) (A1 : Option Addr) (cap1 : Nat) (ys : List Int) (w : World) (hI : IntsAt w w.heap.size A xs) (hJ : IntsAt w w.heap.size A1 ys) (hm : xs.length ≤ maxLen) (hm1 : ys.length ≤ maxLen) :
    Calls Try.prog 25 #[.slice A xs.length cap, .slice A1 ys.length cap1] w fun e w' => e = .returned (.bool (decide (xs = ys))) ∧ ∃ q, w' = w.drewN q := by
  unfold maxLen at hm hm1
  have HI := Lib.hid hI
  have HJ := Lib.hid hJ
  clear hI hJ
  by_cases hl : xs.length = ys.length
  · obtain ⟨n, HN⟩ : ∃ n, Hid (xs.length = n) := ⟨_, rfl⟩
    have HN1 : Hid (ys.length = n) := by show _ = _; rw [← hl]; exact HN.out
    rw [HN.out] at hm ⊢
    rw [HN1.out] at hm1 ⊢
    clear hl
    go_enter Try.func25, Try.ntmps25
    go_wp2
    go_loopw [5] (fun i w' => ∃ k : Nat, k ≤ n ∧ i = .int .i64 k ∧ Hid (xs.take k = ys.take k) ∧ ∃ q, w' = w.drewN q) (fun i _ => n - (intOf i).toNat)
    case atStart => exact ⟨0, Nat.zero_le _, rfl, rfl, 0, rfl⟩
    case round =>
      obtain ⟨k, hk, rfl, HD, q, rfl⟩ := hrel
      by_cases hlt : k < n
      · have hlx : k < xs.length := by rw [HN.out]; exact hlt
        have hly : k < ys.length := by rw [HN1.out]; exact hlt
        obtain ⟨b, o, rfl, hb, hc⟩ := HI.out (by omega)
        obtain ⟨b1, o1, rfl, hb1, hc1⟩ := HJ.out (by omega)
        have hck := hc k hlx
        have hck1 := hc1 k hly
        have hk0 : (0 : Int) ≤ (k : Int) := by omega
        have hk1 : (k : Int) < (n : Int) := by omega
        by_cases hv : nth xs k = nth ys k
        · have HT : Hid (xs.take (k + 1) = ys.take (k + 1)) := same_take xs ys k hlx hly HD.out hv
          have hvb : (nth xs k != nth ys k) = false := by simp [hv]
          clear hc hc1 hlx hly hv
          go_wp2_with fail
          go_quiet (fail)
          go_wp2
          go_roundw
          case rel => exact ⟨k + 1, by omega, by go_num, HT, _, rfl⟩
          case measure => simp [intOf]; omega
        · have HE := Lib.hid (same_ne xs ys k hv)
          have hvb : (nth xs k != nth ys k) = true := by simp [hv]
          clear hc hc1 hlx hly hv
          go_wp2_with fail
          go_quiet (fail)
          go_wp2
          go_ret
          exact ⟨ret_bool HE.out.symm, _, by first | rfl | exact World.drewN_drewN _ _ _⟩
      · have HE : Hid (decide (xs = ys) = true) := by
          show _ = _
          rw [decide_eq_true_iff]
          have := HD.out
          rw [List.take_of_length_le (by rw [HN.out]; omega), List.take_of_length_le (by rw [HN1.out]; omega)] at this
          exact this
        go_wp2
        go_ret
        exact ⟨ret_bool HE.out.symm, _, rfl⟩
  · have HE : Hid (decide (xs = ys) = false) := by show _ = _; rw [decide_eq_false_iff_not]; exact fun e => hl (by rw [e])
    have hne : ((xs.length : Int) != (ys.length : Int)) = true := by simp; omega
    clear hl
    go_enter Try.func25, Try.ntmps25
    go_wp2
    go_ret
    exact ⟨ret_bool HE.out.symm, 0, rfl⟩

end Go.Proofs.Ytkmebilhbjcfpaa
