/- Contracts of the small functions over lists of integers: areDigests, leavesValid, l2Leaves, l2Digests, sameInts, eqIntS. Conditions: the lists lie in memory and are no longer than a slice can be. -/
import Derived.Test.YtgpmodidpdjhkaaWords
import Derived.Test.YtgpmodidpdjhkaaTreeMath
import Derived.Deep.QuietTactic
import Derived.BigQuiet
namespace Go.Proofs.Ytgpmodidpdjhkaa
open Go.RowKit

def digB (zs : List Int) : Bool := zs.all validB
theorem digB_yes {zs : List Int} (h : digB zs = true) : Digs zs := fun x hx => (validB_iff x).1 (List.all_eq_true.1 h x hx)
theorem digB_of {zs : List Int} (h : Digs zs) : digB zs = true := List.all_eq_true.2 fun x hx => (validB_iff x).2 (h x hx)
theorem digB_take (zs : List Int) (k : Nat) (h : k < zs.length) : digB (zs.take (k + 1)) = (digB (zs.take k) && validB (nth zs k)) := by
  unfold digB
  rw [List.take_succ_eq_append_getElem h, List.all_append, nth, List.getD_eq_getElem?_getD, List.getElem?_eq_getElem h]
  simp
theorem digB_no {zs : List Int} (k : Nat) (h : k < zs.length) (hv : ¬ (0 ≤ nth zs k ∧ nth zs k < 991)) : digB zs = false := by
  cases e : digB zs with
  | false => rfl
  | true =>
    refine absurd (digB_yes e (nth zs k) ?_) hv
    rw [nth, List.getD_eq_getElem?_getD, List.getElem?_eq_getElem h]
    exact List.getElem_mem h
theorem digB_all {zs : List Int} (k : Nat) (h : zs.length ≤ k) (hv : digB (zs.take k) = true) : digB zs = true := by rwa [List.take_of_length_le h] at hv

set_option maxHeartbeats 800000 in
theorem are_any (A : Option Addr) (cap : Nat) (zs : List Int) (w : World) (hI : IntsAt w w.heap.size A zs) (hm : zs.length ≤ maxLen) :
    Calls Try.prog 65 #[.slice A zs.length cap] w fun e w' => e = .returned (.bool (digB zs)) ∧ w = w' := by
  unfold maxLen at hm
  have HI := Lib.hid hI
  clear hI
  obtain ⟨n, HN⟩ : ∃ n, Hid (zs.length = n) := ⟨_, rfl⟩
  rw [HN.out] at hm ⊢
  go_enter Try.func65, Try.ntmps65
  go_wp2
  go_loop [7] (fun i => ∃ k : Nat, k ≤ n ∧ i = .int .i64 k ∧ Hid (digB (zs.take k) = true)) (fun i => n - (intOf i).toNat)
  case atStart => exact ⟨0, Nat.zero_le _, rfl, rfl⟩
  case round =>
    obtain ⟨k, hk, rfl, HD⟩ := hrel
    by_cases hlt : k < n
    · have hlz : k < zs.length := by rw [HN.out]; exact hlt
      obtain ⟨b, o, rfl, hb, hc⟩ := HI.out (by omega)
      have hck := hc k hlz
      by_cases hv : 0 ≤ nth zs k ∧ nth zs k < 991
      · have HT : Hid (digB (zs.take (k + 1)) = true) := by show _ = _; rw [digB_take zs k hlz, HD.out, (validB_iff _).2 hv]; rfl
        obtain ⟨hv0, hv1⟩ := hv
        clear hc hlz
        go_wp2_with fail
        refine (valid_yes _ _ (by omega) (by omega)).mono ?_
        rintro e w' ⟨rfl, rfl⟩
        go_wp2
        go_round
        case rel => exact ⟨k + 1, by omega, by go_num, HT⟩
        case measure => simp [intOf]; omega
      · have HE := Lib.hid (digB_no k hlz hv)
        have HV := Lib.hid hv
        clear hc hlz hv
        go_wp2_with fail
        refine (valid_no _ _ HV.out).mono ?_
        rintro e w' ⟨rfl, rfl⟩
        go_wp2
        go_ret
        exact ⟨ret_bool HE.out.symm, rfl⟩
    · have HE : Hid (digB zs = true) := digB_all k (by rw [HN.out]; omega) HD.out
      go_wp2
      go_ret
      exact ⟨ret_bool HE.out.symm, rfl⟩

/-- Leaves are valid. -/
def leavesB (zs : List Int) : Bool := decide (zs.length ≤ 16) && digB zs
theorem leavesB_yes {zs : List Int} (h : leavesB zs = true) : zs.length ≤ 16 ∧ Digs zs := by
  unfold leavesB at h
  simp only [Bool.and_eq_true, decide_eq_true_eq] at h
  exact ⟨h.1, digB_yes h.2⟩
theorem leavesB_of {zs : List Int} (h : zs.length ≤ 16) (hd : Digs zs) : leavesB zs = true := by
  unfold leavesB; simp only [Bool.and_eq_true, decide_eq_true_eq]; exact ⟨h, digB_of hd⟩

set_option maxHeartbeats 400000 in
theorem leaves_any (A : Option Addr) (cap : Nat) (zs : List Int) (w : World) (hI : IntsAt w w.heap.size A zs) (hm : zs.length ≤ maxLen) :
    Calls Try.prog 57 #[.slice A zs.length cap] w fun e w' => e = .returned (.bool (leavesB zs)) ∧ w = w' := by
  have HI := Lib.hid hI
  have HM := Lib.hid hm
  unfold maxLen at hm
  clear hI
  by_cases h16 : zs.length ≤ 16
  · have HE : Hid (leavesB zs = digB zs) := by show _ = _; unfold leavesB; simp [h16]
    go_enter Try.func57, Try.ntmps57
    go_wp2_with fail
    refine (are_any _ _ zs _ HI.out HM.out).mono ?_
    rintro e w' ⟨rfl, rfl⟩
    go_wp2
    go_ret
    exact ⟨ret_bool (by rw [HE.out]), rfl⟩
  · have HE : Hid (leavesB zs = false) := by show _ = _; unfold leavesB; simp [h16]
    go_enter Try.func57, Try.ntmps57
    go_wp2
    go_ret
    exact ⟨ret_bool (by rw [HE.out]), rfl⟩

set_option maxHeartbeats 800000 in
theorem sdigs_any (A : Option Addr) (cap : Nat) (zs : List Int) (w : World) (hI : IntsAt w w.heap.size A zs) (hm : zs.length ≤ maxLen) :
    Calls Try.prog 94 #[.slice A zs.length cap] w fun e w' => e = .returned (.bool (leavesB zs)) ∧ w = w' := by
  unfold maxLen at hm
  have HI := Lib.hid hI
  clear hI
  obtain ⟨n, HN⟩ : ∃ n, Hid (zs.length = n) := ⟨_, rfl⟩
  rw [HN.out] at hm ⊢
  go_enter Try.func94, Try.ntmps94
  go_wp2
  go_loop [3] (fun i => ∃ k : Nat, k ≤ n ∧ i = .int .i64 k ∧ Hid (digB (zs.take k) = true)) (fun i => n - (intOf i).toNat)
  case atStart => exact ⟨0, Nat.zero_le _, rfl, rfl⟩
  case round =>
    obtain ⟨k, hk, rfl, HD⟩ := hrel
    by_cases hlt : k < n
    · have hlz : k < zs.length := by rw [HN.out]; exact hlt
      obtain ⟨b, o, rfl, hb, hc⟩ := HI.out (by omega)
      have hck := hc k hlz
      by_cases hv : 0 ≤ nth zs k ∧ nth zs k < 991
      · have HT : Hid (digB (zs.take (k + 1)) = true) := by show _ = _; rw [digB_take zs k hlz, HD.out, (validB_iff _).2 hv]; rfl
        obtain ⟨hv0, hv1⟩ := hv
        clear hc hlz
        go_wp2_with fail
        refine (sdig_yes _ _ (by omega) (by omega)).mono ?_
        rintro e w' ⟨rfl, rfl⟩
        go_wp2
        go_round
        case rel => exact ⟨k + 1, by omega, by go_num, HT⟩
        case measure => simp [intOf]; omega
      · have HE : Hid (leavesB zs = false) := by show _ = _; unfold leavesB; rw [digB_no k hlz hv]; simp
        have HV := Lib.hid hv
        clear hc hlz hv
        go_wp2_with fail
        refine (sdig_no _ _ HV.out).mono ?_
        rintro e w' ⟨rfl, rfl⟩
        go_wp2
        go_ret
        exact ⟨ret_bool HE.out.symm, rfl⟩
    · have HE : Hid (leavesB zs = decide (n ≤ 16)) := by show _ = _; unfold leavesB; rw [digB_all k (by rw [HN.out]; omega) HD.out, HN.out]; simp
      go_wp2
      all_goals
        go_ret
        exact ⟨ret_bool (by rw [HE.out]; simp; omega), rfl⟩

end Go.Proofs.Ytgpmodidpdjhkaa
