/- Contracts of treePlace and of the model's l2Peak: which peak has a leaf. Conditions: at most 16 leaves, the index is of one of them. -/
import Derived.Test.YtlkgadgjcjpdcaaDoorSib
namespace Go.Proofs.YtlkgadgjcjpdcaaDoor
open Go.RowKit
set_option linter.unusedVariables false

/-- Where the k-th peak of n leaves begins, and its size. -/
def atOf (n k : Nat) : Nat := ((places 0 n).getD k (0, 1)).1
def szOf (n k : Nat) : Nat := ((places 0 n).getD k (0, 1)).2
theorem look_place : allNI (fun n i => decide (placeOf n i < (places 0 n).length) && decide (atOf n 0 = 0) && (List.range (places 0 n).length).all fun k =>
    decide (szOf n k = sizeAt (atOf n k) (n - atOf n k)) && decide (atOf n k + szOf n k ≤ n) && decide (1 ≤ szOf n k) && (decide (placeOf n i < k) || decide (atOf n k ≤ i)) && (decide (placeOf n i ≤ k) || (decide (atOf n k + szOf n k ≤ i) && decide (atOf n (k + 1) = atOf n k + szOf n k))) && (decide (k ≠ placeOf n i) || decide (i < atOf n k + szOf n k))) = true := by decide +kernel
theorem place_facts {n i : Nat} (h : n ≤ 16) (hi : i < n) : placeOf n i < (places 0 n).length ∧ atOf n 0 = 0 ∧ ∀ k, k ≤ placeOf n i →
    szOf n k = sizeAt (atOf n k) (n - atOf n k) ∧ atOf n k + szOf n k ≤ n ∧ 1 ≤ szOf n k ∧ atOf n k ≤ i ∧ (k < placeOf n i → atOf n k + szOf n k ≤ i ∧ atOf n (k + 1) = atOf n k + szOf n k) ∧ (k = placeOf n i → i < atOf n k + szOf n k) := by
  have := allNI_get look_place h hi
  simp only [Bool.and_eq_true, Bool.or_eq_true, List.all_eq_true, List.mem_range, decide_eq_true_eq] at this
  obtain ⟨⟨h1, h2⟩, h3⟩ := this
  refine ⟨h1, h2, fun k hk => ?_⟩
  obtain ⟨⟨⟨⟨⟨a, b⟩, c⟩, d⟩, e⟩, f⟩ := h3 k (by omega)
  exact ⟨a, b, c, by omega, fun hlt => by rcases e with e | e; omega; exact e, fun heq => by rcases f with f | f; exact absurd heq f; exact f⟩

set_option maxHeartbeats 2000000 in
theorem place_any (n i : Nat) (A : Option Addr) (c : Nat) (w : World) (hI : IntsAt w w.heap.size A (natsZ (sizesOf 0 n))) (h16 : n ≤ 16) (hi : i < n) :
    Calls Tryd.prog 25 #[.slice A (sizesOf 0 n).length c, .int .i64 (i : Int)] w fun e w' => e = .returned (.int .i64 (placeOf n i : Int)) ∧ w = w' := by
  have HI := Lib.hid hI
  obtain ⟨hp1, hp2, hp3⟩ := place_facts h16 hi
  have HP := Lib.hid hp3
  obtain ⟨m, HM⟩ : ∃ m, Hid ((sizesOf 0 n).length = m) := ⟨_, rfl⟩
  have hpm : placeOf n i < m := by rw [← HM.out, sizesOf_length]; exact hp1
  have hm : m ≤ 17 := by rw [← HM.out, sizesOf_length]; exact places_length_le 0 n
  obtain ⟨p, HPP⟩ : ∃ p, Hid (placeOf n i = p) := ⟨_, rfl⟩
  rw [HPP.out] at hpm HP ⊢
  rw [HM.out]
  have H0 := Lib.hid hp2
  clear hI hp1 hp2 hp3
  go_enter Tryd.func25, Tryd.ntmps25
  go_wp2
  go_loop [1, 5] (fun ii pl => ∃ k : Nat, k ≤ p ∧ ii = .int .i64 ((i - atOf n k : Nat) : Int) ∧ pl = .int .i64 k) (fun _ pl => p - (intOf pl).toNat)
  case atStart => exact ⟨0, by omega, by rw [H0.out]; rfl, rfl⟩
  case round =>
    obtain ⟨k, hk, rfl, rfl⟩ := hrel
    obtain ⟨f1, f2, f3, f4, f5, f6⟩ := HP.out k hk
    have hkm : k < m := by omega
    have hkz : k < (natsZ (sizesOf 0 n)).length := by rw [natsZ_length, HM.out]; exact hkm
    obtain ⟨b, o, rfl, hb, hcell⟩ := HI.out (by omega)
    have hck := hcell k hkz
    rw [natsZ_nth, sizesOf_getD 0 n k (by rw [← sizesOf_length, HM.out]; exact hkm)] at hck
    have hcs : w.cell? ⟨b, o + k, none⟩ = some (.int .i64 (szOf n k : Int)) := hck
    obtain ⟨s, HS⟩ : ∃ s, Hid (szOf n k = s) := ⟨_, rfl⟩
    obtain ⟨a, HA⟩ : ∃ a, Hid (atOf n k = a) := ⟨_, rfl⟩
    rw [HS.out] at hcs f2 f3 f5 f6
    rw [HA.out] at f2 f4 f5 f6 ⊢
    obtain ⟨q, HQ⟩ : ∃ q, Hid (i - a = q) := ⟨_, rfl⟩
    rw [HQ.out]
    have hki : (k : Int) < (m : Int) := by omega
    clear hcell hck hkz f1
    by_cases hlt : k < p
    · obtain ⟨g1, g2⟩ := f5 hlt
      have HG := Lib.hid g2
      have hsq : (s : Int) ≤ (q : Int) := by have := HQ.out; omega
      have hq16 : q ≤ 16 := by have := HQ.out; omega
      clear f5 f6 g2
      go_wp2
      go_round
      case rel => exact ⟨k + 1, by omega, by rw [HG.out]; have := HQ.out; go_num, by go_num⟩
      case measure => simp [intOf]; omega
    · have hkp : k = p := by omega
      subst hkp
      have g1 := f6 rfl
      have hsq : ¬ ((s : Int) ≤ (q : Int)) := by have := HQ.out; omega
      clear f5 f6
      go_wp2
      go_ret
      exact ⟨rfl, rfl⟩

set_option maxHeartbeats 2000000 in
theorem speak_any (n i : Nat) (w : World) (h16 : n ≤ 16) (hi : i < n) :
    Calls Tryd.prog 32 #[.int .i64 (n : Int), .int .i64 (i : Int)] w fun e w' => e = .returned (.tuple #[.int .i64 ((peakOf n i).1 : Int), .int .i64 ((peakOf n i).2 : Int)]) ∧ w = w' := by
  obtain ⟨hp1, hp2, hp3⟩ := place_facts h16 hi
  have HP := Lib.hid hp3
  obtain ⟨p, HPP⟩ : ∃ p, Hid (placeOf n i = p) := ⟨_, rfl⟩
  have HE1 : Hid ((peakOf n i).1 = atOf n p) := by show _ = _; rw [← HPP.out]; rfl
  have HE2 : Hid ((peakOf n i).2 = szOf n p) := by show _ = _; rw [← HPP.out]; rfl
  rw [HPP.out] at HP
  rw [HE1.out, HE2.out]
  have H0 := Lib.hid hp2
  clear hp1 hp2 hp3
  go_enter Tryd.func32, Tryd.ntmps32
  go_wp2
  go_loop [6] (fun pl => ∃ k : Nat, k ≤ p ∧ pl = .int .i64 (atOf n k : Int)) (fun pl => n - (intOf pl).toNat)
  case atStart => exact ⟨0, by omega, by rw [H0.out]; rfl⟩
  case round =>
    obtain ⟨k, hk, rfl⟩ := hrel
    obtain ⟨f1, f2, f3, f4, f5, f6⟩ := HP.out k hk
    obtain ⟨s, HS⟩ : ∃ s, Hid (szOf n k = s) := ⟨_, rfl⟩
    obtain ⟨a, HA⟩ : ∃ a, Hid (atOf n k = a) := ⟨_, rfl⟩
    rw [HA.out, HS.out] at f1
    rw [HS.out] at f2 f3 f5 f6
    rw [HA.out] at f2 f4 f5 f6 ⊢
    have HF := Lib.hid f1
    clear f1
    by_cases hlt : k < p
    · obtain ⟨g1, g2⟩ := f5 hlt
      have HG := Lib.hid g2
      clear f5 f6 g2
      go_wp2_with fail
      refine (ssize_any a n _ (by omega) (by omega)).mono ?_
      rintro e w' ⟨rfl, rfl⟩
      rw [← HF.out]
      go_wp2_with fail
      refine (ssize_any a n _ (by omega) (by omega)).mono ?_
      rintro e w' ⟨rfl, rfl⟩
      rw [← HF.out]
      go_wp2
      go_round
      case rel => exact ⟨k + 1, by omega, by rw [HG.out]; go_num⟩
      case measure => simp [intOf]; omega
    · have hkp : k = p := by omega
      subst hkp
      have g1 := f6 rfl
      clear f5 f6
      go_wp2_with fail
      refine (ssize_any a n _ (by omega) (by omega)).mono ?_
      rintro e w' ⟨rfl, rfl⟩
      rw [← HF.out]
      go_wp2_with fail
      refine (ssize_any a n _ (by omega) (by omega)).mono ?_
      rintro e w' ⟨rfl, rfl⟩
      rw [← HF.out]
      go_wp2
      go_ret2
      exact ⟨by rw [HA.out, HS.out]; rfl, rfl⟩

end Go.Proofs.YtlkgadgjcjpdcaaDoor
