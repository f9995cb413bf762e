/- Contracts of the functions that find the size of the largest complete tree at a place: treeSize and l2Size. Conditions: the place and the room are at most 16, and there is room. -/
import Derived.Test.YtgpmodidpdjhkaaDig
import Derived.Test.YtgpmodidpdjhkaaTreeMath
namespace Go.Proofs.Ytgpmodidpdjhkaa
open Go.RowKit
set_option linter.unusedVariables false

theorem beq_iff_mod (s k : Nat) : (((s : Int) % (2 * (k : Int))) == 0) = decide (s % (2 * k) = 0) := by
  have e : (s : Int) % (2 * (k : Int)) = ((s % (2 * k) : Nat) : Int) := by rw [Int.natCast_emod, Int.natCast_mul]; rfl
  rw [e, Bool.eq_iff_iff]
  simp only [beq_iff_eq, decide_eq_true_eq]
  omega
theorem mod_yes {s k : Nat} (h : s % (2 * k) = 0) : (((s : Int) % (2 * (k : Int))) == 0) = true := by rw [beq_iff_mod]; simpa using h
theorem mod_no {s k : Nat} (h : ¬ s % (2 * k) = 0) : (((s : Int) % (2 * (k : Int))) == 0) = false := by rw [beq_iff_mod]; simpa using h
theorem pow_step (k f : Nat) : 2 * k * 2 ^ f = k * 2 ^ (f + 1) := by rw [Nat.pow_succ, Nat.mul_comm 2 k, Nat.mul_assoc, Nat.mul_comm 2]

set_option maxHeartbeats 1000000 in
theorem size_any (s r : Nat) (w : World) (hs : s ≤ 16) (hr : r ≤ 16) (hr1 : 1 ≤ r) :
    Calls Try.prog 109 #[.int .i64 (s : Int), .int .i64 (r : Int)] w fun e w' => e = .returned (.int .i64 (sizeAt s r : Nat)) ∧ w = w' := by
  go_enter Try.func109, Try.ntmps109
  go_wp2
  go_loop [5] (fun i => ∃ k f : Nat, 1 ≤ k ∧ k ≤ 16 ∧ Hid (16 < k * 2 ^ f) ∧ i = .int .i64 k ∧ Hid (sizeGo f s r k = sizeAt s r)) (fun i => 32 - (intOf i).toNat)
  case atStart => exact ⟨1, 5, by omega, by omega, (by decide : 16 < 1 * 2 ^ 5), rfl, rfl⟩
  case round =>
    obtain ⟨k, f, hk1, hk2, HF, rfl, HS⟩ := hrel
    obtain ⟨f, rfl⟩ : ∃ f', f = f' + 1 := by
      cases f with
      | zero => have := HF.out; rw [Nat.pow_zero, Nat.mul_one] at this; omega
      | succ f => exact ⟨f, rfl⟩
    by_cases h1 : s % (2 * k) = 0
    · have hb := mod_yes h1
      by_cases h2 : 2 * k ≤ r
      · have HT : Hid (sizeGo f s r (2 * k) = sizeAt s r) := by show _ = _; rw [← HS.out, sizeGo_step ⟨h1, h2⟩]
        have HP : Hid (16 < 2 * k * 2 ^ f) := by show _ < _; rw [pow_step]; exact HF.out
        have h2' : (2 : Int) * (k : Int) ≤ (r : Int) := by omega
        clear h1
        go_wp2
        go_round
        case rel => exact ⟨2 * k, f, by omega, by omega, HP, by go_num, HT⟩
        case measure => simp [intOf]; omega
      · have HT : Hid (k = sizeAt s r) := by show _ = _; rw [← HS.out, sizeGo_stop (fun h => h2 h.2)]
        have h2' : ¬ (2 : Int) * (k : Int) ≤ (r : Int) := by omega
        clear h1
        go_wp2
        go_ret
        exact ⟨ret_int (by rw [← HT.out]), rfl⟩
    · have hb := mod_no h1
      have HT : Hid (k = sizeAt s r) := by show _ = _; rw [← HS.out, sizeGo_stop (fun h => h1 h.1)]
      clear h1
      go_wp2
      go_ret
      exact ⟨ret_int (by rw [← HT.out]), rfl⟩

set_option maxHeartbeats 1000000 in
theorem ssize_any (s n : Nat) (w : World) (hn : n ≤ 16) (hs : s < n) :
    Calls Try.prog 107 #[.int .i64 (s : Int), .int .i64 (n : Int)] w fun e w' => e = .returned (.int .i64 (sizeAt s (n - s) : Nat)) ∧ w = w' := by
  go_enter Try.func107, Try.ntmps107
  go_wp2
  go_loop [5] (fun i => ∃ k f : Nat, 1 ≤ k ∧ k ≤ 16 ∧ Hid (16 < k * 2 ^ f) ∧ i = .int .i64 k ∧ Hid (sizeGo f s (n - s) k = sizeAt s (n - s))) (fun i => 32 - (intOf i).toNat)
  case atStart => exact ⟨1, 5, by omega, by omega, (by decide : 16 < 1 * 2 ^ 5), rfl, rfl⟩
  case round =>
    obtain ⟨k, f, hk1, hk2, HF, rfl, HS⟩ := hrel
    obtain ⟨f, rfl⟩ : ∃ f', f = f' + 1 := by
      cases f with
      | zero => have := HF.out; rw [Nat.pow_zero, Nat.mul_one] at this; omega
      | succ f => exact ⟨f, rfl⟩
    by_cases h1 : s % (2 * k) = 0
    · have hb := mod_yes h1
      by_cases h2 : 2 * k ≤ n - s
      · have HT : Hid (sizeGo f s (n - s) (2 * k) = sizeAt s (n - s)) := by show _ = _; rw [← HS.out, sizeGo_step ⟨h1, h2⟩]
        have HP : Hid (16 < 2 * k * 2 ^ f) := by show _ < _; rw [pow_step]; exact HF.out
        have h2' : (s : Int) + (2 : Int) * (k : Int) ≤ (n : Int) := by omega
        clear h1
        go_wp2
        go_round
        case rel => exact ⟨2 * k, f, by omega, by omega, HP, by go_num, HT⟩
        case measure => simp [intOf]; omega
      · have HT : Hid (k = sizeAt s (n - s)) := by show _ = _; rw [← HS.out, sizeGo_stop (fun h => h2 h.2)]
        have h2' : ¬ (s : Int) + (2 : Int) * (k : Int) ≤ (n : Int) := by omega
        clear h1
        go_wp2
        go_ret
        exact ⟨ret_int (by rw [← HT.out]), rfl⟩
    · have hb := mod_no h1
      have HT : Hid (k = sizeAt s (n - s)) := by show _ = _; rw [← HS.out, sizeGo_stop (fun h => h1 h.1)]
      clear h1
      go_wp2
      go_ret
      exact ⟨ret_int (by rw [← HT.out]), rfl⟩

end Go.Proofs.Ytgpmodidpdjhkaa
