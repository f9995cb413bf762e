/- Contract of the model's ViewGet: it answers as the data say. Condition: the pairs lie in memory. -/
import Derived.Test.YteckmbmpellkgaaViewMath
import Derived.Test.YteckmbmpellkgaaBaseA
import Derived.Lib.Hide
import Derived.BigQuiet
import Derived.Deep.QuietTactic
namespace Go.Proofs.Yteckmbmpellkgaa
open Go.RowKit
set_option linter.unusedVariables false

set_option maxHeartbeats 4000000 in
set_option maxRecDepth 100000 in
theorem sget_any (A : Option Addr) (cap : Nat) (xs : List VD) (key : Int) (w : World) (hA : PvAt w w.heap.size A cap xs) {n : Nat} (hn : xs.length = n) :
    Calls Try.prog 8 #[.slice A n cap, .int .i64 key] w fun e w' => e = .returned (.tuple #[.int .i64 (getN xs key), .bool (getO xs key)]) ∧ Below w.heap.size w w' := by
  have HA := Lib.hid hA
  have hle := hA.le
  have hmx := hA.most
  unfold maxLen at hmx
  clear hA
  have HN := Lib.hid hn
  rw [hn] at hle
  clear hn
  go_enter Try.func8, Try.ntmps8
  go_wp2
  go_loopw [6] (fun i w' => ∃ k : Nat, (k ≤ n ∨ k = 1) ∧ i = .int .i64 (k : Int) ∧ 1 ≤ k ∧ Hid (∃ q, w' = w.drewN q) ∧ Hid (∀ j, j < k → j < n → fitV xs j = true)) (fun i _ => n + 1 - (intOf i).toNat)
  case atStart => exact ⟨1, .inr rfl, rfl, Nat.le_refl _, ⟨0, rfl⟩, fun j hj _ => (show fitV xs j = true by obtain rfl : j = 0 := (by omega); rfl)⟩
  case round =>
    obtain ⟨k, hk, rfl, hk1, HQ, HC⟩ := hrel
    have HAr : Hid (PvAt wr wr.heap.size A cap xs) := by obtain ⟨q, e⟩ := HQ.out; subst e; exact ⟨HA.out.row.drewN q, HA.out.le, HA.out.most, HA.out.nil0⟩
    have HQN : Hid (∀ m, ∃ q, wr.drewN m = w.drewN q) := fun m => by obtain ⟨q, e⟩ := HQ.out; subst e; exact ⟨q + m, World.drewN_drewN _ _ _⟩
    by_cases hlt : k < n
    · have hkz : k < xs.length := by rw [HN.out]; exact hlt
      obtain ⟨b, o, rfl⟩ := HAr.out.row.some_ (by omega)
      obtain ⟨c0, c1⟩ := pv_cells HAr.out.row k hkz
      obtain ⟨vn, HRI⟩ : ∃ x, Hid ((vth xs k).n = x) := ⟨_, rfl⟩
      obtain ⟨vp, HRP⟩ : ∃ x, Hid ((vth xs (k - 1)).n = x) := ⟨_, rfl⟩
      have HFI : Hid (fitV xs k = decide (vp < vn)) := by show _ = _; unfold fitV; rw [HRI.out, HRP.out, decide_eq_false (by omega)]; rfl
      have HNO : Hid (fitV xs k = false → ascV xs = false) := fun e => ascV_no hkz e
      have HS : Hid (fitV xs k = true → ∀ j, j < k + 1 → j < n → fitV xs j = true) := fun e j hj hjn => by
        rcases Nat.lt_or_ge j k with h | h
        · exact HC.out j h hjn
        · have : j = k := by omega
          subst this; exact e
      obtain ⟨k1, HK1⟩ : ∃ x, Hid (k - 1 = x) := ⟨_, rfl⟩
      have c2 := (pv_cells HAr.out.row (k - 1) (by omega)).1
      rw [HRI.out] at c0
      rw [HRP.out, HK1.out] at c2
      have hk0 : (0 : Int) ≤ (k : Int) := by omega
      have hki : (k : Int) < (n : Int) := by omega
      have hk10 : (0 : Int) ≤ (k1 : Int) := by omega
      have hk1i : (k1 : Int) < (n : Int) := by have := HK1.out; omega
      have hkw : IntKind.i64.wrap ((k : Int) - 1) = (k1 : Int) := by rw [show (k : Int) - 1 = (k1 : Int) by have := HK1.out; omega]; exact IntWalk.i64_in _ (by omega)
      clear hkz
      by_cases hp : vp < vn
      · have hge : decide (vn ≤ vp) = false := decide_eq_false (by omega)
        have HS2 : Hid (∀ j, j < k + 1 → j < n → fitV xs j = true) := HS.out (by rw [HFI.out, decide_eq_true hp])
        clear hp
        go_wp2_with fail
        go_quiet (fail)
        go_wp2
        go_roundw
        case rel => exact ⟨k + 1, by omega, by go_num, by omega, HQN.out _, HS2⟩
        case measure => simp [intOf]; omega
      · have hge : decide (vn ≤ vp) = true := decide_eq_true (by omega)
        have HF := Lib.hid (get_no (key := key) (HNO.out (by rw [HFI.out, decide_eq_false hp])))
        have HBR : Hid (Below w.heap.size w wr) := by obtain ⟨q, e⟩ := HQ.out; subst e; exact below_drewN (Below.refl _ _) q
        clear hp
        go_wp2_with fail
        go_quiet (fail)
        go_wp2
        go_ret2
        exact ⟨by rw [HF.out.1, HF.out.2]; rfl, below_drewN HBR.out _⟩
    · have HASC : Hid (ascV xs = true) := (ascV_iff xs).2 fun j hj => HC.out j (by rw [HN.out] at hj; omega) (by rw [HN.out] at hj; exact hj)
      have hkl : ¬ (k : Int) < (n : Int) := by omega
      have HBR : Hid (Below w.heap.size w wr) := by obtain ⟨q, e⟩ := HQ.out; subst e; exact below_drewN (Below.refl _ _) q
      clear HC HQ HQN hk hk1
      go_wp2
      go_loop [7] (fun i => ∃ k : Nat, k ≤ n ∧ i = .int .i64 (k : Int) ∧ Hid (∀ j, j < k → (vth xs j).n ≠ key)) (fun i => n - (intOf i).toNat)
      case atStart => exact ⟨0, Nat.zero_le _, rfl, fun j hj => absurd hj (Nat.not_lt_zero _)⟩
      case round =>
        clear hlt hkl
        obtain ⟨k, hk, rfl, HC⟩ := hrel
        by_cases hlt : k < n
        · have hkz : k < xs.length := by rw [HN.out]; exact hlt
          obtain ⟨b, o, rfl⟩ := HAr.out.row.some_ (by omega)
          obtain ⟨c0, c1⟩ := pv_cells HAr.out.row k hkz
          obtain ⟨vn, HRI⟩ : ∃ x, Hid ((vth xs k).n = x) := ⟨_, rfl⟩
          obtain ⟨vt, HRT⟩ : ∃ x, Hid ((vth xs k).t = x) := ⟨_, rfl⟩
          have HH : Hid (vn = key → getO xs key = true ∧ getN xs key = vt) := fun e => by rw [← HRT.out]; exact get_hit HASC.out hkz HC.out (HRI.out.trans e)
          have HS : Hid (vn ≠ key → ∀ j, j < k + 1 → (vth xs j).n ≠ key) := fun e j hj => by
            rcases Nat.lt_or_ge j k with h | h
            · exact HC.out j h
            · have : j = k := by omega
              subst this; rw [HRI.out]; exact e
          rw [HRI.out] at c0
          rw [HRT.out] at c1
          have hk0 : (0 : Int) ≤ (k : Int) := by omega
          have hki : (k : Int) < (n : Int) := by omega
          clear hkz
          by_cases he : vn = key
          · have HF := Lib.hid (HH.out he)
            have hee : (vn == key) = true := by simp [he]
            clear he
            go_wp2
            go_ret2
            exact ⟨by rw [HF.out.1, HF.out.2]; rfl, HBR.out⟩
          · have hne : (vn == key) = false := beq_eq_false_iff_ne.2 he
            have HS2 : Hid (∀ j, j < k + 1 → (vth xs j).n ≠ key) := HS.out he
            clear he
            go_wp2
            go_round
            case rel => exact ⟨k + 1, by omega, by go_num, HS2⟩
            case measure => simp [intOf]; omega
        · have hkn : k = n := by omega
          subst hkn
          have HF := Lib.hid (get_none HASC.out (by rw [HN.out]; exact HC.out))
          go_wp2
          go_ret2
          exact ⟨by rw [HF.out.1, HF.out.2]; rfl, HBR.out⟩

end Go.Proofs.Yteckmbmpellkgaa
