/- Contracts of the laws' helpers over directories (equal lists; the time of a node) and of the model's DirectoryValid, DirectorySweep, DirectorySample: they answer as the data say. Condition: the nodes lie in memory. -/
import Derived.Test.YtjefkpjjdloodaaDirMath
import Derived.Test.YtjefkpjjdloodaaBaseA
import Derived.Test.YtjefkpjjdloodaaHas
import Derived.Lib.Hide
import Derived.BigQuiet
import Derived.Deep.QuietTactic
namespace Go.Proofs.Ytjefkpjjdloodaa
open Go.RowKit
set_option linter.unusedVariables false

theorem own_newL {W w : World} (h : Below w.heap.size w W) : OwnRow LK (W.alloc (.cells #[] 41)) w.heap.size (some ⟨W.heap.size, 0, none⟩) 0 [] := (OwnRow.new LK W).base_le h.size
theorem timeB_hit {xs : List LD} {node : Int} {k : Nat} (hk : k < xs.length) (h : ∀ j, j < k → (lth xs j).n ≠ node) (e : (lth xs k).n = node) : timeB xs node = (lth xs k).t := by
  unfold timeB
  have h0 : (xs.take k).find? (fun y => y.n == node) = none := List.find?_eq_none.2 fun x hx => by
    obtain ⟨j, hj, rfl⟩ := mem_lth hx
    rw [List.length_take] at hj
    have : lth (xs.take k) j = lth xs j := by
      unfold lth; rw [List.getD_eq_getElem?_getD, List.getD_eq_getElem?_getD, List.getElem?_take_of_lt (by omega)]
    rw [this]
    simpa using h j (by omega)
  have h1 : xs.find? (fun y => y.n == node) = some (lth xs k) := by
    rw [← List.take_append_drop k xs, List.find?_append, h0, drop_lth xs k hk, List.find?_cons, e]
    simp
    rw [← drop_lth xs k hk, List.take_append_drop]
  rw [h1]; rfl
theorem timeB_none {xs : List LD} {node : Int} (h : ∀ j, j < xs.length → (lth xs j).n ≠ node) : timeB xs node = -1 := timeB_no fun x hx => by
  obtain ⟨j, hj, rfl⟩ := mem_lth hx
  exact h j hj





set_option maxHeartbeats 4000000 in
set_option maxRecDepth 100000 in
theorem sdirValid_any (A : Option Addr) (cap : Nat) (xs : List LD) (w : World) (hA : LisAt w w.heap.size A cap xs) {n : Nat} (hn : xs.length = n) :
    Calls Try.prog 8 #[.slice A n cap] w fun e w' => e = .returned (.bool (dirB xs)) ∧ ∃ q, w' = w.drewN q := by
  have HA := Lib.hid hA
  have hle := hA.le
  have hmx := hA.most
  unfold maxLen at hmx
  clear hA
  have HN := Lib.hid hn
  rw [hn] at hle
  clear hn
  go_enter Try.func8, Try.ntmps8
  go_wp2
  go_loopw [3] (fun i w' => ∃ k : Nat, k ≤ n ∧ i = .int .i64 (k : Int) ∧ Hid (∃ q, w' = w.drewN q) ∧ Hid (∀ j, j < k → fitL xs j = true)) (fun i _ => n - (intOf i).toNat)
  case atStart => exact ⟨0, Nat.zero_le _, rfl, ⟨0, rfl⟩, fun j hj => absurd hj (Nat.not_lt_zero _)⟩
  case round =>
    obtain ⟨k, hk, rfl, HQ, HC⟩ := hrel
    have HAr : Hid (LisAt wr wr.heap.size A cap xs) := by obtain ⟨q, e⟩ := HQ.out; subst e; exact ⟨HA.out.row.drewN q, HA.out.le, HA.out.most, HA.out.nil0⟩
    have HQN : Hid (∀ m, ∃ q, wr.drewN m = w.drewN q) := fun m => by obtain ⟨q, e⟩ := HQ.out; subst e; exact ⟨q + m, World.drewN_drewN _ _ _⟩
    by_cases hlt : k < n
    · have hkz : k < xs.length := by rw [HN.out]; exact hlt
      obtain ⟨b, o, rfl⟩ := HAr.out.row.some_ (by omega)
      obtain ⟨c0, c1⟩ := lis_cells HAr.out.row k hkz
      obtain ⟨vn, HRI⟩ : ∃ x, Hid ((lth xs k).n = x) := ⟨_, rfl⟩
      obtain ⟨vt, HRT⟩ : ∃ x, Hid ((lth xs k).t = x) := ⟨_, rfl⟩
      obtain ⟨vp, HRP⟩ : ∃ x, Hid ((lth xs (k - 1)).n = x) := ⟨_, rfl⟩
      have HFI : Hid (fitL xs k = (nOk vn && (tOk vt && (decide (k = 0) || decide (vp < vn))))) := by show _ = _; unfold fitL; rw [HRI.out, HRT.out, HRP.out]
      have HNO : Hid (fitL xs k = false → dirB xs = false) := fun e => dirB_no hkz e
      have HS : Hid (fitL xs k = true → ∀ j, j < k + 1 → fitL xs j = true) := fun e j hj => by
        rcases Nat.lt_or_ge j k with h | h
        · exact HC.out j h
        · have : j = k := by omega
          subst this; exact e
      obtain ⟨k1, HK1⟩ : ∃ x, Hid (k - 1 = x) := ⟨_, rfl⟩
      have c2 := (lis_cells HAr.out.row (k - 1) (by omega)).1
      rw [HRI.out] at c0
      rw [HRT.out] at c1
      rw [HRP.out, HK1.out] at c2
      have hk0 : (0 : Int) ≤ (k : Int) := by omega
      have hki : (k : Int) < (n : Int) := by omega
      have hk10 : (0 : Int) ≤ (k1 : Int) := by omega
      have hk1i : (k1 : Int) < (n : Int) := by have := HK1.out; omega
      have C1 := Lib.hid (fun U => l6in_any vn 0 99 U)
      have C2 := Lib.hid (fun U => l6in_any vt 0 999 U)
      have e1 : (decide (0 ≤ vn) && decide (vn ≤ 99)) = nOk vn := rfl
      have e2 : (decide (0 ≤ vt) && decide (vt ≤ 999)) = tOk vt := rfl
      rw [e1] at C1
      rw [e2] at C2
      clear e1 e2 hkz
      cases h1 : nOk vn with
      | false =>
        rw [h1] at C1 HFI
        have HF : Hid (dirB xs = false) := HNO.out (by rw [HFI.out]; rfl)
        clear h1
        go_wp2_with fail
        go_quiet ((go_at_call 23; exact Calls.quiet_of_same (C1.out _)))
        go_wp2
        go_ret
        exact ⟨ret_bool HF.out.symm, HQN.out _⟩
      | true =>
        rw [h1] at C1 HFI
        clear h1
        cases h2 : tOk vt with
        | false =>
          rw [h2] at C2 HFI
          have HF : Hid (dirB xs = false) := HNO.out (by rw [HFI.out]; rfl)
          clear h2
          go_wp2_with fail
          go_quiet ((go_at_call 23; first | with_reducible exact Calls.quiet_of_same (C1.out _) | with_reducible exact Calls.quiet_of_same (C2.out _)))
          go_wp2
          go_ret
          exact ⟨ret_bool HF.out.symm, HQN.out _⟩
        | true =>
          rw [h2] at C2 HFI
          clear h2
          rcases Nat.eq_zero_or_pos k with hkk | hkp
          · have hkd : decide ((0 : Int) < (k : Int)) = false := decide_eq_false (by omega)
            have hkd2 : decide (0 < k) = false := decide_eq_false (by omega)
            have HS2 : Hid (∀ j, j < k + 1 → fitL xs j = true) := HS.out (by rw [HFI.out, decide_eq_true hkk]; rfl)
            have hkl : ¬ (0 : Int) < (k : Int) := by omega
            clear hkk
            go_wp2_with fail
            go_quiet ((go_at_call 23; first | with_reducible exact Calls.quiet_of_same (C1.out _) | with_reducible exact Calls.quiet_of_same (C2.out _)))
            go_wp2
            go_roundw
            case rel => exact ⟨k + 1, by omega, by go_num, HQN.out _, HS2⟩
            case measure => simp [intOf]; omega
          · have hkl : (0 : Int) < (k : Int) := by omega
            have hkd : decide ((0 : Int) < (k : Int)) = true := decide_eq_true hkl
            have hkd2 : decide (0 < k) = true := decide_eq_true hkp
            have hkw : IntKind.i64.wrap ((k : Int) - 1) = (k1 : Int) := by rw [show (k : Int) - 1 = (k1 : Int) by have := HK1.out; omega]; exact IntWalk.i64_in _ (by omega)
            have HZ : Hid (decide (k = 0) = false) := decide_eq_false (by omega)
            rw [HZ.out] at HFI
            clear hkp
            by_cases hp : vp < vn
            · have hge : decide (vn ≤ vp) = false := decide_eq_false (by omega)
              have HS2 : Hid (∀ j, j < k + 1 → fitL xs j = true) := HS.out (by rw [HFI.out, decide_eq_true hp]; rfl)
              clear hp
              go_wp2_with fail
              go_quiet ((go_at_call 23; first | with_reducible exact Calls.quiet_of_same (C1.out _) | with_reducible exact Calls.quiet_of_same (C2.out _)))
              go_wp2
              go_roundw
              case rel => exact ⟨k + 1, by omega, by go_num, HQN.out _, HS2⟩
              case measure => simp [intOf]; omega
            · have hge : decide (vn ≤ vp) = true := decide_eq_true (by omega)
              have HF : Hid (dirB xs = false) := HNO.out (by rw [HFI.out, decide_eq_false hp]; rfl)
              clear hp
              go_wp2_with fail
              go_quiet ((go_at_call 23; first | with_reducible exact Calls.quiet_of_same (C1.out _) | with_reducible exact Calls.quiet_of_same (C2.out _)))
              go_wp2
              go_ret
              exact ⟨ret_bool HF.out.symm, HQN.out _⟩
    · have hkn : k = n := by omega
      subst hkn
      by_cases h8 : k ≤ 8
      · have HF : Hid (dirB xs = true) := (dirB_iff xs).2 ⟨by rw [HN.out]; exact h8, fun j hj => HC.out j (by rw [HN.out] at hj; exact hj)⟩
        have h8i : (k : Int) ≤ 8 := by omega
        go_wp2
        go_ret
        exact ⟨ret_bool HF.out.symm, HQ.out⟩
      · have HF : Hid (dirB xs = false) := by
          show _ = _
          rw [Bool.eq_false_iff]
          intro e
          have := ((dirB_iff xs).1 e).1
          rw [HN.out] at this
          exact h8 this
        have h8i : ¬ (k : Int) ≤ 8 := by omega
        go_wp2
        go_ret
        exact ⟨ret_bool HF.out.symm, HQ.out⟩

end Go.Proofs.Ytjefkpjjdloodaa
