/- Contracts of the program's nodeValid, timeValid, DirectoryValid, newDirectory and of the array's list, full, sweep and put: they answer as the data say. Conditions: the nodes, or the array, lie in memory; the directory is valid where the function is only called with one that is. -/
import Derived.Test.YtjefkpjjdloodaaDirArr
import Derived.Test.YtjefkpjjdloodaaSDirPut
import Derived.Deep.DeepCutAuto
import Derived.BigQuiet
import Derived.Deep.QuietTactic
namespace Go.Proofs.Ytjefkpjjdloodaa
open Go.RowKit
set_option linter.unusedVariables false

theorem nOk_lt (n : Int) : nOk n = (decide (0 ≤ n) && decide (n < 100)) := by
  unfold nOk
  congr 1
  rw [decide_eq_decide]
  omega
set_option maxHeartbeats 2000000 in
set_option maxRecDepth 100000 in
theorem nodeValid_any (n : Int) (w : World) :
    Calls Try.prog 25 #[.int .i64 n] w fun e w' => e = .returned (.bool (nOk n)) ∧ w' = w := by
  rw [nOk_lt]
  by_cases h1 : (0 : Int) ≤ n
  · go_enter Try.func25, Try.ntmps25
    go_wp2
    go_ret
    exact ⟨ret_bool (by rw [decide_eq_true h1]; rfl), rfl⟩
  · go_enter Try.func25, Try.ntmps25
    go_wp2
    go_ret
    exact ⟨ret_bool (by rw [decide_eq_false (show ¬ (0 : Int) ≤ n by omega)]; rfl), rfl⟩
set_option maxHeartbeats 2000000 in
set_option maxRecDepth 100000 in
theorem timeValid_any (n : Int) (w : World) :
    Calls Try.prog 26 #[.int .i64 n] w fun e w' => e = .returned (.bool (tOk n)) ∧ w' = w := by
  unfold tOk
  by_cases h1 : (0 : Int) ≤ n
  · go_enter Try.func26, Try.ntmps26
    go_wp2
    go_ret
    exact ⟨ret_bool (by rw [decide_eq_true h1]; rfl), rfl⟩
  · go_enter Try.func26, Try.ntmps26
    go_wp2
    go_ret
    exact ⟨ret_bool (by rw [decide_eq_false (show ¬ (0 : Int) ≤ n by omega)]; rfl), rfl⟩

/-- What DirectoryValid has seen last. -/
def lastN (xs : List LD) (k : Nat) : Int := if k = 0 then -1 else (lth xs (k - 1)).n
set_option maxHeartbeats 4000000 in
set_option maxRecDepth 100000 in
theorem dirValid_any (A : Option Addr) (cap : Nat) (xs : List LD) (w : World) (hA : LisAt w w.heap.size A cap xs) {n : Nat} (hn : xs.length = n) :
    Calls Try.prog 10 #[.slice A n cap] w fun e w' => e = .returned (.bool (dirB xs)) ∧ Below w.heap.size w w' := by
  have HA := Lib.hid hA
  have hle := hA.le
  have hmx := hA.most
  unfold maxLen at hmx
  clear hA
  have HN := Lib.hid hn
  rw [hn] at hle
  clear hn
  go_enter Try.func10, Try.ntmps10
  by_cases h8 : (8 : Int) < (n : Int)
  · have HF : Hid (dirB xs = false) := by
      show _ = _
      rw [Bool.eq_false_iff]
      intro e
      have := ((dirB_iff xs).1 e).1
      rw [HN.out] at this
      omega
    go_wp2
    go_ret
    exact ⟨ret_bool HF.out.symm, Below.refl _ _⟩
  · have HL8 : Hid (n ≤ 8) := by show n ≤ 8; omega
    go_wp2
    go_loopw [3, 11] (fun l i w' => ∃ (k : Nat) (v : Int), k ≤ n ∧ l = .int .i64 v ∧ i = .int .i64 (k : Int) ∧ Hid (v = lastN xs k) ∧ Hid (Below w.heap.size w w') ∧ Hid (∀ j, j < k → fitL xs j = true)) (fun _ i _ => n - (intOf i).toNat)
    case atStart => exact ⟨0, -1, Nat.zero_le _, rfl, rfl, rfl, Below.refl _ _, fun j hj => absurd hj (Nat.not_lt_zero _)⟩
    case round =>
      obtain ⟨k, v, hk, rfl, rfl, HV, HB, HC⟩ := hrel
      by_cases hlt : k < n
      · have hkz : k < xs.length := by rw [HN.out]; exact hlt
        have HAr := Lib.hid (HA.out.belowS HB.out)
        obtain ⟨b, o, rfl⟩ := HAr.out.row.some_ (by omega)
        obtain ⟨c0, c1⟩ := lis_cells HAr.out.row k hkz
        obtain ⟨vn, HRI⟩ : ∃ x, Hid ((lth xs k).n = x) := ⟨_, rfl⟩
        obtain ⟨vt, HRT⟩ : ∃ x, Hid ((lth xs k).t = x) := ⟨_, rfl⟩
        have HFI : Hid (fitL xs k = (nOk vn && (tOk vt && decide (v < vn)))) := by
          show _ = _
          unfold fitL
          rw [HRI.out, HRT.out, HV.out]
          unfold lastN
          by_cases hz : k = 0
          · rw [if_pos hz, decide_eq_true hz]
            cases e1 : nOk vn with
            | false => rfl
            | true =>
              have := (nOk_iff vn).1 e1
              rw [decide_eq_true (show (-1 : Int) < vn by omega)]
              rfl
          · rw [if_neg hz, decide_eq_false hz]
            rfl
        have HNO : Hid (fitL xs k = false → dirB xs = false) := fun e => dirB_no hkz e
        have HS : Hid (fitL xs k = true → ∀ j, j < k + 1 → fitL xs j = true) := fun e j hj => by
          rcases Nat.lt_or_ge j k with h | h
          · exact HC.out j h
          · have : j = k := by omega
            subst this; exact e
        have HLN : Hid (vn = lastN xs (k + 1)) := by
          show _ = _
          unfold lastN
          rw [if_neg (Nat.succ_ne_zero k), Nat.add_sub_cancel, HRI.out]
        rw [HRI.out] at c0
        rw [HRT.out] at c1
        have hk0 : (0 : Int) ≤ (k : Int) := by omega
        have hki : (k : Int) < (n : Int) := by omega
        have hbz : w.heap.size ≤ wr.heap.size := HB.out.size
        obtain ⟨W, HW⟩ : ∃ W, Hid (wr.alloc (.cells #[.int .i64 vn, .int .i64 vt] 41) = W) := ⟨_, rfl⟩
        have KA : Hid (Blk W wr.heap.size 41 #[.int .i64 vn, .int .i64 vt]) := by rw [← HW.out]; exact Blk.new wr _ _
        have HBW : Hid (Below w.heap.size w W) := by rw [← HW.out]; exact HB.out.alloc hbz _
        obtain ⟨d0, d1⟩ := lis2 KA.out
        clear hkz
        go_upto_region 7 with fail
        rw [HW.out]
        have C1 := Lib.hid (nodeValid_any vn W)
        have C2 := Lib.hid (timeValid_any vt W)
        cases h1 : nOk vn with
        | false =>
          rw [h1] at C1 HFI
          have HF : Hid (dirB xs = false) := HNO.out (by rw [HFI.out]; rfl)
          clear h1
          go_wp2_with fail
          refine C1.out.mono ?_
          rintro e w1 ⟨rfl, hw1⟩
          rw [hw1]
          clear hw1
          go_wp2
          go_ret
          exact ⟨ret_bool HF.out.symm, HBW.out⟩
        | true =>
          rw [h1] at C1 HFI
          clear h1
          cases h2 : tOk vt with
          | false =>
            rw [h2] at C2 HFI
            have HF : Hid (dirB xs = false) := HNO.out (by rw [HFI.out]; rfl)
            clear h2
            go_wp2_with fail
            refine C1.out.mono ?_
            rintro e w1 ⟨rfl, hw1⟩
            rw [hw1]
            clear hw1
            go_wp2_with fail
            refine C2.out.mono ?_
            rintro e w1 ⟨rfl, hw1⟩
            rw [hw1]
            clear hw1
            go_wp2
            go_ret
            exact ⟨ret_bool HF.out.symm, HBW.out⟩
          | true =>
            rw [h2] at C2 HFI
            clear h2
            by_cases hp : v < vn
            · have hge : decide (vn ≤ v) = false := decide_eq_false (by omega)
              have hge2 : ¬ vn ≤ v := by omega
              have HS2 : Hid (∀ j, j < k + 1 → fitL xs j = true) := HS.out (by rw [HFI.out, decide_eq_true hp]; rfl)
              clear hp
              go_wp2_with fail
              refine C1.out.mono ?_
              rintro e w1 ⟨rfl, hw1⟩
              rw [hw1]
              clear hw1
              go_wp2_with fail
              refine C2.out.mono ?_
              rintro e w1 ⟨rfl, hw1⟩
              rw [hw1]
              clear hw1
              go_wp2
              go_roundw
              case rel => exact ⟨k + 1, vn, by omega, rfl, by go_num, HLN, HBW, HS2⟩
              case measure => simp [intOf]; omega
            · have hge2 : vn ≤ v := by omega
              have hge : decide (vn ≤ v) = true := decide_eq_true hge2
              have HF : Hid (dirB xs = false) := HNO.out (by rw [HFI.out, decide_eq_false hp]; rfl)
              clear hp
              go_wp2_with fail
              refine C1.out.mono ?_
              rintro e w1 ⟨rfl, hw1⟩
              rw [hw1]
              clear hw1
              go_wp2_with fail
              refine C2.out.mono ?_
              rintro e w1 ⟨rfl, hw1⟩
              rw [hw1]
              clear hw1
              go_wp2
              go_ret
              exact ⟨ret_bool HF.out.symm, HBW.out⟩
      · have hkn : k = n := by omega
        subst hkn
        have HF : Hid (dirB xs = true) := (dirB_iff xs).2 ⟨by rw [HN.out]; exact HL8.out, fun j hj => HC.out j (by rw [HN.out] at hj; exact hj)⟩
        go_wp2
        go_ret
        exact ⟨ret_bool HF.out.symm, HB.out⟩

end Go.Proofs.Ytjefkpjjdloodaa
