/- Contracts of linkAsks and of the functions of windows: they answer as the data say, in memory of the call's own. Condition: the requests lie in memory. -/
import Derived.Test.YtkmebilhbjcfpaaGreatWinList
import Derived.Test.YtkmebilhbjcfpaaGreatBaseA
namespace Go.Proofs.YtkmebilhbjcfpaaGreat
open Go.RowKit
set_option linter.unusedVariables false

set_option maxHeartbeats 4000000 in
set_option maxRecDepth 100000 in
theorem isPeer_any (p : Int) (w : World) :
    Calls Tryz.prog 175 #[.int .i64 p] w fun e w' => e = .returned (.bool (pOk p)) ∧ w = w' := by
  have HP : Hid (pOk p = decide (0 ≤ p ∧ p < 6)) := rfl
  by_cases h0 : 0 ≤ p
  · by_cases h1 : p < 6
    · have HF : Hid (pOk p = true) := (pOk_iff p).2 ⟨h0, h1⟩
      go_enter Tryz.func175, Tryz.ntmps175
      go_wp2
      go_ret
      exact ⟨ret_bool (by have h := HF.out; first | exact h.symm | (rw [h]; simp; omega) | (rw [h]; simp)), rfl⟩
    · have HF : Hid (pOk p = false) := by show _ = _; rw [HP.out, decide_eq_false fun k => h1 k.2]
      go_enter Tryz.func175, Tryz.ntmps175
      go_wp2
      go_ret
      exact ⟨ret_bool (by have h := HF.out; first | exact h.symm | (rw [h]; simp; omega) | (rw [h]; simp)), rfl⟩
  · have HF : Hid (pOk p = false) := by show _ = _; rw [HP.out, decide_eq_false fun k => h0 k.1]
    go_enter Tryz.func175, Tryz.ntmps175
    go_wp2
    go_ret
    exact ⟨ret_bool (by have h := HF.out; first | exact h.symm | (rw [h]; simp; omega) | (rw [h]; simp)), rfl⟩

set_option maxHeartbeats 4000000 in
set_option maxRecDepth 100000 in
theorem askValid_any (a : AD) (w : World) :
    Calls Tryz.prog 158 #[askV a] w fun e w' => e = .returned (.bool (aOk a)) ∧ Below w.heap.size w w' := by
  obtain ⟨ap, ab⟩ := a
  cases hp : pOk ap with
  | false =>
    have HF : Hid (aOk ⟨ap, ab⟩ = false) := by show _ = _; unfold aOk; rw [hp]; rfl
    have C : Hid (∀ U, Calls Tryz.prog 175 #[.int .i64 ap] U fun e w' => e = .returned (.bool false) ∧ U = w') := fun U => by
      have h := isPeer_any ap U
      rw [hp] at h
      exact h
    clear hp
    go_enter Tryz.func158, Tryz.ntmps158
    go_wp2_with fail
    refine (C.out _).mono ?_
    rintro e w' ⟨rfl, rfl⟩
    go_wp2
    go_ret
    exact ⟨ret_bool (by have h := HF.out; first | exact h.symm | (rw [h]; simp; omega) | (rw [h]; simp)), (Below.refl _ w).alloc (Nat.le_refl _) _⟩
  | true =>
    by_cases h0 : 0 ≤ ab
    · by_cases h1 : ab < 16
      · have HF : Hid (aOk ⟨ap, ab⟩ = true) := (aOk_iff _).2 ⟨hp, h0, h1⟩
        have C : Hid (∀ U, Calls Tryz.prog 175 #[.int .i64 ap] U fun e w' => e = .returned (.bool true) ∧ U = w') := fun U => by
          have h := isPeer_any ap U
          rw [hp] at h
          exact h
        clear hp
        go_enter Tryz.func158, Tryz.ntmps158
        go_wp2_with fail
        refine (C.out _).mono ?_
        rintro e w' ⟨rfl, rfl⟩
        go_wp2
        go_ret
        exact ⟨ret_bool (by have h := HF.out; first | exact h.symm | (rw [h]; simp; omega) | (rw [h]; simp)), (Below.refl _ w).alloc (Nat.le_refl _) _⟩
      · have HF : Hid (aOk ⟨ap, ab⟩ = false) := by
          show (pOk ap && decide (0 ≤ ab ∧ ab < 16)) = false
          rw [decide_eq_false fun k => h1 k.2, Bool.and_false]
        have C : Hid (∀ U, Calls Tryz.prog 175 #[.int .i64 ap] U fun e w' => e = .returned (.bool true) ∧ U = w') := fun U => by
          have h := isPeer_any ap U
          rw [hp] at h
          exact h
        clear hp
        go_enter Tryz.func158, Tryz.ntmps158
        go_wp2_with fail
        refine (C.out _).mono ?_
        rintro e w' ⟨rfl, rfl⟩
        go_wp2
        go_ret
        exact ⟨ret_bool (by have h := HF.out; first | exact h.symm | (rw [h]; simp; omega) | (rw [h]; simp)), (Below.refl _ w).alloc (Nat.le_refl _) _⟩
    · have HF : Hid (aOk ⟨ap, ab⟩ = false) := by
        show (pOk ap && decide (0 ≤ ab ∧ ab < 16)) = false
        rw [decide_eq_false fun k => h0 k.1, Bool.and_false]
      have C : Hid (∀ U, Calls Tryz.prog 175 #[.int .i64 ap] U fun e w' => e = .returned (.bool true) ∧ U = w') := fun U => by
        have h := isPeer_any ap U
        rw [hp] at h
        exact h
      clear hp
      go_enter Tryz.func158, Tryz.ntmps158
      go_wp2_with fail
      refine (C.out _).mono ?_
      rintro e w' ⟨rfl, rfl⟩
      go_wp2
      go_ret
      exact ⟨ret_bool (by have h := HF.out; first | exact h.symm | (rw [h]; simp; omega) | (rw [h]; simp)), (Below.refl _ w).alloc (Nat.le_refl _) _⟩

set_option maxHeartbeats 4000000 in
set_option maxRecDepth 100000 in
theorem has_any (B g0 : Nat) (z : AD) (r : List (Nat × AD)) (a : AD) (w : World) (hC : Chain w B ((g0, z) :: r)) (hr : r.length ≤ 1000) :
    Calls Tryz.prog 176 #[.pointer (some ⟨g0, 0, none⟩), askV a] w fun e w' => e = .returned (.bool (decide (0 < cH (asksOf r) a))) ∧ Below w.heap.size w w' := by
  obtain ⟨ap, ab⟩ := a
  have hmf : ∀ (fn : Fn) (first cap : Array Value) (w : World), (Instr.makeFunc fn first cap).run Tryz.prog w = .ok (.func fn first cap) w := fun _ _ _ _ => rfl
  have C := Lib.hid (countA_any B g0 w.heap.size z ⟨ap, ab⟩ r (w.alloc (.cells #[.int .i64 ap, .int .i64 ab] 105)) (hC.alloc _) (Blk.new w _ _) hr)
  have HB : Hid (Below w.heap.size w (w.alloc (.cells #[.int .i64 ap, .int .i64 ab] 105))) := (Below.refl _ w).alloc (Nat.le_refl _) _
  obtain ⟨n, HN⟩ : ∃ n, Hid ((asksOf r).countP (isA ⟨ap, ab⟩) = n) := ⟨_, rfl⟩
  have HH : Hid (cH (asksOf r) ⟨ap, ab⟩ = n) := HN
  rw [HN.out] at C
  clear hC
  go_enter Tryz.func176, Tryz.ntmps176
  go_wp2_with fail
  refine C.out.mono ?_
  rintro e w1 ⟨rfl, hb1⟩
  have HB1 : Hid (Below w.heap.size w w1) := HB.out.trans (hb1.mono HB.out.size)
  clear hb1
  go_wp2
  go_ret
  exact ⟨ret_bool (by rw [HH.out]), HB1.out⟩

set_option maxHeartbeats 4000000 in
set_option maxRecDepth 100000 in
theorem permits_any (B g0 : Nat) (z : AD) (r : List (Nat × AD)) (a : AD) (m : Nat) (w : World) (hC : Chain w B ((g0, z) :: r)) (hr : r.length ≤ 1000) :
    Calls Tryz.prog 159 #[.pointer (some ⟨g0, 0, none⟩), askV a, .int .i64 (m : Int)] w fun e w' => e = .returned (.bool (canB (asksOf r) a m)) ∧ Below w.heap.size w w' := by
  obtain ⟨ap, ab⟩ := a
  obtain ⟨W, HW⟩ : ∃ W, Hid (w.alloc (.cells #[.int .i64 ap, .int .i64 ab] 105) = W) := ⟨_, rfl⟩
  have KA : Hid (Blk W w.heap.size 105 #[.int .i64 ap, .int .i64 ab]) := by rw [← HW.out]; exact Blk.new w _ _
  have HB : Hid (Below w.heap.size w W) := by rw [← HW.out]; exact (Below.refl _ w).alloc (Nat.le_refl _) _
  have HC : Hid (Chain W B ((g0, z) :: r)) := by rw [← HW.out]; exact hC.alloc _
  obtain ⟨nh, HH⟩ : ∃ n, Hid (cH (asksOf r) ⟨ap, ab⟩ = n) := ⟨_, rfl⟩
  obtain ⟨np, HP⟩ : ∃ n, Hid (cP (asksOf r) ap = n) := ⟨_, rfl⟩
  obtain ⟨nb, HNB⟩ : ∃ n, Hid (cB (asksOf r) ab = n) := ⟨_, rfl⟩
  have HCAN : Hid (canB (asksOf r) ⟨ap, ab⟩ m = (decide (nh = 0) && (decide (np < 3) && decide (nb < m)))) := by
    show _ = _
    rw [← HH.out, ← HP.out, ← HNB.out]; rfl
  have C1 := Lib.hid (has_any B g0 z r ⟨ap, ab⟩ W HC.out hr)
  rw [HH.out] at C1
  obtain ⟨k0, k1⟩ := ask2 KA.out
  have hWz := KA.out.lt
  clear hC
  by_cases h1 : nh = 0
  · rw [decide_eq_false (show ¬ 0 < nh by omega)] at C1
    by_cases h2 : np < 3
    · have h2i : (np : Int) < 3 := by omega
      by_cases h3 : nb < m
      · have h3i : (nb : Int) < (m : Int) := by omega
        have HF : Hid (canB (asksOf r) ⟨ap, ab⟩ m = true) := by show _ = _; rw [HCAN.out, decide_eq_true h1, decide_eq_true h2, decide_eq_true h3]; rfl
        clear h1 h2 h3
        go_enter Tryz.func159, Tryz.ntmps159
        go_upto_region 1 with fail
        rw [HW.out]
        go_wp2_with fail
        refine C1.out.mono ?_
        rintro e w1 ⟨rfl, hb1⟩
        have KA1 := Lib.hid (KA.out.below hb1 KA.out.lt)
        have HC1 := Lib.hid (HC.out.below hb1 (Nat.le_refl _))
        have HB1 : Hid (Below w.heap.size w w1) := HB.out.trans (hb1.mono HB.out.size)
        clear hb1 k0 k1
        obtain ⟨k0, k1⟩ := ask2 KA1.out
        go_wp2_with fail
        refine (mkP_any _ _).mono ?_
        rintro e w2 ⟨rfl, rfl⟩
        have C2 := Lib.hid (countP_any B g0 w1.heap.size z ap r (w1.alloc (.cells #[.int .i64 ap] 3)) (HC1.out.alloc _) (Blk.new _ _ _) hr)
        have HP2 : Hid ((asksOf r).countP (isP ap) = np) := HP
        rw [HP2.out] at C2
        have hba : Below w1.heap.size w1 (w1.alloc (.cells #[.int .i64 ap] 3)) := (Below.refl _ _).alloc (Nat.le_refl _) _
        clear k0 k1
        go_wp2_with fail
        refine C2.out.mono ?_
        rintro e w3 ⟨rfl, hb3⟩
        have hb3' := hba.trans (hb3.mono hba.size)
        have KA3 := Lib.hid (KA1.out.below hb3' KA1.out.lt)
        have HC3 := Lib.hid (HC1.out.below hb3' (Nat.le_refl _))
        have HB3 : Hid (Below w.heap.size w w3) := HB1.out.trans (hb3'.mono HB1.out.size)
        clear hba hb3 hb3'
        obtain ⟨k0, k1⟩ := ask2 KA3.out
        go_wp2_with fail
        refine (mkB_any _ _).mono ?_
        rintro e w4 ⟨rfl, rfl⟩
        have C4 := Lib.hid (countB_any B g0 w3.heap.size z ab r (w3.alloc (.cells #[.int .i64 ab] 3)) (HC3.out.alloc _) (Blk.new _ _ _) hr)
        have HNB2 : Hid ((asksOf r).countP (isB ab) = nb) := HNB
        rw [HNB2.out] at C4
        have hba : Below w3.heap.size w3 (w3.alloc (.cells #[.int .i64 ab] 3)) := (Below.refl _ _).alloc (Nat.le_refl _) _
        clear k0 k1
        go_wp2_with fail
        refine C4.out.mono ?_
        rintro e w5 ⟨rfl, hb5⟩
        have hb5' := hba.trans (hb5.mono hba.size)
        have HB5 : Hid (Below w.heap.size w w5) := HB3.out.trans (hb5'.mono HB3.out.size)
        clear hba hb5 hb5'
        go_wp2
        go_ret
        exact ⟨ret_bool (by have h := HF.out; first | exact h.symm | (rw [h]; simp; omega) | (rw [h]; simp)), HB5.out⟩
      · have h3i : ¬ (nb : Int) < (m : Int) := by omega
        have HF : Hid (canB (asksOf r) ⟨ap, ab⟩ m = false) := by show _ = _; rw [HCAN.out, decide_eq_false h3]; simp
        clear h1 h2 h3
        go_enter Tryz.func159, Tryz.ntmps159
        go_upto_region 1 with fail
        rw [HW.out]
        go_wp2_with fail
        refine C1.out.mono ?_
        rintro e w1 ⟨rfl, hb1⟩
        have KA1 := Lib.hid (KA.out.below hb1 KA.out.lt)
        have HC1 := Lib.hid (HC.out.below hb1 (Nat.le_refl _))
        have HB1 : Hid (Below w.heap.size w w1) := HB.out.trans (hb1.mono HB.out.size)
        clear hb1 k0 k1
        obtain ⟨k0, k1⟩ := ask2 KA1.out
        go_wp2_with fail
        refine (mkP_any _ _).mono ?_
        rintro e w2 ⟨rfl, rfl⟩
        have C2 := Lib.hid (countP_any B g0 w1.heap.size z ap r (w1.alloc (.cells #[.int .i64 ap] 3)) (HC1.out.alloc _) (Blk.new _ _ _) hr)
        have HP2 : Hid ((asksOf r).countP (isP ap) = np) := HP
        rw [HP2.out] at C2
        have hba : Below w1.heap.size w1 (w1.alloc (.cells #[.int .i64 ap] 3)) := (Below.refl _ _).alloc (Nat.le_refl _) _
        clear k0 k1
        go_wp2_with fail
        refine C2.out.mono ?_
        rintro e w3 ⟨rfl, hb3⟩
        have hb3' := hba.trans (hb3.mono hba.size)
        have KA3 := Lib.hid (KA1.out.below hb3' KA1.out.lt)
        have HC3 := Lib.hid (HC1.out.below hb3' (Nat.le_refl _))
        have HB3 : Hid (Below w.heap.size w w3) := HB1.out.trans (hb3'.mono HB1.out.size)
        clear hba hb3 hb3'
        obtain ⟨k0, k1⟩ := ask2 KA3.out
        go_wp2_with fail
        refine (mkB_any _ _).mono ?_
        rintro e w4 ⟨rfl, rfl⟩
        have C4 := Lib.hid (countB_any B g0 w3.heap.size z ab r (w3.alloc (.cells #[.int .i64 ab] 3)) (HC3.out.alloc _) (Blk.new _ _ _) hr)
        have HNB2 : Hid ((asksOf r).countP (isB ab) = nb) := HNB
        rw [HNB2.out] at C4
        have hba : Below w3.heap.size w3 (w3.alloc (.cells #[.int .i64 ab] 3)) := (Below.refl _ _).alloc (Nat.le_refl _) _
        clear k0 k1
        go_wp2_with fail
        refine C4.out.mono ?_
        rintro e w5 ⟨rfl, hb5⟩
        have hb5' := hba.trans (hb5.mono hba.size)
        have HB5 : Hid (Below w.heap.size w w5) := HB3.out.trans (hb5'.mono HB3.out.size)
        clear hba hb5 hb5'
        go_wp2
        go_ret
        exact ⟨ret_bool (by have h := HF.out; first | exact h.symm | (rw [h]; simp; omega) | (rw [h]; simp)), HB5.out⟩
    · have h2i : ¬ (np : Int) < 3 := by omega
      have HF : Hid (canB (asksOf r) ⟨ap, ab⟩ m = false) := by show _ = _; rw [HCAN.out, decide_eq_false h2]; simp
      clear h1 h2
      go_enter Tryz.func159, Tryz.ntmps159
      go_upto_region 1 with fail
      rw [HW.out]
      go_wp2_with fail
      refine C1.out.mono ?_
      rintro e w1 ⟨rfl, hb1⟩
      have KA1 := Lib.hid (KA.out.below hb1 KA.out.lt)
      have HC1 := Lib.hid (HC.out.below hb1 (Nat.le_refl _))
      have HB1 : Hid (Below w.heap.size w w1) := HB.out.trans (hb1.mono HB.out.size)
      clear hb1 k0 k1
      obtain ⟨k0, k1⟩ := ask2 KA1.out
      go_wp2_with fail
      refine (mkP_any _ _).mono ?_
      rintro e w2 ⟨rfl, rfl⟩
      have C2 := Lib.hid (countP_any B g0 w1.heap.size z ap r (w1.alloc (.cells #[.int .i64 ap] 3)) (HC1.out.alloc _) (Blk.new _ _ _) hr)
      have HP2 : Hid ((asksOf r).countP (isP ap) = np) := HP
      rw [HP2.out] at C2
      have hba : Below w1.heap.size w1 (w1.alloc (.cells #[.int .i64 ap] 3)) := (Below.refl _ _).alloc (Nat.le_refl _) _
      clear k0 k1
      go_wp2_with fail
      refine C2.out.mono ?_
      rintro e w3 ⟨rfl, hb3⟩
      have hb3' := hba.trans (hb3.mono hba.size)
      have KA3 := Lib.hid (KA1.out.below hb3' KA1.out.lt)
      have HC3 := Lib.hid (HC1.out.below hb3' (Nat.le_refl _))
      have HB3 : Hid (Below w.heap.size w w3) := HB1.out.trans (hb3'.mono HB1.out.size)
      clear hba hb3 hb3'
      go_wp2
      go_ret
      exact ⟨ret_bool (by have h := HF.out; first | exact h.symm | (rw [h]; simp; omega) | (rw [h]; simp)), HB3.out⟩
  · rw [decide_eq_true (show 0 < nh by omega)] at C1
    have HF : Hid (canB (asksOf r) ⟨ap, ab⟩ m = false) := by show _ = _; rw [HCAN.out, decide_eq_false h1]; rfl
    clear h1
    go_enter Tryz.func159, Tryz.ntmps159
    go_upto_region 1 with fail
    rw [HW.out]
    go_wp2_with fail
    refine C1.out.mono ?_
    rintro e w1 ⟨rfl, hb1⟩
    have KA1 := Lib.hid (KA.out.below hb1 KA.out.lt)
    have HC1 := Lib.hid (HC.out.below hb1 (Nat.le_refl _))
    have HB1 : Hid (Below w.heap.size w w1) := HB.out.trans (hb1.mono HB.out.size)
    clear hb1 k0 k1
    go_wp2
    go_ret
    exact ⟨ret_bool (by have h := HF.out; first | exact h.symm | (rw [h]; simp; omega) | (rw [h]; simp)), HB1.out⟩

theorem win_take {xs : List AD} {k : Nat} (h : ∀ j, j < k → fitB xs j = true) : winB (xs.take k) = true := by
  rw [winB_iff]
  intro j hj
  rw [List.length_take] at hj
  have := h j (by omega)
  unfold fitB at this ⊢
  rw [ath_take xs k j (by omega), List.take_take, Nat.min_eq_left (by omega)]
  exact this
/-- What linkAsks hands back. -/
def LinkRet (w : World) (xs : List AD) (e : Ending) (w' : World) : Prop :=
  Below w.heap.size w w' ∧ ((winB xs = true ∧ ∃ g0 z r, e = .returned (.tuple #[.pointer (some ⟨g0, 0, none⟩), .bool true]) ∧ Chain w' w.heap.size ((g0, z) :: r) ∧ asksOf r = xs) ∨ (winB xs = false ∧ e = .returned (.tuple #[.pointer none, .bool false])))

set_option maxHeartbeats 4000000 in
set_option maxRecDepth 100000 in
theorem linkAsks_any (A : Option Addr) (cap : Nat) (xs : List AD) (w : World) (hA : AsksAt w w.heap.size A cap xs) :
    Calls Tryz.prog 130 #[.slice A xs.length cap] w (LinkRet w xs) := by
  have HA := Lib.hid hA
  have hle := hA.le
  have hmx := hA.most
  unfold maxLen at hmx
  clear hA
  obtain ⟨n, HN⟩ : ∃ n, Hid (xs.length = n) := ⟨_, rfl⟩
  rw [HN.out] at hle ⊢
  obtain ⟨W, HW⟩ : ∃ W, Hid (w.alloc (.cells #[.int .i64 0, .int .i64 0, .pointer none] 186) = W) := ⟨_, rfl⟩
  have HB0 : Hid (Below w.heap.size w W) := by rw [← HW.out]; exact (Below.refl _ w).alloc (Nat.le_refl _) _
  have HC0 : Hid (Chain W w.heap.size ((w.heap.size, ⟨0, 0⟩) :: [])) := by rw [← HW.out]; exact Chain.new w
  go_enter Tryz.func130, Tryz.ntmps130
  go_upto_region 2 with fail
  rw [HW.out]
  go_wp2
  go_loopw [11] (fun i wr => ∃ (k : Nat) (r : List (Nat × AD)), k ≤ n ∧ i = .int .i64 (k : Int) ∧ Hid (Chain wr w.heap.size ((w.heap.size, ⟨0, 0⟩) :: r)) ∧ Hid (asksOf r = xs.take k) ∧ Hid (Below w.heap.size w wr) ∧ Hid (∀ j, j < k → fitB xs j = true)) (fun i _ => n - (intOf i).toNat)
  case atStart => exact ⟨0, [], Nat.zero_le _, rfl, HC0, (show [] = xs.take 0 from List.take_zero.symm), HB0, fun j hj => absurd hj (Nat.not_lt_zero _)⟩
  case round =>
    obtain ⟨k, r, hk, rfl, HC, HT, HB, HG⟩ := hrel
    by_cases hlt : k < n
    · have hkz : k < xs.length := by rw [HN.out]; exact hlt
      have hj := HA.out.belowS HB.out
      obtain ⟨b, o, rfl⟩ := hj.row.some_ (by omega)
      obtain ⟨c0, c1⟩ := ask_cells hj.row k hkz
      obtain ⟨ap, HRI⟩ : ∃ x, Hid ((ath xs k).p = x) := ⟨_, rfl⟩
      obtain ⟨ab, HRT⟩ : ∃ x, Hid ((ath xs k).b = x) := ⟨_, rfl⟩
      have HONE : Hid (ath xs k = ⟨ap, ab⟩) := by
        show _ = _
        rw [← HRI.out, ← HRT.out]
      rw [HRI.out] at c0
      rw [HRT.out] at c1
      have hki : (k : Int) < (n : Int) := by omega
      have HRL : Hid (r.length ≤ 1000) := by
        have h1 := winB_short (win_take HG.out)
        rw [← HT.out, asksOf_length] at h1
        show r.length ≤ 1000
        omega
      have HFIT : Hid (fitB xs k = (aOk ⟨ap, ab⟩ && canB (asksOf r) ⟨ap, ab⟩ 2)) := by
        show _ = _
        unfold fitB; rw [HONE.out, HT.out]
      have HNO : Hid (fitB xs k = false → winB xs = false) := winB_no hkz
      have HTK : Hid (xs.take (k + 1) = xs.take k ++ [⟨ap, ab⟩]) := by show _ = _; rw [take_ath xs k hkz, HONE.out]
      obtain ⟨V, HV⟩ : ∃ V, Hid (wr.alloc (.cells #[.int .i64 ap, .int .i64 ab] 105) = V) := ⟨_, rfl⟩
      have KV : Hid (Blk V wr.heap.size 105 #[.int .i64 ap, .int .i64 ab]) := by rw [← HV.out]; exact Blk.new wr _ _
      have HBV : Hid (Below w.heap.size w V) := by rw [← HV.out]; exact HB.out.alloc HB.out.size _
      have HCV : Hid (Chain V w.heap.size ((w.heap.size, ⟨0, 0⟩) :: r)) := by rw [← HV.out]; exact HC.out.alloc _
      have C1 := Lib.hid (askValid_any ⟨ap, ab⟩ V)
      have hVz := KV.out.lt
      clear hkz hj
      go_upto_region 5 with fail
      rw [HV.out]
      clear c0 c1
      obtain ⟨k0, k1⟩ := ask2 KV.out
      cases ho : aOk ⟨ap, ab⟩ with
      | false =>
        rw [ho] at C1
        have HNW : Hid (winB xs = false) := HNO.out (by rw [HFIT.out, ho]; rfl)
        clear ho
        go_wp2_with fail
        refine C1.out.mono ?_
        rintro e w1 ⟨rfl, hb1⟩
        have HB1 : Hid (Below w.heap.size w w1) := HBV.out.trans (hb1.mono HBV.out.size)
        clear hb1 k0 k1
        go_wp2
        go_ret2
        exact ⟨HB1.out, .inr ⟨HNW.out, rfl⟩⟩
      | true =>
        rw [ho] at C1
        have HOK := Lib.hid ho
        clear ho
        go_wp2_with fail
        refine C1.out.mono ?_
        rintro e w1 ⟨rfl, hb1⟩
        have HB1 : Hid (Below w.heap.size w w1) := HBV.out.trans (hb1.mono HBV.out.size)
        have HC1 := Lib.hid (HCV.out.below hb1 (Nat.le_refl _))
        have K1 := Lib.hid (KV.out.below hb1 KV.out.lt)
        have C2 := Lib.hid (permits_any w.heap.size w.heap.size ⟨0, 0⟩ r ⟨ap, ab⟩ 2 w1 HC1.out HRL.out)
        clear hb1 k0 k1
        obtain ⟨k0, k1⟩ := ask2 K1.out
        cases hc : canB (asksOf r) ⟨ap, ab⟩ 2 with
        | false =>
          rw [hc] at C2
          have HNW : Hid (winB xs = false) := HNO.out (by rw [HFIT.out, hc, Bool.and_false])
          clear hc
          go_wp2_with fail
          refine C2.out.mono ?_
          rintro e w2 ⟨rfl, hb2⟩
          have HB2 : Hid (Below w.heap.size w w2) := HB1.out.trans (hb2.mono HB1.out.size)
          clear hb2 k0 k1
          go_wp2
          go_ret2
          exact ⟨HB2.out, .inr ⟨HNW.out, rfl⟩⟩
        | true =>
          rw [hc] at C2
          have HY : Hid (fitB xs k = true) := by show _ = _; rw [HFIT.out, hc, HOK.out]; rfl
          clear hc
          go_wp2_with fail
          refine C2.out.mono ?_
          rintro e w2 ⟨rfl, hb2⟩
          have HB2 : Hid (Below w.heap.size w w2) := HB1.out.trans (hb2.mono HB1.out.size)
          have HC2 := Lib.hid (HC1.out.below hb2 (Nat.le_refl _))
          have K2 := Lib.hid (K1.out.below hb2 K1.out.lt)
          clear hb2 k0 k1
          obtain ⟨k0, k1⟩ := ask2 K2.out
          go_wp2_with fail
          refine (link_any w.heap.size w.heap.size ⟨0, 0⟩ r ⟨ap, ab⟩ w2 HC2.out).mono ?_
          rintro e w3 ⟨rfl, g3, hc3, hb3⟩
          have HB3 : Hid (Below w.heap.size w w3) := HB2.out.trans hb3
          have HC3 := Lib.hid hc3
          have HT3 : Hid (asksOf (r ++ [(g3, ⟨ap, ab⟩)]) = xs.take (k + 1)) := by show _ = _; rw [asksOf_append, HT.out, HTK.out]; rfl
          have HG3 : Hid (∀ j, j < k + 1 → fitB xs j = true) := fun j hj => by
            by_cases e : j = k
            · subst e; exact HY.out
            · exact HG.out j (by omega)
          clear hc3 hb3 k0 k1
          go_wp2
          go_roundw
          case rel => exact ⟨k + 1, r ++ [(g3, ⟨ap, ab⟩)], by omega, by go_num, HC3, HT3, HB3, HG3⟩
          case measure => simp [intOf]; omega
    · have hkn : k = n := by omega
      subst hkn
      have HYES : Hid (winB xs = true) := (winB_iff xs).2 fun j hj => HG.out j (by rw [HN.out] at hj; exact hj)
      have HTT : Hid (asksOf r = xs) := by show _ = _; rw [HT.out, ← HN.out, List.take_length]
      go_wp2
      go_ret2
      exact ⟨HB.out, .inl ⟨HYES.out, _, _, r, rfl, HC.out, HTT.out⟩⟩

set_option maxHeartbeats 4000000 in
set_option maxRecDepth 100000 in
theorem winValid_any (A : Option Addr) (cap : Nat) (xs : List AD) (w : World) (hA : AsksAt w w.heap.size A cap xs) :
    Calls Tryz.prog 84 #[.slice A xs.length cap] w fun e w' => e = .returned (.bool (winB xs)) ∧ Below w.heap.size w w' := by
  have CL := Lib.hid (linkAsks_any A cap xs w hA)
  clear hA
  obtain ⟨n, HN⟩ : ∃ n, Hid (xs.length = n) := ⟨_, rfl⟩
  rw [HN.out] at CL ⊢
  go_enter Tryz.func84, Tryz.ntmps84
  go_wp2_with fail
  refine CL.out.mono ?_
  rintro e w1 ⟨hb1, h1⟩
  have HB1 := Lib.hid hb1
  clear hb1
  rcases h1 with ⟨hw, g0, z, r, rfl, hc, ht⟩ | ⟨hw, rfl⟩
  · have HWN := Lib.hid hw
    clear hw hc ht
    go_wp2
    go_ret
    exact ⟨ret_bool (by rw [HWN.out]), HB1.out⟩
  · have HWN := Lib.hid hw
    clear hw
    go_wp2
    go_ret
    exact ⟨ret_bool (by rw [HWN.out]), HB1.out⟩

/-- Requests and a bool in memory of the call's own. -/
def RetAsksB (w : World) (xs : List AD) (b : Bool) (e : Ending) (w' : World) : Prop :=
  ∃ A c, e = .returned (.tuple #[.slice A xs.length c, .bool b]) ∧ OwnRow AK w' w.heap.size A c xs ∧ Below w.heap.size w w'
/-- Requests and a number in memory of the call's own. -/
def RetAsksN (w : World) (xs : List AD) (k : Int) (e : Ending) (w' : World) : Prop :=
  ∃ A c, e = .returned (.tuple #[.slice A xs.length c, .int .i64 k]) ∧ OwnRow AK w' w.heap.size A c xs ∧ Below w.heap.size w w'
theorem own_new_at {W w : World} (h : Below w.heap.size w W) : OwnRow AK (W.alloc (.cells #[] 105)) w.heap.size (some ⟨W.heap.size, 0, none⟩) 0 [] := (OwnRow.new AK W).base_le h.size









end Go.Proofs.YtkmebilhbjcfpaaGreat
