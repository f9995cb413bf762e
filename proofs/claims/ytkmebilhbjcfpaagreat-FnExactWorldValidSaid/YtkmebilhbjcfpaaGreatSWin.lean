/- Contracts of the model of the windows of requests: it answers as the data say, in memory of the call's own. Condition: the requests lie in memory. -/
import Derived.Test.YtkmebilhbjcfpaaGreatWin
import Derived.Deep.QuietTactic
import Derived.BigQuiet
namespace Go.Proofs.YtkmebilhbjcfpaaGreat
open Go.RowKit
set_option linter.unusedVariables false

theorem two_keep {w w' : World} {b o : Nat} {u v : Value} (h : w.cell? ⟨b, o, none⟩ = some u ∧ w.cell? ⟨b, o + 1, none⟩ = some v) (hb : Below w.heap.size w w') : w'.cell? ⟨b, o, none⟩ = some u ∧ w'.cell? ⟨b, o + 1, none⟩ = some v :=
  ⟨(hb.cell (p := ⟨b, o, none⟩) (World.block_lt_of_cell? w _ h.1)).trans h.1, (hb.cell (p := ⟨b, o + 1, none⟩) (World.block_lt_of_cell? w _ h.2)).trans h.2⟩

set_option maxHeartbeats 4000000 in
set_option maxRecDepth 100000 in
theorem sask_any (a : AD) (w : World) :
    Calls Tryz.prog 62 #[askV a] w fun e w' => e = .returned (.bool (aOk a)) ∧ Below w.heap.size w w' := by
  obtain ⟨ap, ab⟩ := a
  by_cases hp : 0 ≤ ap ∧ ap ≤ 5
  · by_cases hq : 0 ≤ ab ∧ ab ≤ 15
    · have HF : Hid (aOk ⟨ap, ab⟩ = true) := (aOk_iff _).2 ⟨(pOk_iff ap).2 ⟨hp.1, by have := hp.2; omega⟩, hq.1, by have := hq.2; show ab < 16; omega⟩
      have C1 : Hid (∀ U, Calls Tryz.prog 51 #[.int .i64 ap, .int .i64 0, .int .i64 5] U fun e w' => e = .returned (.bool true) ∧ U = w') := fun U => in_yes ap 0 5 U hp.1 hp.2
      have C2 : Hid (∀ U, Calls Tryz.prog 51 #[.int .i64 ab, .int .i64 0, .int .i64 15] U fun e w' => e = .returned (.bool true) ∧ U = w') := fun U => in_yes ab 0 15 U hq.1 hq.2
      clear hp hq
      go_enter Tryz.func62, Tryz.ntmps62
      go_wp2_with fail
      refine (C1.out _).mono ?_
      rintro e w' ⟨rfl, rfl⟩
      go_wp2_with fail
      refine (C2.out _).mono ?_
      rintro e w' ⟨rfl, rfl⟩
      go_wp2
      go_ret
      exact ⟨ret_bool (by have h := HF.out; first | exact h.symm | (rw [h]; simp; omega) | (rw [h]; simp)), (Below.refl _ w).alloc (Nat.le_refl _) _⟩
    · have HF : Hid (aOk ⟨ap, ab⟩ = false) := by
        show (pOk ap && decide (0 ≤ ab ∧ ab < 16)) = false
        rw [decide_eq_false fun k => hq ⟨k.1, by omega⟩, Bool.and_false]
      have C1 : Hid (∀ U, Calls Tryz.prog 51 #[.int .i64 ap, .int .i64 0, .int .i64 5] U fun e w' => e = .returned (.bool true) ∧ U = w') := fun U => in_yes ap 0 5 U hp.1 hp.2
      have C2 : Hid (∀ U, Calls Tryz.prog 51 #[.int .i64 ab, .int .i64 0, .int .i64 15] U fun e w' => e = .returned (.bool false) ∧ U = w') := fun U => in_no ab 0 15 U hq
      clear hp hq
      go_enter Tryz.func62, Tryz.ntmps62
      go_wp2_with fail
      refine (C1.out _).mono ?_
      rintro e w' ⟨rfl, rfl⟩
      go_wp2_with fail
      refine (C2.out _).mono ?_
      rintro e w' ⟨rfl, rfl⟩
      go_wp2
      go_ret
      exact ⟨ret_bool (by have h := HF.out; first | exact h.symm | (rw [h]; simp; omega) | (rw [h]; simp)), (Below.refl _ w).alloc (Nat.le_refl _) _⟩
  · have HF : Hid (aOk ⟨ap, ab⟩ = false) := by
      show (decide (0 ≤ ap ∧ ap < 6) && _) = false
      rw [decide_eq_false fun k => hp ⟨k.1, by omega⟩, Bool.false_and]
    have C1 : Hid (∀ U, Calls Tryz.prog 51 #[.int .i64 ap, .int .i64 0, .int .i64 5] U fun e w' => e = .returned (.bool false) ∧ U = w') := fun U => in_no ap 0 5 U hp
    clear hp
    go_enter Tryz.func62, Tryz.ntmps62
    go_wp2_with fail
    refine (C1.out _).mono ?_
    rintro e w' ⟨rfl, rfl⟩
    go_wp2
    go_ret
    exact ⟨ret_bool (by have h := HF.out; first | exact h.symm | (rw [h]; simp; omega) | (rw [h]; simp)), (Below.refl _ w).alloc (Nat.le_refl _) _⟩

set_option maxHeartbeats 4000000 in
set_option maxRecDepth 100000 in
theorem speer_any (A : Option Addr) (cap : Nat) (xs : List AD) (v : Int) (w : World) (hA : AsksAt w w.heap.size A cap xs) :
    Calls Tryz.prog 64 #[.slice A xs.length cap, .int .i64 v] w fun e w' => e = .returned (.int .i64 ((xs.countP (isP v) : Nat) : Int)) ∧ Below w.heap.size w w' := by
  have HA := Lib.hid hA
  have hle := hA.le
  have hmx := hA.most
  unfold maxLen at hmx
  clear hA
  obtain ⟨n, HN⟩ : ∃ n, Hid (xs.length = n) := ⟨_, rfl⟩
  rw [HN.out] at hle ⊢
  go_enter Tryz.func64, Tryz.ntmps64
  go_wp2
  go_loopw [5, 6] (fun c i w' => ∃ (k m : Nat), k ≤ n ∧ m ≤ k ∧ c = .int .i64 (m : Int) ∧ i = .int .i64 (k : Int) ∧ w' = w ∧ Hid ((xs.take k).countP (isP v) = m)) (fun _ i _ => n - (intOf i).toNat)
  case atStart => exact ⟨0, 0, Nat.zero_le _, Nat.le_refl _, rfl, rfl, rfl, by rw [List.take_zero]; rfl⟩
  case round =>
    obtain ⟨k, m, hk, hm, rfl, rfl, rfl, HC⟩ := hrel
    by_cases hlt : k < n
    · have hkz : k < xs.length := by rw [HN.out]; exact hlt
      obtain ⟨b, o, rfl⟩ := HA.out.row.some_ (by omega)
      obtain ⟨c0, c1⟩ := ask_cells HA.out.row k hkz
      obtain ⟨ap, HRI⟩ : ∃ x, Hid ((ath xs k).p = x) := ⟨_, rfl⟩
      obtain ⟨ab, HRT⟩ : ∃ x, Hid ((ath xs k).b = x) := ⟨_, rfl⟩
      have HST : Hid ((xs.take (k + 1)).countP (isP v) = m + (if isP v (ath xs k) = true then 1 else 0)) := by
        show _ = _
        rw [count_step _ xs k hkz, HC.out]
      have HIS : Hid (isP v (ath xs k) = (ap == v)) := by show _ = _; rw [← HRI.out]; rfl
      rw [HRI.out] at c0
      rw [HRT.out] at c1
      have hki : (k : Int) < (n : Int) := by omega
      clear hkz
      by_cases he : ap = v
      · subst he
        have HS2 : Hid ((xs.take (k + 1)).countP (isP ap) = m + 1) := by
          show _ = _
          rw [HST.out, HIS.out, beq_self_eq_true, if_pos rfl]
        go_wp2
        go_roundw
        case rel => exact ⟨k + 1, m + 1, by omega, by omega, by go_num, by go_num, (by first | trivial | rfl), HS2⟩
        case measure => simp [intOf]; omega
      · have HS2 : Hid ((xs.take (k + 1)).countP (isP v) = m) := by
          show _ = _
          rw [HST.out, HIS.out, beq_eq_false_iff_ne.2 he]; rfl
        go_wp2
        go_roundw
        case rel => exact ⟨k + 1, m, by omega, by omega, rfl, by go_num, (by first | trivial | rfl), HS2⟩
        case measure => simp [intOf]; omega
    · have hkn : k = n := by omega
      subst hkn
      have HF : Hid (xs.countP (isP v) = m) := by
        show _ = _
        have h := HC.out
        rw [← HN.out, List.take_length] at h
        exact h
      go_wp2
      go_ret
      exact ⟨ret_int (by rw [HF.out]), Below.refl _ _⟩

set_option maxHeartbeats 4000000 in
set_option maxRecDepth 100000 in
theorem sblock_any (A : Option Addr) (cap : Nat) (xs : List AD) (v : Int) (w : World) (hA : AsksAt w w.heap.size A cap xs) :
    Calls Tryz.prog 65 #[.slice A xs.length cap, .int .i64 v] w fun e w' => e = .returned (.int .i64 ((xs.countP (isB v) : Nat) : Int)) ∧ Below w.heap.size w w' := by
  have HA := Lib.hid hA
  have hle := hA.le
  have hmx := hA.most
  unfold maxLen at hmx
  clear hA
  obtain ⟨n, HN⟩ : ∃ n, Hid (xs.length = n) := ⟨_, rfl⟩
  rw [HN.out] at hle ⊢
  go_enter Tryz.func65, Tryz.ntmps65
  go_wp2
  go_loopw [5, 6] (fun c i w' => ∃ (k m : Nat), k ≤ n ∧ m ≤ k ∧ c = .int .i64 (m : Int) ∧ i = .int .i64 (k : Int) ∧ w' = w ∧ Hid ((xs.take k).countP (isB v) = m)) (fun _ i _ => n - (intOf i).toNat)
  case atStart => exact ⟨0, 0, Nat.zero_le _, Nat.le_refl _, rfl, rfl, rfl, by rw [List.take_zero]; rfl⟩
  case round =>
    obtain ⟨k, m, hk, hm, rfl, rfl, rfl, HC⟩ := hrel
    by_cases hlt : k < n
    · have hkz : k < xs.length := by rw [HN.out]; exact hlt
      obtain ⟨b, o, rfl⟩ := HA.out.row.some_ (by omega)
      obtain ⟨c0, c1⟩ := ask_cells HA.out.row k hkz
      obtain ⟨ap, HRI⟩ : ∃ x, Hid ((ath xs k).p = x) := ⟨_, rfl⟩
      obtain ⟨ab, HRT⟩ : ∃ x, Hid ((ath xs k).b = x) := ⟨_, rfl⟩
      have HST : Hid ((xs.take (k + 1)).countP (isB v) = m + (if isB v (ath xs k) = true then 1 else 0)) := by
        show _ = _
        rw [count_step _ xs k hkz, HC.out]
      have HIS : Hid (isB v (ath xs k) = (ab == v)) := by show _ = _; rw [← HRT.out]; rfl
      rw [HRI.out] at c0
      rw [HRT.out] at c1
      have hki : (k : Int) < (n : Int) := by omega
      clear hkz
      by_cases he : ab = v
      · subst he
        have HS2 : Hid ((xs.take (k + 1)).countP (isB ab) = m + 1) := by
          show _ = _
          rw [HST.out, HIS.out, beq_self_eq_true, if_pos rfl]
        go_wp2
        go_roundw
        case rel => exact ⟨k + 1, m + 1, by omega, by omega, by go_num, by go_num, (by first | trivial | rfl), HS2⟩
        case measure => simp [intOf]; omega
      · have HS2 : Hid ((xs.take (k + 1)).countP (isB v) = m) := by
          show _ = _
          rw [HST.out, HIS.out, beq_eq_false_iff_ne.2 he]; rfl
        go_wp2
        go_roundw
        case rel => exact ⟨k + 1, m, by omega, by omega, rfl, by go_num, (by first | trivial | rfl), HS2⟩
        case measure => simp [intOf]; omega
    · have hkn : k = n := by omega
      subst hkn
      have HF : Hid (xs.countP (isB v) = m) := by
        show _ = _
        have h := HC.out
        rw [← HN.out, List.take_length] at h
        exact h
      go_wp2
      go_ret
      exact ⟨ret_int (by rw [HF.out]), Below.refl _ _⟩

set_option maxHeartbeats 4000000 in
set_option maxRecDepth 100000 in
theorem shas_any (A : Option Addr) (cap : Nat) (xs : List AD) (a : AD) (w : World) (hA : AsksAt w w.heap.size A cap xs) :
    Calls Tryz.prog 63 #[.slice A xs.length cap, askV a] w fun e w' => e = .returned (.bool (decide (0 < cH xs a))) ∧ Below w.heap.size w w' := by
  obtain ⟨vp, vb⟩ := a
  have hle := hA.le
  have hmx := hA.most
  unfold maxLen at hmx
  obtain ⟨W, HW⟩ : ∃ W, Hid (w.alloc (.cells #[.int .i64 vp, .int .i64 vb] 105) = W) := ⟨_, rfl⟩
  have KA : Hid (Blk W w.heap.size 105 #[.int .i64 vp, .int .i64 vb]) := by rw [← HW.out]; exact Blk.new w _ _
  have HB : Hid (Below w.heap.size w W) := by rw [← HW.out]; exact (Below.refl _ w).alloc (Nat.le_refl _) _
  have HA := Lib.hid (hA.belowS HB.out)
  obtain ⟨k0, k1⟩ := ask2 KA.out
  clear hA
  obtain ⟨n, HN⟩ : ∃ n, Hid (xs.length = n) := ⟨_, rfl⟩
  rw [HN.out] at hle ⊢
  go_enter Tryz.func63, Tryz.ntmps63
  go_upto_region 1 with fail
  rw [HW.out]
  go_wp2
  go_loopw [5] (fun i w' => ∃ (k q : Nat), k ≤ n ∧ i = .int .i64 (k : Int) ∧ w' = W.drewN q ∧ Hid (cH (xs.take k) ⟨vp, vb⟩ = 0)) (fun i _ => n - (intOf i).toNat)
  case atStart => exact ⟨0, 0, Nat.zero_le _, rfl, rfl, by rw [List.take_zero]; rfl⟩
  case round =>
    obtain ⟨k, q, hk, rfl, rfl, HC⟩ := hrel
    by_cases hlt : k < n
    · have hkz : k < xs.length := by rw [HN.out]; exact hlt
      obtain ⟨b, o, rfl⟩ := HA.out.row.some_ (by omega)
      obtain ⟨c0, c1⟩ := ask_cells HA.out.row k hkz
      obtain ⟨ap, HRI⟩ : ∃ x, Hid ((ath xs k).p = x) := ⟨_, rfl⟩
      obtain ⟨ab, HRT⟩ : ∃ x, Hid ((ath xs k).b = x) := ⟨_, rfl⟩
      have HST : Hid (cH (xs.take (k + 1)) ⟨vp, vb⟩ = (if isA ⟨vp, vb⟩ (ath xs k) = true then 1 else 0)) := by
        show (xs.take (k + 1)).countP _ = _
        have h := HC.out
        unfold cH at h
        rw [count_step _ xs k hkz, h, Nat.zero_add]
      have HUP : Hid (isA ⟨vp, vb⟩ (ath xs k) = true → 0 < cH xs ⟨vp, vb⟩) := fun h => by
        have h1 := count_upto (isA ⟨vp, vb⟩) xs k hkz h
        unfold cH; omega
      have HIS : Hid (isA ⟨vp, vb⟩ (ath xs k) = (ap == vp && ab == vb)) := by show _ = _; rw [← HRI.out, ← HRT.out]; rfl
      rw [HRI.out] at c0
      rw [HRT.out] at c1
      have hk0 : (0 : Int) ≤ (k : Int) := by omega
      have hki : (k : Int) < (n : Int) := by omega
      clear hkz
      by_cases he : ap = vp ∧ ab = vb
      · obtain ⟨e1, e2⟩ := he
        subst e1 e2
        have HF : Hid (decide (0 < cH xs ⟨ap, ab⟩) = true) := decide_eq_true (HUP.out (by rw [HIS.out, beq_self_eq_true, beq_self_eq_true]; rfl))
        go_wp2_with fail
        go_quiet (fail)
        go_wp2
        go_ret
        exact ⟨ret_bool (by have h := HF.out; first | exact h.symm | (rw [h]; simp; omega) | (rw [h]; simp)), below_drewN (below_drewN HB.out _) _⟩
      · have hne : (ap == vp && ab == vb) = false := by
          rw [Bool.eq_false_iff]
          intro h
          rw [Bool.and_eq_true, beq_iff_eq, beq_iff_eq] at h
          exact he h
        have HS2 : Hid (cH (xs.take (k + 1)) ⟨vp, vb⟩ = 0) := by
          show _ = _
          rw [HST.out, HIS.out, hne]; rfl
        clear hne
        by_cases e1 : ap = vp
        · have e2 : ¬ ab = vb := fun h => he ⟨e1, h⟩
          subst e1
          clear he
          go_wp2_with fail
          go_quiet (fail)
          go_wp2
          go_roundw
          case rel => exact ⟨k + 1, _, by omega, by go_num, rfl, HS2⟩
          case measure => simp [intOf]; omega
        · clear he
          go_wp2_with fail
          go_quiet (fail)
          go_wp2
          go_roundw
          case rel => exact ⟨k + 1, _, by omega, by go_num, rfl, HS2⟩
          case measure => simp [intOf]; omega
    · have hkn : k = n := by omega
      subst hkn
      have HF : Hid (decide (0 < cH xs ⟨vp, vb⟩) = false) := by
        have h := HC.out
        rw [← HN.out, List.take_length] at h
        exact decide_eq_false (by omega)
      go_wp2
      go_ret
      exact ⟨ret_bool (by have h := HF.out; first | exact h.symm | (rw [h]; simp; omega) | (rw [h]; simp)), below_drewN HB.out _⟩

end Go.Proofs.YtkmebilhbjcfpaaGreat
